/-
  The contract of atoms: eight entries, laid in any order.
-/
import Derived.Test.YtkieljleopbhoaaDoorAtomsM
namespace Go.Proofs.YtkieljleopbhoaaDoor.Lex
open Go.ChangeShapes Go.WideShapes Go.ChangeAt Go.RowKit Go.Joins Go.WideMaps Go.WideElems Go.Maps
theorem left_upd {b : Nat → Bool} {k : Nat} (hk : k < 8) (hb : b k = false) : left b = left (upd b k) + 1 := by
  rcases cases8 hk with rfl | rfl | rfl | rfl | rfl | rfl | rfl | rfl <;> simp [left, upd, hb] <;> omega
theorem left_none {b : Nat → Bool} (h : left b = 0) : ∀ k, k < 8 → b k = true := fun k hk => by
  cases e : b k with
  | true => rfl
  | false => have := left_upd hk e; omega
theorem L35_upd (b : Nat → Bool) {k : Nat} (hk : k < 8) : (L35 b).setIfInBounds (2 + 2 * k) true = L35 (upd b k) := by
  rcases cases8 hk with rfl | rfl | rfl | rfl | rfl | rfl | rfl | rfl <;> simp [L35, upd]
theorem L35_at (b : Nat → Bool) {k : Nat} (hk : k < 8) (d : Bool) : (L35 b).getD (2 + 2 * k) d = b k := by
  rcases cases8 hk with rfl | rfl | rfl | rfl | rfl | rfl | rfl | rfl <;> rfl
def all35 (x y : Bool) : Array Bool := #[true, true, true, true, true, true, true, true, true, true, true, true, true, true, true, true, true, x, y]
theorem all35_at (x y : Bool) {d : Bool} {i : Nat} (h : i < 17) : (all35 x y).getD i d = true := by
  have : i = 0 ∨ i = 1 ∨ i = 2 ∨ i = 3 ∨ i = 4 ∨ i = 5 ∨ i = 6 ∨ i = 7 ∨ i = 8 ∨ i = 9 ∨ i = 10 ∨ i = 11 ∨ i = 12 ∨ i = 13 ∨ i = 14 ∨ i = 15 ∨ i = 16 := by omega
  rcases this with rfl | rfl | rfl | rfl | rfl | rfl | rfl | rfl | rfl | rfl | rfl | rfl | rfl | rfl | rfl | rfl | rfl <;> rfl
theorem all35_at' (y : Bool) {d : Bool} {i : Nat} (h : i < 18) : (all35 true y).getD i d = true := by
  by_cases e : i < 17
  · exact all35_at _ _ e
  · obtain rfl : i = 17 := by omega
    rfl
theorem ready_18 {ops : Array Oper} (O : Ops35 ops) {i : Nat} (h : i ∈ Region.ready .any ops (all35 true false)) : i = 18 := by
  obtain ⟨h1, o, h2, _⟩ := mem_ready.1 h
  have hi : i < 19 := by have := (Array.getElem?_eq_some_iff.1 h2).1; rw [O.size] at this; exact this
  by_cases e : i < 18
  · rw [all35_at' false e] at h1; cases h1
  · omega
/-- Which may come up. -/
theorem ready35 {ops : Array Oper} (O : Ops35 ops) {b : Nat → Bool} {i : Nat} (h : i ∈ Region.ready .any ops (L35 b)) : (∃ k, k < 8 ∧ i = 2 + 2 * k ∧ b k = false) ∨ (i = 17 ∧ ∀ k, k < 8 → b k = true) := by
  obtain ⟨h1, o, h2, h3⟩ := mem_ready.1 h
  have hi : i < 19 := by have := (Array.getElem?_eq_some_iff.1 h2).1; rw [O.size] at this; exact this
  by_cases h17 : i = 17
  · subst h17
    refine .inr ⟨rfl, fun k hk => ?_⟩
    obtain ⟨p, af, e, hm, _⟩ := O.o17
    rw [e] at h2
    cases h2
    have := h3 _ (hm k hk) rfl
    rw [L35_at b hk] at this
    exact this
  · by_cases h18 : i = 18
    · subst h18
      obtain ⟨p, af, e, hm, _⟩ := O.o18
      rw [e] at h2
      cases h2
      have := h3 _ hm rfl
      cases this
    · left
      by_cases he : i % 2 = 0 ∧ 2 ≤ i
      · refine ⟨i / 2 - 1, by omega, by omega, ?_⟩
        rw [← L35_at b (k := i / 2 - 1) (by omega) true, show 2 + 2 * (i / 2 - 1) = i by omega]
        exact h1
      · exfalso
        have : i = 0 ∨ i = 1 ∨ i = 3 ∨ i = 5 ∨ i = 7 ∨ i = 9 ∨ i = 11 ∨ i = 13 ∨ i = 15 := by omega
        rcases this with rfl | rfl | rfl | rfl | rfl | rfl | rfl | rfl | rfl <;> cases h1
theorem ins_ready {ops : Array Oper} (O : Ops35 ops) {b : Nat → Bool} {k : Nat} (hk : k < 8) (hb : b k = false) : 2 + 2 * k ∈ Region.ready .any ops (L35 b) := by
  obtain ⟨p, hp⟩ := O.ins k hk
  refine mem_ready.2 ⟨by rw [L35_at b hk]; exact hb, _, hp, fun e he _ => ?_⟩
  simp only [List.mem_toArray, List.mem_cons, List.not_mem_nil, or_false] at he
  rcases he with rfl | rfl
  · rfl
  · rcases cases8 hk with rfl | rfl | rfl | rfl | rfl | rfl | rfl | rfl <;> rfl
theorem grownM {a b c : World} {r : Option Nat} (h : a.grownBy b r) (k : b.grownBy c r) : a.grownBy c r := grown_on h k
set_option maxRecDepth 100000 in
/-- The inserts, in any order, then the two last ones. -/
theorem inserts {ops : Array Oper} (O : Ops35 ops) {Q : Exit → Act → World → Prop} {a : Act} {mp : Nat} (h1 : a.eval (.tmp 1) = .map (some mp)) (hk : ∀ k, k < 8 → a.eval (.tmp (2 + k)) = aKey k) (hsz : a.tmps.size = 11) (w0 : World)
    (hQ : ∀ w, w0.grownBy w (some mp) → AtM (fun _ => true) mp 0 w → Q .normal ((a.put (some 10) (.map (some mp))).put (some 0) (.map (some mp))) w) :
    ∀ (n : Nat) (b : Nat → Bool) (w : World), left b = n → AtM b mp n w → w0.grownBy w (some mp) → wpAnyH Tryd.prog .any ops Q (fun _ => True) (n + 2) (L35 b) a w
  | 0, b, w, hn, hA, hg => by
    have hall := left_none hn
    have hA' : AtM (fun _ => true) mp 0 w := by
      obtain ⟨es, clock, e1, e2, e3, e4, e5⟩ := hA
      exact ⟨es, clock, e1, e2, e3, fun x hx => by obtain ⟨k, q1, q2, q3⟩ := e4 x hx; exact ⟨k, q1, rfl, q3⟩, fun k hk' _ => e5 k hk' (hall k hk')⟩
    have eL : L35 b = all35 false false := by
      simp [L35, all35, hall]
    obtain ⟨p17, af17, e17, _, n17⟩ := O.o17
    obtain ⟨p18, af18, e18, _, n18⟩ := O.o18
    rw [eL]
    refine ⟨fun he => ?_, fun i hi => ?_⟩
    · exfalso
      have : 17 ∈ Region.ready .any ops (all35 false false) := mem_ready.2 ⟨rfl, _, e17, fun e hm _ => all35_at _ _ (n17 e hm)⟩
      rw [he] at this
      cases this
    · have h17 : i = 17 := by
        rw [← eL] at hi
        rcases ready35 O hi with ⟨k, hk', _, hb⟩ | ⟨e, _⟩
        · rw [hall k hk'] at hb; cases hb
        · exact e
      subst h17
      refine wpOp_step e17 fun K hK => ?_
      refine if_take rfl ?_
      show Oper.upon _ _ _ _ _ _
      have e : (execOp a.eval { dst := some 10, op := Op.move (.tmp 1), type := 68, pos := p17, after := af17, guard := none }).run Tryd.prog w = .ok (.value (.map (some mp))) w := by
        simp only [execOp, h1]
        rfl
      rw [e, Oper.upon_value]
      refine hK _ _ ⟨trivial, ?_⟩
      rw [show (all35 false false).setIfInBounds 17 true = all35 true false from rfl]
      refine ⟨fun he => ?_, fun i hi => ?_⟩
      · exfalso
        have : 18 ∈ Region.ready .any ops (all35 true false) := mem_ready.2 ⟨rfl, _, e18, fun e hm _ => all35_at' _ (n18 e hm)⟩
        rw [he] at this
        cases this
      · have h18 := ready_18 O hi
        subst h18
        refine wpOp_step e18 fun K hK => ?_
        refine if_take rfl ?_
        show Oper.upon _ _ _ _ _ _
        have e10 : (a.put (some 10) (.map (some mp))).eval (.tmp 10) = .map (some mp) := by
          simp [Act.put, Act.eval, hsz]
        have e : (execOp (a.put (some 10) (.map (some mp))).eval { dst := some 0, op := Op.assign (.tmp 10), type := 68, pos := p18, after := af18, guard := none }).run Tryd.prog w = .ok (.value (.map (some mp))) w := by
          simp only [execOp, e10]
          rfl
        rw [e, Oper.upon_value]
        refine hK _ _ ⟨trivial, ?_, hQ w hg hA'⟩
        rw [List.eq_nil_iff_forall_not_mem]
        intro i hi
        obtain ⟨q1, o, q2, _⟩ := mem_ready.1 hi
        have hi19 : i < 19 := by have := (Array.getElem?_eq_some_iff.1 q2).1; rw [O.size] at this; exact this
        have : (all35 true true).getD i true = true := by
          by_cases h : i < 18
          · exact all35_at' (d := true) true h
          · obtain rfl : i = 18 := by omega
            rfl
        rw [show (all35 true false).setIfInBounds 18 true = all35 true true from rfl, this] at q1
        cases q1
  | n + 1, b, w, hn, hA, hg => by
    refine ⟨fun he => ?_, fun i hi => ?_⟩
    · exfalso
      have : ∃ k, k < 8 ∧ b k = false := by
        by_cases hc : ∃ k, k < 8 ∧ b k = false
        · exact hc
        · have : left b = 0 := by
            have hb : ∀ k, k < 8 → b k = true := fun k hk => by
              cases e : b k with
              | true => rfl
              | false => exact (hc ⟨k, hk, e⟩).elim
            simp [left, hb]
          omega
      obtain ⟨k, hk', hb⟩ := this
      have := ins_ready O hk' hb
      rw [he] at this
      cases this
    · rcases ready35 O hi with ⟨k, hk', rfl, hb⟩ | ⟨_, hall⟩
      · obtain ⟨w', hr, hA', hg'⟩ := hA.more hk' hb
        obtain ⟨p, hp⟩ := O.ins k hk'
        refine wpOp_step hp fun K hK => ?_
        refine if_take rfl ?_
        show Oper.upon _ _ _ _ _ _
        have e : (execOp a.eval (insOp k p)).run Tryd.prog w = .ok .skip w' := by
          simp only [execOp, h1, hk k hk']
          rw [show a.eval (.func (aR k).2.2) = aVal k from rfl]
          simp [hr, Result.andThen]
        rw [e, Oper.upon_skip]
        refine hK _ _ ⟨trivial, ?_⟩
        rw [L35_upd b hk']
        exact inserts O h1 hk hsz w0 hQ n (upd b k) w' (by have := left_upd hk' hb; omega) hA' (grownM hg hg')
      · have : left b = 0 := by simp [left, hall]
        omega
theorem AtM.none (mp : Nat) (w : World) (h : w.heap[mp]? = some (.map #[] 0)) : AtM (fun _ => false) mp 8 w :=
  ⟨#[], 0, h, ⟨by simp, ⟨fun _ h => by simp at h, by simp, by simp⟩, fun _ h => by simp at h⟩, by simp, fun _ h => by simp at h, fun _ _ h => by cases h⟩
set_option maxRecDepth 100000 in
set_option maxHeartbeats 1000000 in
theorem atoms (w : World) : Calls Tryd.prog 35 #[] w fun e w' => ∃ mp, e = .returned (.map (some mp)) ∧ AtM (fun _ => true) mp 0 w' ∧ w.heap.size = mp ∧ Below w.heap.size w w' := by
  have hmm := @run_makeMap Tryd.prog
  go_enter Tryd.func35, Tryd.ntmps35
  go_wp2
  refine wp_region_held_drew (S := fun _ => True) (by kernel_rfl) trivial (fun _ => ?_)
  refine wpAnyH_take (i := 1) (oi := { dst := some 2, op := Op.build 81 #[(0, Operand.const (Value.int IntKind.u8 1)), (1, Operand.const (Value.string { data := #[] }))], type := 81, pos := _, after := #[], guard := none }) (v := aKey 0) rfl (by kernel_rfl) (by kernel_rfl) (by kernel_rfl) (fun _ _ _ h => h) (Or.inl ⟨by rfl, ?_⟩) (by assumption) ?_
  · intro w hSw; (try dsimp only at hSw); go_simp; rfl
  simp only [Act.put, List.setIfInBounds_toArray, List.set_cons_zero, List.set_cons_succ]
  refine wpAnyH_take (i := 3) (oi := { dst := some 3, op := Op.build 81 #[(0, Operand.const (Value.int IntKind.u8 1)), (1, Operand.const (Value.string { data := #[116, 114, 117, 101] }))], type := 81, pos := _, after := #[], guard := none }) (v := aKey 1) rfl (by kernel_rfl) (by kernel_rfl) (by kernel_rfl) (fun _ _ _ h => h) (Or.inl ⟨by rfl, ?_⟩) (by assumption) ?_
  · intro w hSw; (try dsimp only at hSw); go_simp; rfl
  simp only [Act.put, List.setIfInBounds_toArray, List.set_cons_zero, List.set_cons_succ]
  refine wpAnyH_take (i := 5) (oi := { dst := some 4, op := Op.build 81 #[(0, Operand.const (Value.int IntKind.u8 1)), (1, Operand.const (Value.string { data := #[102, 97, 108, 115, 101] }))], type := 81, pos := _, after := #[], guard := none }) (v := aKey 2) rfl (by kernel_rfl) (by kernel_rfl) (by kernel_rfl) (fun _ _ _ h => h) (Or.inl ⟨by rfl, ?_⟩) (by assumption) ?_
  · intro w hSw; (try dsimp only at hSw); go_simp; rfl
  simp only [Act.put, List.setIfInBounds_toArray, List.set_cons_zero, List.set_cons_succ]
  refine wpAnyH_take (i := 7) (oi := { dst := some 5, op := Op.build 81 #[(0, Operand.const (Value.int IntKind.u8 2)), (1, Operand.const (Value.string { data := #[] }))], type := 81, pos := _, after := #[], guard := none }) (v := aKey 3) rfl (by kernel_rfl) (by kernel_rfl) (by kernel_rfl) (fun _ _ _ h => h) (Or.inl ⟨by rfl, ?_⟩) (by assumption) ?_
  · intro w hSw; (try dsimp only at hSw); go_simp; rfl
  simp only [Act.put, List.setIfInBounds_toArray, List.set_cons_zero, List.set_cons_succ]
  refine wpAnyH_take (i := 9) (oi := { dst := some 6, op := Op.build 81 #[(0, Operand.const (Value.int IntKind.u8 3)), (1, Operand.const (Value.string { data := #[40] }))], type := 81, pos := _, after := #[], guard := none }) (v := aKey 4) rfl (by kernel_rfl) (by kernel_rfl) (by kernel_rfl) (fun _ _ _ h => h) (Or.inl ⟨by rfl, ?_⟩) (by assumption) ?_
  · intro w hSw; (try dsimp only at hSw); go_simp; rfl
  simp only [Act.put, List.setIfInBounds_toArray, List.set_cons_zero, List.set_cons_succ]
  refine wpAnyH_take (i := 11) (oi := { dst := some 7, op := Op.build 81 #[(0, Operand.const (Value.int IntKind.u8 3)), (1, Operand.const (Value.string { data := #[45] }))], type := 81, pos := _, after := #[], guard := none }) (v := aKey 5) rfl (by kernel_rfl) (by kernel_rfl) (by kernel_rfl) (fun _ _ _ h => h) (Or.inl ⟨by rfl, ?_⟩) (by assumption) ?_
  · intro w hSw; (try dsimp only at hSw); go_simp; rfl
  simp only [Act.put, List.setIfInBounds_toArray, List.set_cons_zero, List.set_cons_succ]
  refine wpAnyH_take (i := 13) (oi := { dst := some 8, op := Op.build 81 #[(0, Operand.const (Value.int IntKind.u8 1)), (1, Operand.const (Value.string { data := #[110, 111, 116] }))], type := 81, pos := _, after := #[], guard := none }) (v := aKey 6) rfl (by kernel_rfl) (by kernel_rfl) (by kernel_rfl) (fun _ _ _ h => h) (Or.inl ⟨by rfl, ?_⟩) (by assumption) ?_
  · intro w hSw; (try dsimp only at hSw); go_simp; rfl
  simp only [Act.put, List.setIfInBounds_toArray, List.set_cons_zero, List.set_cons_succ]
  refine wpAnyH_take (i := 15) (oi := { dst := some 9, op := Op.build 81 #[(0, Operand.const (Value.int IntKind.u8 1)), (1, Operand.const (Value.string { data := #[112, 114, 101] }))], type := 81, pos := _, after := #[], guard := none }) (v := aKey 7) rfl (by kernel_rfl) (by kernel_rfl) (by kernel_rfl) (fun _ _ _ h => h) (Or.inl ⟨by rfl, ?_⟩) (by assumption) ?_
  · intro w hSw; (try dsimp only at hSw); go_simp; rfl
  simp only [Act.put, List.setIfInBounds_toArray, List.set_cons_zero, List.set_cons_succ]
  refine wpAnyH_ready (rs := [0]) (by kernel_rfl) (by simp) ?_
  refine AllReadyH.cons (o := { dst := some 1, op := Op.makeMap 68 none, type := 68, pos := _, after := #[], guard := none }) rfl (fun K hK => ?_) AllReadyH.nil
  go_simp
  go_wp2_with fail
  refine hK.out _ _ trivial (fun _ => ?_)
  clear hK K
  rename_i K hK _ _
  refine inserts (mp := w.heap.size) ⟨rfl, ?_, ⟨_, _, rfl, ?_, ?_⟩, ⟨_, _, rfl, ?_, ?_⟩⟩ rfl ?_ rfl (w.alloc (.map #[] 0)).drew (fun w2 hg hA => ?_) 8 (fun _ => false) _ rfl (AtM.none _ _ (heap_alloc_new w _)) (World.grownBy.refl _ _)
  · intro k hk; rcases cases8 hk with rfl | rfl | rfl | rfl | rfl | rfl | rfl | rfl <;> exact ⟨_, rfl⟩
  · intro k hk; rcases cases8 hk with rfl | rfl | rfl | rfl | rfl | rfl | rfl | rfl <;> simp
  · simp
  · simp
  · simp
  · intro k hk; rcases cases8 hk with rfl | rfl | rfl | rfl | rfl | rfl | rfl | rfl <;> rfl
  · refine hK _ _ ?_
    simp only [Act.put, List.setIfInBounds_toArray, List.set_cons_zero, List.set_cons_succ]
    go_wp2
    go_ret
    have b1 : Below w.heap.size w (w.alloc (.map #[] 0)).drew := below_drewN ((Below.refl _ _).alloc (Nat.le_refl _) (.map #[] 0)) 1
    exact ⟨_, rfl, hA, rfl, b1.grown hg (by simp [World.drew]) (fun k e => by cases e; exact Nat.le_refl _)⟩
end Go.Proofs.YtkieljleopbhoaaDoor.Lex
