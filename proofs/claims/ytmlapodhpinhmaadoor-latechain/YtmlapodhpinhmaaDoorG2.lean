/-
  The contract of TwinExpr, whatever it is.
  Whether the twin is as it was: the contracts of LeftExprs and LeftExpr.
  The table of operators of two, and the contract of joinOf.
  Whether a part has the fields of its operator: the contracts of partsOf, hasItsFields, and of the document's own.
  Whether it may be: how great it is, part by part; the contracts of fits and Check.
  Programs, as they stand in memory.
  The things of a program, one by one: the contracts of names.things and of the function that it hands back.
  What a name is: the contract of names.Find.
  The reader of tokens in memory; the contract of peek.
  The operator of two that a token is: the contract of joinAt.
  The reader goes on by a token: the contracts of yes, no, name, number, pass.
  What is worked out, in blocks of which something is known: it stays where others are written.
  What a reader's step answers; the contracts of yes, no, name, number.
-/
import Derived.Test.YtmlapodhpinhmaaDoorG1
import Derived.Deep.RegionHeld3
import Derived.Laws.Tables
import Derived.Laws.ResultCell
import Derived.WalkSmall
import Derived.Maps.AppendAt
import Derived.Laws.OwnMore
import Derived.ProofKit
import Derived.OpenShut
import Derived.ShutString
import Derived.ChangeOld
import Derived.RangeFuncNested
import Derived.RangeFuncBound
import Derived.RangeFuncCalls
import Derived.RangeFuncLeaves
import Derived.Shelf.Abstract
import Derived.Shelf.RegionOpen
import Derived.OwnWalkIn
import Derived.TacticsInMore
import Derived.LoopNIn
import Derived.LoopIn
import Derived.BigRegionIn
import Derived.BigQuiet
namespace Go.Proofs.YtmlapodhpinhmaaDoor.Lex
open Go.ChangeShapes Go.WideShapes Go.ChangeAt Go.RowKit Go.Joins
theorem two_boxes (w w3 : World) (c d : Array Value) (t : TypeId) (hb : Below (((w.alloc (.cells c t)).alloc (.cells d t)).drew).heap.size ((w.alloc (.cells c t)).alloc (.cells d t)).drew w3) :
    (∀ j v, c[j]? = some v → w3.cell? ⟨w.heap.size, j, none⟩ = some v) ∧ (∀ j v, d[j]? = some v → w3.cell? ⟨w.heap.size + 1, j, none⟩ = some v) ∧ w3.heap[w.heap.size + 1]? = some (.cells d t (0, 0)) := by
  have e : (w.alloc (.cells c t)).heap.size = w.heap.size + 1 := by simp
  have h1 : ((w.alloc (.cells c t)).alloc (.cells d t)).heap[w.heap.size]? = some (.cells c t (0, 0)) := by
    rw [Below.heap_alloc _ _ _ (by rw [e]; omega)]; exact heap_alloc_new w _
  have h2 : ((w.alloc (.cells c t)).alloc (.cells d t)).heap[w.heap.size + 1]? = some (.cells d t (0, 0)) := by
    have := heap_alloc_new (w.alloc (.cells c t)) (.cells d t)
    rwa [e] at this
  have hl1 := (Array.getElem?_eq_some_iff.1 h1).1
  have hl2 := (Array.getElem?_eq_some_iff.1 h2).1
  have k1 : w3.heap[w.heap.size]? = some (.cells c t (0, 0)) := (hb.block _ hl1).trans h1
  have k2 : w3.heap[w.heap.size + 1]? = some (.cells d t (0, 0)) := (hb.block _ hl2).trans h2
  exact ⟨fun j v h => by rw [cell_of_row _ _ _ _ t (0, 0) k1]; exact h, fun j v h => by rw [cell_of_row _ _ _ _ t (0, 0) k2]; exact h, k2⟩
theorem if_take {c : Prop} [Decidable c] {p q : Prop} (hc : c) (h : p) : if c then p else q := by rw [if_pos hc]; exact h
theorem info25 : (Tryd.prog.info? 53).map (·.size) = some 4 := by kernel_rfl
theorem box_first (w : World) (c d : Array Value) (t : TypeId) : ∀ j v, c[j]? = some v → ((w.alloc (.cells c t)).alloc (.cells d t)).drew.cell? ⟨w.heap.size, j, none⟩ = some v := fun j v h =>
  (two_boxes w _ c d t (Below.refl _ _)).1 j v h
set_option maxRecDepth 100000 in
set_option maxHeartbeats 1000000 in
theorem twin_of (x : Ex) (ih : ∀ i (h : i < x.args.length), TwinC x.args[i]) : TwinC x := by
  intro w s hS
  obtain ⟨ao, cap, sl, rfl, hop, hn, hnm, hlen, hcap, _, _⟩ := hS.out
  have b1 := (Below.refl w.heap.size w).alloc (Nat.le_refl _) (.cells #[.int .u8 (x.op : Int), .int .i64 x.n, .string x.name, .slice ao x.args.length cap] 53)
  have b2 := bstep b1 ((Below.refl _ _).alloc (Nat.le_refl _) (.cells #[.int .u8 0, .int .i64 0, .string ByteArray.empty, .slice none 0 0] 53))
  have c := fun W (hb : Below w.heap.size w W) => twins x ih W _ (hS.keep hb)
  have H2 := hid b2
  have B0 := box_first w #[.int .u8 (x.op : Int), .int .i64 x.n, .string x.name, .slice ao x.args.length cap] #[.int .u8 0, .int .i64 0, .string ByteArray.empty, .slice none 0 0] 53
  clear hS ih b1 b2
  go_enter Tryd.func73, Tryd.ntmps73
  go_wp2
  refine wp_region_held_drew (S := fun W => W.cell? ⟨w.heap.size, 0, none⟩ = some (.int .u8 (x.op : Int)) ∧ W.cell? ⟨w.heap.size, 1, none⟩ = some (.int .i64 x.n) ∧ W.cell? ⟨w.heap.size, 2, none⟩ = some (.string x.name) ∧ W.cell? ⟨w.heap.size, 3, none⟩ = some (.slice ao x.args.length cap)) (by kernel_rfl) ?_ (fun hHeld => ?_)
  · exact ⟨B0 0 _ rfl, B0 1 _ rfl, B0 2 _ rfl, B0 3 _ rfl⟩
  refine wpAnyH_take (i := 0) (oi := { dst := some 3, op := Go.Op.fieldAddr 53 (Go.Operand.tmp 1) 0, type := 0, pos := _, after := #[], guard := none }) (v := ?_) rfl (by kernel_rfl) (by kernel_rfl) (by kernel_rfl) (fun _ _ _ h => h) (Or.inl ⟨by rfl, ?_⟩) (by assumption) ?_
  rotate_left
  · intro w hSw; (try dsimp only at hSw); go_simp <;> with_reducible rfl
  simp only [Act.put, List.setIfInBounds_toArray, List.set_cons_zero, List.set_cons_succ]
  refine wpAnyH_take (i := 1) (oi := { dst := some 4, op := Go.Op.load 50 (Go.Operand.tmp 3), type := 50, pos := _, after := #[{ on := 0, ground := Go.Ground.data }], guard := none }) (v := ?_) rfl (by kernel_rfl) (by kernel_rfl) (by kernel_rfl) (fun _ _ _ h => h) (Or.inl ⟨by rfl, ?_⟩) (by assumption) ?_
  rotate_left
  · intro w hSw; (try dsimp only at hSw); go_simp <;> with_reducible rfl
  simp only [Act.put, List.setIfInBounds_toArray, List.set_cons_zero, List.set_cons_succ]
  refine wpAnyH_take (i := 2) (oi := { dst := some 5, op := Go.Op.fieldAddr 53 (Go.Operand.tmp 1) 1, type := 0, pos := _, after := #[], guard := none }) (v := ?_) rfl (by kernel_rfl) (by kernel_rfl) (by kernel_rfl) (fun _ _ _ h => h) (Or.inl ⟨by rfl, ?_⟩) (by assumption) ?_
  rotate_left
  · intro w hSw; (try dsimp only at hSw); go_simp <;> with_reducible rfl
  simp only [Act.put, List.setIfInBounds_toArray, List.set_cons_zero, List.set_cons_succ]
  refine wpAnyH_take (i := 3) (oi := { dst := some 6, op := Go.Op.load 2 (Go.Operand.tmp 5), type := 2, pos := _, after := #[{ on := 2, ground := Go.Ground.data }], guard := none }) (v := ?_) rfl (by kernel_rfl) (by kernel_rfl) (by kernel_rfl) (fun _ _ _ h => h) (Or.inl ⟨by rfl, ?_⟩) (by assumption) ?_
  rotate_left
  · intro w hSw; (try dsimp only at hSw); go_simp <;> with_reducible rfl
  simp only [Act.put, List.setIfInBounds_toArray, List.set_cons_zero, List.set_cons_succ]
  refine wpAnyH_take (i := 4) (oi := { dst := some 7, op := Go.Op.fieldAddr 53 (Go.Operand.tmp 1) 2, type := 0, pos := _, after := #[], guard := none }) (v := ?_) rfl (by kernel_rfl) (by kernel_rfl) (by kernel_rfl) (fun _ _ _ h => h) (Or.inl ⟨by rfl, ?_⟩) (by assumption) ?_
  rotate_left
  · intro w hSw; (try dsimp only at hSw); go_simp <;> with_reducible rfl
  simp only [Act.put, List.setIfInBounds_toArray, List.set_cons_zero, List.set_cons_succ]
  refine wpAnyH_take (i := 5) (oi := { dst := some 8, op := Go.Op.load 9 (Go.Operand.tmp 7), type := 9, pos := _, after := #[{ on := 4, ground := Go.Ground.data }], guard := none }) (v := ?_) rfl (by kernel_rfl) (by kernel_rfl) (by kernel_rfl) (fun _ _ _ h => h) (Or.inl ⟨by rfl, ?_⟩) (by assumption) ?_
  rotate_left
  · intro w hSw; (try dsimp only at hSw); go_simp <;> with_reducible rfl
  simp only [Act.put, List.setIfInBounds_toArray, List.set_cons_zero, List.set_cons_succ]
  refine wpAnyH_take (i := 6) (oi := { dst := some 9, op := Go.Op.fieldAddr 53 (Go.Operand.tmp 1) 3, type := 0, pos := _, after := #[], guard := none }) (v := ?_) rfl (by kernel_rfl) (by kernel_rfl) (by kernel_rfl) (fun _ _ _ h => h) (Or.inl ⟨by rfl, ?_⟩) (by assumption) ?_
  rotate_left
  · intro w hSw; (try dsimp only at hSw); go_simp <;> with_reducible rfl
  simp only [Act.put, List.setIfInBounds_toArray, List.set_cons_zero, List.set_cons_succ]
  refine wpAnyH_take (i := 7) (oi := { dst := some 10, op := Go.Op.load 51 (Go.Operand.tmp 9), type := 51, pos := _, after := #[{ on := 6, ground := Go.Ground.data }], guard := none }) (v := ?_) rfl (by kernel_rfl) (by kernel_rfl) (by kernel_rfl) (fun _ _ _ h => h) (Or.inl ⟨by rfl, ?_⟩) (by assumption) ?_
  rotate_left
  · intro w hSw; (try dsimp only at hSw); go_simp <;> with_reducible rfl
  simp only [Act.put, List.setIfInBounds_toArray, List.set_cons_zero, List.set_cons_succ]
  refine wpAnyH_ready (rs := [8]) (by kernel_rfl) (by simp) ?_
  refine AllReadyH.cons (o := { dst := some 11, op := Go.Op.call { callee := Go.Callee.value (Go.Operand.func 82), args := #[Go.Operand.tmp 10], argTypes := #[51] }, type := 51, pos := _, after := #[{ on := 7, ground := Go.Ground.data }], guard := none }) rfl (fun K hK => ?_) AllReadyH.nil
  go_simp
  refine (c _ H2.out.drew).mono ?_
  rintro e w3 ⟨s3, rfl, ht3, hb3⟩
  obtain ⟨t3, c3, _, rfl, _⟩ := ht3.st.out
  obtain ⟨p1, p2, p3⟩ := two_boxes w w3 _ _ 53 hb3
  go_wp2_with fail
  refine hK.out _ _ ?_ (fun hHeld1 => ?_)
  · exact ⟨p1 0 _ rfl, p1 1 _ rfl, p1 2 _ rfl, p1 3 _ rfl⟩
  clear hK K
  refine wpAnyH_take (i := 9) (oi := { dst := some 12, op := Go.Op.build 53 #[(0, Go.Operand.tmp 4), (1, Go.Operand.tmp 6), (2, Go.Operand.tmp 8), (3, Go.Operand.tmp 11)], type := 53, pos := _, after := #[{ on := 1, ground := Go.Ground.data }, { on := 3, ground := Go.Ground.data }, { on := 5, ground := Go.Ground.data }, { on := 8, ground := Go.Ground.data }], guard := none }) (v := ?_) rfl (by kernel_rfl) (by kernel_rfl) (by kernel_rfl) (fun _ _ _ h => h) (Or.inl ⟨by rfl, ?_⟩) (by assumption) ?_
  rotate_left
  · intro w hSw; (try dsimp only at hSw); go_simp <;> with_reducible rfl
  simp only [Act.put, List.setIfInBounds_toArray, List.set_cons_zero, List.set_cons_succ]
  refine wpAnyH_ready (rs := [10]) (by kernel_rfl) (by simp) ?_
  refine AllReadyH.cons (o := { dst := none, op := Go.Op.store 53 (Go.Operand.tmp 2) (Go.Operand.tmp 12), type := 0, pos := _, after := #[{ on := 9, ground := Go.Ground.data }, { on := 8, ground := Go.Ground.chain }, { on := 0, ground := Go.Ground.phase }, { on := 1, ground := Go.Ground.phase }, { on := 2, ground := Go.Ground.phase }, { on := 3, ground := Go.Ground.phase }, { on := 4, ground := Go.Ground.phase }, { on := 5, ground := Go.Ground.phase }, { on := 6, ground := Go.Ground.phase }, { on := 7, ground := Go.Ground.phase }, { on := 8, ground := Go.Ground.phase }, { on := 9, ground := Go.Ground.phase }], guard := none }) rfl (fun K hK => ?_) AllReadyH.nil
  refine if_take (by rfl) ?_
  refine wp_store_row 53 _ _ rfl (w.heap.size + 1) #[.int .u8 (x.op : Int), .int .i64 x.n, .string x.name, .slice t3 x.args.length c3] rfl rfl 53 _ p3 info25 rfl (by simp [Value.oneCell']) ?_
  refine hK.out _ _ ?_ (fun _ => ?_)
  · have hne : w.heap.size ≠ w.heap.size + 1 := by omega
    have kk : ∀ j v, w3.cell? ⟨w.heap.size, j, none⟩ = some v → (w3.setRow (w.heap.size + 1) #[.int .u8 (x.op : Int), .int .i64 x.n, .string x.name, .slice t3 x.args.length c3]).cell? ⟨w.heap.size, j, none⟩ = some v := fun j v h => by
      rw [World.cell?_of_block (w := w3) (a := ⟨w.heap.size, j, none⟩) (setRow_other w3 _ _ _ hne)]
      exact h
    exact ⟨kk _ _ (p1 0 _ rfl), kk _ _ (p1 1 _ rfl), kk _ _ (p1 2 _ rfl), kk _ _ (p1 3 _ rfl)⟩
  clear hK K
  refine wpAnyH_done (by kernel_rfl) ?_ _
  go_wp2
  refine bodyPost_ret (results_cell_row rfl _ _ (w.heap.size + 1) 53 #[.int .u8 (x.op : Int), .int .i64 x.n, .string x.name, .slice t3 x.args.length c3] (0, 0) _ rfl (setRow_heap _ _ _ _ _ _ p3) Tryd.underlying53 rfl info25) rfl ⟨_, rfl, ?_, ?_⟩
  · have hlo : w.heap.size + 2 ≤ (((w.alloc (.cells #[.int .u8 (x.op : Int), .int .i64 x.n, .string x.name, .slice ao x.args.length cap] 53)).alloc (.cells #[.int .u8 0, .int .i64 0, .string ByteArray.empty, .slice none 0 0] 53)).drew).heap.size := by simp
    exact (ht3.carry fun b hb _ => setRow_other w3 _ _ _ (by have := hb; omega)).low (by omega)
  · exact below_row (bstep H2.out.drew hb3) (by have := (bstep H2.out.drew hb3).size; omega) (by omega) _
/-- TwinExpr. -/
theorem twin_any : ∀ (m : Nat) (x : Ex), SizeOf.sizeOf x ≤ m → TwinC x := by
  intro m
  induction m with
  | zero => intro x h; obtain ⟨o, n, s, l⟩ := x; simp at h
  | succ m ih => intro x h; exact twin_of x fun i hi => ih _ (by have := x.part_lt i hi; omega)
end Go.Proofs.YtmlapodhpinhmaaDoor.Lex
namespace Go.Proofs.YtmlapodhpinhmaaDoor.Lex
open Go.ChangeShapes Go.WideShapes Go.ChangeAt Go.RowKit Go.Joins
def LeftC (x : Ex) : Prop := ∀ (w : World) (lo : Nat) (st s : Value), Tw w lo x st → St w x s → Calls Tryd.prog 77 #[exV x st, exV x s] w fun e w' => e = .returned (.bool true) ∧ Below w.heap.size w w'
theorem Tw.out {w : World} {lo : Nat} {x : Ex} {s : Value} (h : Tw w lo x s) : ∃ (b cap : Nat) (sl : Nat → Value), s = .slice (some ⟨b, 0, none⟩) x.args.length cap ∧ x.args.length ≤ 2513169434843 ∧ x.args.length < cap ∧
    (∀ i (h : i < x.args.length), w.cell? ⟨b, i * 4, none⟩ = some (.int .u8 (x.args[i].op : Int)) ∧ w.cell? ⟨b, i * 4 + 1, none⟩ = some (.int .i64 x.args[i].n) ∧ w.cell? ⟨b, i * 4 + 2, none⟩ = some (.string x.args[i].name) ∧ w.cell? ⟨b, i * 4 + 3, none⟩ = some (sl i)) ∧
    (w.cell? ⟨b, x.args.length * 4, none⟩ = some (.int .u8 0) ∧ w.cell? ⟨b, x.args.length * 4 + 1, none⟩ = some (.int .i64 0) ∧ w.cell? ⟨b, x.args.length * 4 + 2, none⟩ = some (.string spare) ∧ w.cell? ⟨b, x.args.length * 4 + 3, none⟩ = some (.slice none 0 0)) ∧
    ∀ i (h : i < x.args.length), Tw w lo x.args[i] (sl i) := by
  obtain ⟨b, cap, sl, e, _, _, _, _, hlen, hcap, hc, hsp, hs⟩ := h.full
  exact ⟨b, cap, sl, e, hlen, hcap, hc, hsp, hs⟩
set_option maxRecDepth 100000 in
set_option maxHeartbeats 2000000 in
theorem lefts (x : Ex) (ih : ∀ i (h : i < x.args.length), LeftC x.args[i]) (w : World) (lo : Nat) (st s : Value) (hT : Tw w lo x st) (hS : St w x s) :
    Calls Tryd.prog 85 #[st, s] w fun e w' => e = .returned (.bool true) ∧ Below w.heap.size w w' := by
  obtain ⟨ao, cap, sl, rfl, _, _, _, hlen, _, hc, hs⟩ := hS.out
  obtain ⟨b, cp, tl, rfl, _, hcp, htc, hsp, hts⟩ := hT.out
  have HS := hid hs
  have HC := hid hc
  have HI := hid ih
  have HT := hid htc
  have HTS := hid hts
  have HP := hid hsp
  have hne : ((x.args.length : Int) != (x.args.length : Int)) = false := by simp
  have hcp' : ¬ (cp : Int) ≤ (x.args.length : Int) := by omega
  clear hs hc ih hS hT htc hts hsp
  go_enter Tryd.func85, Tryd.ntmps85
  go_wp2
  go_loopw [5] (fun i wr => ∃ k : Nat, k ≤ x.args.length ∧ i = .int .i64 (k : Int) ∧ Hid (Below w.heap.size w wr)) (fun i _ => x.args.length - (intOf i).toNat)
  case atStart => exact ⟨0, Nat.zero_le _, rfl, Below.refl _ _⟩
  case round =>
    obtain ⟨k, hk, rfl, hB⟩ := hrel
    by_cases hlt : k < x.args.length
    · have hlt' : (k : Int) < (x.args.length : Int) := by omega
      have hk0 : (0 : Int) ≤ (k : Int) := by omega
      obtain ⟨bb, o, rfl, hcc⟩ := HC.out.resolve_left (by omega)
      obtain ⟨a0, a1, a2, a3⟩ := hcc k hlt
      obtain ⟨t0, t1, t2, t3⟩ := HT.out k hlt
      have v0 := cell_kept a0 hB.out
      have v1 := cell_kept a1 hB.out
      have v2 := cell_kept a2 hB.out
      have v3 := cell_kept a3 hB.out
      have u0 := cell_kept t0 hB.out
      have u1 := cell_kept t1 hB.out
      have u2 := cell_kept t2 hB.out
      have u3 := cell_kept t3 hB.out
      have hst := HS.out k hlt
      have htw := HTS.out k hlt
      have c0 := HI.out k hlt
      generalize x.args[k] = y at *
      clear a0 a1 a2 a3 hcc t0 t1 t2 t3
      generalize sl k = sv at *
      generalize tl k = tv at *
      obtain ⟨a3, c3, _, rfl, _⟩ := hst.out
      obtain ⟨b2, c2, _, rfl, _⟩ := htw.out
      have c := fun W (hb : Below w.heap.size w W) => c0 W lo _ _ (htw.keep hb) (hst.keep hb)
      clear hst htw c0
      go_wp2
      refine wp_region_held_drew (S := fun W => (W.cell? ⟨b, k * 4, none⟩ = some (.int .u8 (y.op : Int)) ∧ W.cell? ⟨b, k * 4 + 1, none⟩ = some (.int .i64 y.n) ∧ W.cell? ⟨b, k * 4 + 2, none⟩ = some (.string y.name) ∧ W.cell? ⟨b, k * 4 + 3, none⟩ = some (.slice (some ⟨b2, 0, none⟩) y.args.length c2)) ∧ W.cell? ⟨bb, o + k * 4, none⟩ = some (.int .u8 (y.op : Int)) ∧ W.cell? ⟨bb, o + k * 4 + 1, none⟩ = some (.int .i64 y.n) ∧ W.cell? ⟨bb, o + k * 4 + 2, none⟩ = some (.string y.name) ∧ W.cell? ⟨bb, o + k * 4 + 3, none⟩ = some (.slice a3 y.args.length c3)) (by kernel_rfl) ?_ (fun hHeld => ?_)
      · exact ⟨⟨u0, u1, u2, u3⟩, v0, v1, v2, v3⟩
      refine wpAnyH_take (i := 0) (oi := { dst := some 25, op := Go.Op.move (Go.Operand.tmp 0), type := 51, pos := _, after := #[], guard := none }) (v := ?_) rfl (by kernel_rfl) (by kernel_rfl) (by kernel_rfl) (fun _ _ _ h => h) (Or.inl ⟨by rfl, ?_⟩) (by assumption) ?_
      rotate_left
      · intro w hSw; (try dsimp only at hSw); go_simp <;> with_reducible rfl
      simp only [Act.put, List.setIfInBounds_toArray, List.set_cons_zero, List.set_cons_succ]
      refine wpAnyH_take (i := 1) (oi := { dst := some 26, op := Go.Op.move (Go.Operand.tmp 5), type := 3, pos := _, after := #[], guard := none }) (v := ?_) rfl (by kernel_rfl) (by kernel_rfl) (by kernel_rfl) (fun _ _ _ h => h) (Or.inl ⟨by rfl, ?_⟩) (by assumption) ?_
      rotate_left
      · intro w hSw; (try dsimp only at hSw); go_simp <;> with_reducible rfl
      simp only [Act.put, List.setIfInBounds_toArray, List.set_cons_zero, List.set_cons_succ]
      refine wpAnyH_take (i := 2) (oi := { dst := some 27, op := Go.Op.indexAddr 51 (Go.Operand.tmp 25) (Go.Operand.tmp 26), type := 0, pos := _, after := #[{ on := 0, ground := Go.Ground.data }, { on := 1, ground := Go.Ground.data }], guard := none }) (v := ?_) rfl (by kernel_rfl) (by kernel_rfl) (by kernel_rfl) (fun _ _ _ h => h) (Or.inl ⟨by rfl, ?_⟩) (by assumption) ?_
      rotate_left
      · intro w hSw; (try dsimp only at hSw); go_simp <;> with_reducible rfl
      simp only [Act.put, List.setIfInBounds_toArray, List.set_cons_zero, List.set_cons_succ]
      refine wpAnyH_take (i := 3) (oi := { dst := some 28, op := Go.Op.load 53 (Go.Operand.tmp 27), type := 53, pos := _, after := #[{ on := 2, ground := Go.Ground.data }], guard := none }) (v := ?_) rfl (by kernel_rfl) (by kernel_rfl) (by kernel_rfl) (fun _ _ _ h => h) (Or.inl ⟨by rfl, ?_⟩) (by assumption) ?_
      rotate_left
      · intro w hSw; (try dsimp only at hSw); go_simp <;> with_reducible rfl
      simp only [Act.put, List.setIfInBounds_toArray, List.set_cons_zero, List.set_cons_succ]
      refine wpAnyH_take (i := 4) (oi := { dst := some 29, op := Go.Op.move (Go.Operand.tmp 1), type := 51, pos := _, after := #[], guard := none }) (v := ?_) rfl (by kernel_rfl) (by kernel_rfl) (by kernel_rfl) (fun _ _ _ h => h) (Or.inl ⟨by rfl, ?_⟩) (by assumption) ?_
      rotate_left
      · intro w hSw; (try dsimp only at hSw); go_simp <;> with_reducible rfl
      simp only [Act.put, List.setIfInBounds_toArray, List.set_cons_zero, List.set_cons_succ]
      refine wpAnyH_take (i := 5) (oi := { dst := some 30, op := Go.Op.move (Go.Operand.tmp 5), type := 3, pos := _, after := #[], guard := none }) (v := ?_) rfl (by kernel_rfl) (by kernel_rfl) (by kernel_rfl) (fun _ _ _ h => h) (Or.inl ⟨by rfl, ?_⟩) (by assumption) ?_
      rotate_left
      · intro w hSw; (try dsimp only at hSw); go_simp <;> with_reducible rfl
      simp only [Act.put, List.setIfInBounds_toArray, List.set_cons_zero, List.set_cons_succ]
      refine wpAnyH_take (i := 6) (oi := { dst := some 31, op := Go.Op.indexAddr 51 (Go.Operand.tmp 29) (Go.Operand.tmp 30), type := 0, pos := _, after := #[{ on := 4, ground := Go.Ground.data }, { on := 5, ground := Go.Ground.data }], guard := none }) (v := ?_) rfl (by kernel_rfl) (by kernel_rfl) (by kernel_rfl) (fun _ _ _ h => h) (Or.inl ⟨by rfl, ?_⟩) (by assumption) ?_
      rotate_left
      · intro w hSw; (try dsimp only at hSw); go_simp <;> with_reducible rfl
      simp only [Act.put, List.setIfInBounds_toArray, List.set_cons_zero, List.set_cons_succ]
      refine wpAnyH_take (i := 7) (oi := { dst := some 32, op := Go.Op.load 53 (Go.Operand.tmp 31), type := 53, pos := _, after := #[{ on := 6, ground := Go.Ground.data }], guard := none }) (v := ?_) rfl (by kernel_rfl) (by kernel_rfl) (by kernel_rfl) (fun _ _ _ h => h) (Or.inl ⟨by rfl, ?_⟩) (by assumption) ?_
      rotate_left
      · intro w hSw; (try dsimp only at hSw); go_simp <;> with_reducible rfl
      simp only [Act.put, List.setIfInBounds_toArray, List.set_cons_zero, List.set_cons_succ]
      refine wpAnyH_ready (rs := [8]) (by kernel_rfl) (by simp) ?_
      refine AllReadyH.cons (o := { dst := some 33, op := Go.Op.call { callee := Go.Callee.value (Go.Operand.func 77), args := #[Go.Operand.tmp 28, Go.Operand.tmp 32], argTypes := #[53, 53] }, type := 4, pos := _, after := #[{ on := 3, ground := Go.Ground.data }, { on := 7, ground := Go.Ground.data }], guard := none }) rfl (fun K hK => ?_) AllReadyH.nil
      go_simp
      refine (c _ (hB.out.drew)).mono ?_
      rintro e w4 ⟨rfl, hb4⟩
      go_wp2_with fail
      refine hK.out _ _ ?_ (fun hHeld1 => ?_)
      · exact ⟨⟨cell_kept (w := wr.drew) u0 hb4, cell_kept (w := wr.drew) u1 hb4, cell_kept (w := wr.drew) u2 hb4, cell_kept (w := wr.drew) u3 hb4⟩, cell_kept (w := wr.drew) v0 hb4, cell_kept (w := wr.drew) v1 hb4, cell_kept (w := wr.drew) v2 hb4, cell_kept (w := wr.drew) v3 hb4⟩
      clear hK K
      refine wpAnyH_take (i := 9) (oi := { dst := some 34, op := Go.Op.unOp Go.UnOp.not 4 (Go.Operand.tmp 33), type := 4, pos := _, after := #[{ on := 8, ground := Go.Ground.data }], guard := none }) (v := ?_) rfl (by kernel_rfl) (by kernel_rfl) (by kernel_rfl) (fun _ _ _ h => h) (Or.inl ⟨by rfl, ?_⟩) (by assumption) ?_
      rotate_left
      · intro w hSw; (try dsimp only at hSw); go_simp <;> with_reducible rfl
      simp only [Act.put, List.setIfInBounds_toArray, List.set_cons_zero, List.set_cons_succ]
      refine wpAnyH_done (by kernel_rfl) ?_ _
      go_wp2
      go_roundw
      case rel => exact ⟨k + 1, by omega, by go_num, bstep hB.out.drew hb4⟩
      case measure => simp [intOf]; omega
    · have hlt' : ¬ (k : Int) < (x.args.length : Int) := by omega
      obtain ⟨p0, p1, p2, p3⟩ := HP.out
      have q0 := cell_kept p0 hB.out
      have q1 := cell_kept p1 hB.out
      have q2 := cell_kept p2 hB.out
      have q3 := cell_kept p3 hB.out
      unfold spare at q2
      have hle1 : (x.args.length : Int) + 1 ≤ (cp : Int) := by omega
      have hle2 : (x.args.length : Int) < (x.args.length : Int) + 1 := by omega
      have hle3 : (0 : Int) ≤ (x.args.length : Int) := by omega
      clear p0 p1 p2 p3
      go_wp2
      go_ret
      exact ⟨rfl, bstep hB.out ((Below.refl _ _).alloc (Nat.le_refl _) _)⟩
set_option maxRecDepth 100000 in
theorem left_of (x : Ex) (ih : ∀ i (h : i < x.args.length), LeftC x.args[i]) : LeftC x := by
  intro w lo st s hT hS
  have hs := fun W hT hS => lefts x ih W lo st s hT hS
  obtain ⟨ao, cap, sl, rfl, _⟩ := hS.out
  obtain ⟨b, cp, tl, rfl, _⟩ := hT.out
  have e1 : ((x.op : Int) == (x.op : Int)) = true := by simp
  have e2 : (x.n == x.n) = true := by simp
  have e3 : (x.name.toList == x.name.toList) = true := by simp
  have b1 := (Below.refl w.heap.size w).alloc (Nat.le_refl _) (.cells #[.int .u8 (x.op : Int), .int .i64 x.n, .string x.name, .slice (some ⟨b, 0, none⟩) x.args.length cp] 53)
  have b2 := bstep b1 ((Below.refl _ _).alloc (Nat.le_refl _) (.cells #[.int .u8 (x.op : Int), .int .i64 x.n, .string x.name, .slice ao x.args.length cap] 53))
  have HT := hid (hT.keep b2)
  have HS := hid (hS.keep b2)
  have HB := hid b2
  clear hT hS b1 b2 ih
  go_enter Tryd.func77, Tryd.ntmps77
  go_wp2_with (go_at_call 85; refine (hs _ HT.out HS.out).mono ?_; rintro e w2 ⟨rfl, hb2⟩)
  go_ret
  exact ⟨rfl, bstep HB.out hb2⟩
/-- LeftExpr of a twin. -/
theorem left_any : ∀ (m : Nat) (x : Ex), SizeOf.sizeOf x ≤ m → LeftC x := by
  intro m
  induction m with
  | zero => intro x h; obtain ⟨o, n, s, l⟩ := x; simp at h
  | succ m ih => intro x h; exact left_of x fun i hi => ih _ (by have := x.part_lt i hi; omega)
end Go.Proofs.YtmlapodhpinhmaaDoor.Lex
namespace Go.Proofs.YtmlapodhpinhmaaDoor.Lex
open Go.ChangeShapes Go.WideShapes Go.ChangeAt Go.RowKit Go.Joins
/-- An operator of two: its number, its token, its rank, those that its places ask for. -/
structure J where
  op : Nat
  kind : Nat
  text : ByteArray
  rank : Nat
  first : Nat
  second : Nat
def JT : List J := [⟨18, 3, ⟨#[45, 62]⟩, 0, 1, 0⟩, ⟨16, 1, ⟨#[111, 114]⟩, 1, 1, 2⟩, ⟨15, 1, ⟨#[97, 110, 100]⟩, 2, 2, 3⟩, ⟨11, 3, ⟨#[61, 61]⟩, 3, 4, 4⟩, ⟨12, 3, ⟨#[33, 61]⟩, 3, 4, 4⟩, ⟨13, 3, ⟨#[60]⟩, 3, 4, 4⟩, ⟨14, 3, ⟨#[60, 61]⟩, 3, 4, 4⟩, ⟨6, 3, ⟨#[43]⟩, 4, 4, 5⟩, ⟨7, 3, ⟨#[45]⟩, 4, 4, 5⟩, ⟨8, 3, ⟨#[42]⟩, 5, 5, 6⟩, ⟨9, 3, ⟨#[47]⟩, 5, 5, 6⟩, ⟨10, 3, ⟨#[37]⟩, 5, 5, 6⟩]
def j0 : J := ⟨0, 0, ByteArray.empty, 0, 0, 0⟩
def jR (k : Nat) : J := JT.getD k j0
def jrow (r : J) : Array Value := #[.int .u8 (r.op : Int), .int .u8 (r.kind : Int), .string r.text, .int .i64 (r.rank : Int), .int .i64 (r.first : Int), .int .i64 (r.second : Int)]
def joinV : Array Value := #[.int .u8 18, .int .u8 3, .string ⟨#[45, 62]⟩, .int .i64 0, .int .i64 1, .int .i64 0, .int .u8 16, .int .u8 1, .string ⟨#[111, 114]⟩, .int .i64 1, .int .i64 1, .int .i64 2, .int .u8 15, .int .u8 1, .string ⟨#[97, 110, 100]⟩, .int .i64 2, .int .i64 2, .int .i64 3, .int .u8 11, .int .u8 3, .string ⟨#[61, 61]⟩, .int .i64 3, .int .i64 4, .int .i64 4, .int .u8 12, .int .u8 3, .string ⟨#[33, 61]⟩, .int .i64 3, .int .i64 4, .int .i64 4, .int .u8 13, .int .u8 3, .string ⟨#[60]⟩, .int .i64 3, .int .i64 4, .int .i64 4, .int .u8 14, .int .u8 3, .string ⟨#[60, 61]⟩, .int .i64 3, .int .i64 4, .int .i64 4, .int .u8 6, .int .u8 3, .string ⟨#[43]⟩, .int .i64 4, .int .i64 4, .int .i64 5, .int .u8 7, .int .u8 3, .string ⟨#[45]⟩, .int .i64 4, .int .i64 4, .int .i64 5, .int .u8 8, .int .u8 3, .string ⟨#[42]⟩, .int .i64 5, .int .i64 5, .int .i64 6, .int .u8 9, .int .u8 3, .string ⟨#[47]⟩, .int .i64 5, .int .i64 5, .int .i64 6, .int .u8 10, .int .u8 3, .string ⟨#[37]⟩, .int .i64 5, .int .i64 5, .int .i64 6]
/-- The table stands in its variable. -/
def TabJ (w : World) : Prop := ∃ t fz, w.heap[1]? = some (.cells joinV t fz)
theorem TabJ.below {w w' : World} (h : TabJ w) (hb : Below w.heap.size w w') : TabJ w' := by
  obtain ⟨t, fz, h⟩ := h
  exact ⟨t, fz, (hb.block 1 (Array.getElem?_eq_some_iff.1 h).1).trans h⟩
theorem j_index_0 (w : World) : (Instr.index 142 (.agg joinV) (.int .i64 0)).run Tryd.prog w = .ok (.agg #[.int .u8 18, .int .u8 3, .string ⟨#[45, 62]⟩, .int .i64 0, .int .i64 1, .int .i64 0]) w := by kernel_rfl
theorem j_index_1 (w : World) : (Instr.index 142 (.agg joinV) (.int .i64 1)).run Tryd.prog w = .ok (.agg #[.int .u8 16, .int .u8 1, .string ⟨#[111, 114]⟩, .int .i64 1, .int .i64 1, .int .i64 2]) w := by kernel_rfl
theorem j_index_2 (w : World) : (Instr.index 142 (.agg joinV) (.int .i64 2)).run Tryd.prog w = .ok (.agg #[.int .u8 15, .int .u8 1, .string ⟨#[97, 110, 100]⟩, .int .i64 2, .int .i64 2, .int .i64 3]) w := by kernel_rfl
theorem j_index_3 (w : World) : (Instr.index 142 (.agg joinV) (.int .i64 3)).run Tryd.prog w = .ok (.agg #[.int .u8 11, .int .u8 3, .string ⟨#[61, 61]⟩, .int .i64 3, .int .i64 4, .int .i64 4]) w := by kernel_rfl
theorem j_index_4 (w : World) : (Instr.index 142 (.agg joinV) (.int .i64 4)).run Tryd.prog w = .ok (.agg #[.int .u8 12, .int .u8 3, .string ⟨#[33, 61]⟩, .int .i64 3, .int .i64 4, .int .i64 4]) w := by kernel_rfl
theorem j_index_5 (w : World) : (Instr.index 142 (.agg joinV) (.int .i64 5)).run Tryd.prog w = .ok (.agg #[.int .u8 13, .int .u8 3, .string ⟨#[60]⟩, .int .i64 3, .int .i64 4, .int .i64 4]) w := by kernel_rfl
theorem j_index_6 (w : World) : (Instr.index 142 (.agg joinV) (.int .i64 6)).run Tryd.prog w = .ok (.agg #[.int .u8 14, .int .u8 3, .string ⟨#[60, 61]⟩, .int .i64 3, .int .i64 4, .int .i64 4]) w := by kernel_rfl
theorem j_index_7 (w : World) : (Instr.index 142 (.agg joinV) (.int .i64 7)).run Tryd.prog w = .ok (.agg #[.int .u8 6, .int .u8 3, .string ⟨#[43]⟩, .int .i64 4, .int .i64 4, .int .i64 5]) w := by kernel_rfl
theorem j_index_8 (w : World) : (Instr.index 142 (.agg joinV) (.int .i64 8)).run Tryd.prog w = .ok (.agg #[.int .u8 7, .int .u8 3, .string ⟨#[45]⟩, .int .i64 4, .int .i64 4, .int .i64 5]) w := by kernel_rfl
theorem j_index_9 (w : World) : (Instr.index 142 (.agg joinV) (.int .i64 9)).run Tryd.prog w = .ok (.agg #[.int .u8 8, .int .u8 3, .string ⟨#[42]⟩, .int .i64 5, .int .i64 5, .int .i64 6]) w := by kernel_rfl
theorem j_index_10 (w : World) : (Instr.index 142 (.agg joinV) (.int .i64 10)).run Tryd.prog w = .ok (.agg #[.int .u8 9, .int .u8 3, .string ⟨#[47]⟩, .int .i64 5, .int .i64 5, .int .i64 6]) w := by kernel_rfl
theorem j_index_11 (w : World) : (Instr.index 142 (.agg joinV) (.int .i64 11)).run Tryd.prog w = .ok (.agg #[.int .u8 10, .int .u8 3, .string ⟨#[37]⟩, .int .i64 5, .int .i64 5, .int .i64 6]) w := by kernel_rfl
theorem j_index (k : Nat) (hk : k < 12) (w : World) : (Instr.index 142 (.agg joinV) (.int .i64 (k : Int))).run Tryd.prog w = .ok (.agg (jrow (jR k))) w := by
  have h : k = 0 ∨ k = 1 ∨ k = 2 ∨ k = 3 ∨ k = 4 ∨ k = 5 ∨ k = 6 ∨ k = 7 ∨ k = 8 ∨ k = 9 ∨ k = 10 ∨ k = 11 := by omega
  rcases h with rfl | rfl | rfl | rfl | rfl | rfl | rfl | rfl | rfl | rfl | rfl | rfl
  · exact j_index_0 w
  · exact j_index_1 w
  · exact j_index_2 w
  · exact j_index_3 w
  · exact j_index_4 w
  · exact j_index_5 w
  · exact j_index_6 w
  · exact j_index_7 w
  · exact j_index_8 w
  · exact j_index_9 w
  · exact j_index_10 w
  · exact j_index_11 w
/-- The operator of a number. -/
def jOf (op : Nat) : Option J := JT.find? fun r => r.op == op
theorem jOf_some {op : Nat} (k : Nat) (hk : k < 12) (h : ∀ j, j < k → ((jR j).op == op) = false) (he : ((jR k).op == op) = true) : jOf op = some (jR k) := by
  unfold jOf
  rw [List.find?_eq_some_iff_getElem]
  have hget : ∀ j (hj : j < JT.length), JT[j]'hj = jR j := fun j hj => by unfold jR; rw [List.getD_eq_getElem?_getD, List.getElem?_eq_getElem hj]; rfl
  have hk' : k < JT.length := hk
  refine ⟨he, k, hk', hget k hk', fun j hj => ?_⟩
  have e := hget j (by omega)
  have hn := h j hj
  rw [← e] at hn
  rw [hn]
  rfl
theorem jOf_none {op : Nat} (h : ∀ j, j < 12 → ((jR j).op == op) = false) : jOf op = none := by
  unfold jOf
  rw [List.find?_eq_none]
  intro r hr
  obtain ⟨j, hj, e⟩ := List.getElem_of_mem hr
  have := h j hj
  unfold jR at this
  rw [List.getD_eq_getElem?_getD, List.getElem?_eq_getElem hj, e] at this
  simp only [Option.getD_some] at this
  rw [this]
  simp
theorem jR_op (k : Nat) : (jR k).op < 256 := by
  by_cases hk : k < 12
  · have h : k = 0 ∨ k = 1 ∨ k = 2 ∨ k = 3 ∨ k = 4 ∨ k = 5 ∨ k = 6 ∨ k = 7 ∨ k = 8 ∨ k = 9 ∨ k = 10 ∨ k = 11 := by omega
    rcases h with rfl | rfl | rfl | rfl | rfl | rfl | rfl | rfl | rfl | rfl | rfl | rfl <;> decide
  · have : jR k = j0 := by unfold jR; rw [List.getD_eq_getElem?_getD, List.getElem?_eq_none (by show 12 ≤ k; omega)]; rfl
    rw [this]; decide
/-- The row that is answered. -/
def jOut (op : Nat) : Array Value := jrow ((jOf op).getD j0)
theorem info83 : (Tryd.prog.info? 139).map (·.size) = some 6 := by kernel_rfl
theorem results_row_tmp {fn : Func} {p u : Tmp} {ty : TypeId} {P : Program} (h : fn.results = #[.cell p ty, .tmp u]) (tmps : Array Value) (w : World) (g : Nat) (cs : Array Value)
    (hp : tmps.getD p undef = .pointer (some ⟨g, 0, none⟩)) (hl : (loadVar ty ⟨g, 0, none⟩).run P w = .ok (.agg cs) w) :
    (results fn tmps).run P w = .ok (.tuple #[.agg cs, tmps.getD u undef]) w := by
  rw [results_cell_tmp h, hp]
  simp [asAddr, hl]
set_option maxRecDepth 100000 in
theorem joinOf (op : Nat) (w : World) (hT : TabJ w) : Calls Tryd.prog 96 #[.int .u8 (op : Int)] w fun e w' => e = .returned (.tuple #[.agg (jOut op), .bool (jOf op).isSome]) ∧ Below w.heap.size w w' := by
  obtain ⟨w1, hw1⟩ : ∃ w1, w1 = w.alloc (.cells (jrow j0) 139) := ⟨_, rfl⟩
  have hb1 : Below w.heap.size w w1 := by rw [hw1]; exact (Below.refl _ _).alloc (Nat.le_refl _) _
  have hR1 : w1.heap[w.heap.size]? = some (.cells (jrow j0) 139 (0, 0)) := by rw [hw1]; exact heap_alloc_new w _
  obtain ⟨t, fz, h0⟩ := hT.below hb1
  have HR := hid hR1
  have HB := hid hb1
  clear hT hR1 hb1
  go_enter Tryd.func96, Tryd.ntmps96
  go_wp2_with (refine wpList_load_row rfl 142 _ rfl 1 rfl t joinV fz _ (by first | exact h0 | (rw [hw1] at h0; exact h0)) Tryd.underlying142 rfl (by kernel_rfl) ?_)
  go_loopw [7] (fun i wr => ∃ k : Nat, k ≤ 12 ∧ i = .int .i64 (k : Int) ∧ Hid (∀ j, j < k → ((jR j).op == op) = false) ∧ Hid (Below w1.heap.size w1 wr)) (fun i _ => 12 - (intOf i).toNat)
  case atStart => exact ⟨0, by omega, rfl, fun j hj => by omega, by rw [hw1]; exact Below.refl _ _⟩
  case round =>
    obtain ⟨k, hk, rfl, hall, hB⟩ := hrel
    by_cases hlt : k < 12
    · have hlt' : (k : Int) < 12 := by omega
      have hx := fun W => j_index k hlt W
      unfold jrow at hx
      generalize hv : joinV = V at hx ⊢
      clear hv h0 hw1
      cases he : ((jR k).op == op)
      · have he' : (((jR k).op : Int) == (op : Int)) = false := by simp at he ⊢; omega
        have Hnew : Hid (∀ j, j < k + 1 → ((jR j).op == op) = false) := fun j hj => by
          by_cases e : j = k
          · rw [e]; exact he
          · exact hall.out j (by omega)
        clear hall he
        generalize (jR k).op = O at *
        go_wp2
        go_roundw
        case rel => exact ⟨k + 1, by omega, by go_num, Hnew, bstep hB.out ((Below.refl _ _).alloc (Nat.le_refl _) _)⟩
        case measure => simp [intOf]; omega
      · have he' : (((jR k).op : Int) == (op : Int)) = true := by simp at he ⊢; omega
        have Hr : Hid (jOf op = some (jR k)) := jOf_some k hlt hall.out he
        obtain ⟨C, hC⟩ : ∃ C, C = jrow (jR k) := ⟨_, rfl⟩
        have hRr : (wr.alloc (.cells (jrow (jR k)) 139)).heap[w.heap.size]? = some (.cells (jrow j0) 139 (0, 0)) := by
          have hb := bstep hB.out ((Below.refl wr.heap.size wr).alloc (Nat.le_refl _) (.cells (jrow (jR k)) 139))
          exact (hb.block _ (Array.getElem?_eq_some_iff.1 HR.out).1).trans HR.out
        unfold jrow at hRr
        clear hall he
        go_wp2_with (refine wpList_store_row rfl 139 _ _ rfl w.heap.size (jrow (jR k)) rfl rfl 139 _ hRr info83 rfl (by simp [Value.oneCell', jrow]) ?_)
        refine bodyPost_ret (results_row_tmp rfl _ _ w.heap.size (jrow (jR k)) rfl (run_loadVar_row _ _ 139 139 (jrow (jR k)) (0, 0) _ (setRow_heap _ _ _ _ _ _ hRr) Tryd.underlying139 rfl info83)) rfl ⟨?_, ?_⟩
        · rw [jOut, Hr.out]; rfl
        · exact below_row (bstep (bstep HB.out hB.out) ((Below.refl _ _).alloc (Nat.le_refl _) _)) (by have := HB.out.size; have := hB.out.size; simp; omega) (Nat.le_refl _) _
    · have hlt' : ¬ (k : Int) < 12 := by omega
      have Hr : Hid (jOf op = none) := jOf_none fun j hj => hall.out j (by omega)
      have hRr : wr.heap[w.heap.size]? = some (.cells (jrow j0) 139 (0, 0)) := (hB.out.block _ (Array.getElem?_eq_some_iff.1 HR.out).1).trans HR.out
      unfold jrow at hRr
      clear hall h0 hw1
      go_wp2_with (refine wpList_store_row rfl 139 _ _ rfl w.heap.size (jrow j0) rfl rfl 139 _ hRr info83 rfl (by simp [Value.oneCell', jrow]) ?_)
      refine bodyPost_ret (results_row_tmp rfl _ _ w.heap.size (jrow j0) rfl (run_loadVar_row _ _ 139 139 (jrow j0) (0, 0) _ (setRow_heap _ _ _ _ _ _ hRr) Tryd.underlying139 rfl info83)) rfl ⟨?_, ?_⟩
      · rw [jOut, Hr.out]; rfl
      · exact below_row (bstep HB.out hB.out) (by have := HB.out.size; have := hB.out.size; omega) (Nat.le_refl _) _
end Go.Proofs.YtmlapodhpinhmaaDoor.Lex
namespace Go.Proofs.YtmlapodhpinhmaaDoor.Lex
open Go.ChangeShapes Go.WideShapes Go.ChangeAt Go.RowKit Go.Joins
/-- Of how many parts an operator is. -/
def parts (op : Nat) : Nat := if op = 4 ∨ op = 5 ∨ op = 19 then 1 else if op = 17 then 3 else if (jOf op).isSome then 2 else 0
/-- Has it the fields of its operator? -/
def fieldsOk (op : Nat) (n : Int) (nm : ByteArray) (len : Nat) : Bool :=
  if op = 1 then decide (0 ≤ n) && (decide (nm.size = 0) && decide (len = 0))
  else if op = 2 then (decide (n = 0) || decide (n = 1)) && (decide (nm.size = 0) && decide (len = 0))
  else if op = 3 then decide (n = 0) && (isName nm && decide (len = 0))
  else decide (0 < parts op) && (decide (n = 0) && (decide (nm.size = 0) && decide (len = parts op)))
theorem eqN {a : Nat} {b : Nat} (h : a = b) : ((a : Int) == (b : Int)) = true := by simp [h]
theorem neN {a : Nat} {b : Nat} (h : ¬ a = b) : ((a : Int) == (b : Int)) = false := by simp; omega
theorem ieq {a b : Int} (h : a = b) : (a == b) = true := by simp [h]
theorem ine {a b : Int} (h : ¬ a = b) : (a == b) = false := by simp [h]
set_option maxRecDepth 100000 in
theorem partsOf (op : Nat) (w : World) (hT : TabJ w) : Calls Tryd.prog 94 #[.int .u8 (op : Int)] w fun e w' => e = .returned (.int .i64 (parts op : Int)) ∧ Below w.heap.size w w' := by
  have c := joinOf op w hT
  by_cases h4 : op = 4
  · have e4 := eqN (b := 4) h4
    have hp : parts op = 1 := by unfold parts; rw [if_pos (.inl h4)]
    rw [hp]
    clear hp h4 c
    go_enter Tryd.func94, Tryd.ntmps94
    go_wp2
    go_ret
    exact ⟨rfl, Below.refl _ _⟩
  · have e4 := neN (b := 4) h4
    by_cases h5 : op = 5
    · have e5 := eqN (b := 5) h5
      have hp : parts op = 1 := by unfold parts; rw [if_pos (.inr (.inl h5))]
      rw [hp]
      clear hp h4 h5 c
      go_enter Tryd.func94, Tryd.ntmps94
      go_wp2
      go_ret
      exact ⟨rfl, Below.refl _ _⟩
    · have e5 := neN (b := 5) h5
      by_cases h19 : op = 19
      · have e19 := eqN (b := 19) h19
        have hp : parts op = 1 := by unfold parts; rw [if_pos (.inr (.inr h19))]
        rw [hp]
        clear hp h4 h5 h19 c
        go_enter Tryd.func94, Tryd.ntmps94
        go_wp2
        go_ret
        exact ⟨rfl, Below.refl _ _⟩
      · have e19 := neN (b := 19) h19
        by_cases h17 : op = 17
        · have e17 := eqN (b := 17) h17
          have hp : parts op = 3 := by unfold parts; rw [if_neg (by omega), if_pos h17]
          rw [hp]
          clear hp h4 h5 h19 h17 c
          go_enter Tryd.func94, Tryd.ntmps94
          go_wp2
          go_ret
          exact ⟨rfl, Below.refl _ _⟩
        · have e17 := neN (b := 17) h17
          have hp : parts op = if (jOf op).isSome then 2 else 0 := by unfold parts; rw [if_neg (by omega), if_neg h17]
          rw [hp]
          unfold jOut jrow at c
          generalize (jOf op).getD j0 = r at c
          clear hp h4 h5 h19 h17
          cases hj : (jOf op).isSome
          · rw [hj] at c
            go_enter Tryd.func94, Tryd.ntmps94
            go_wp2_with (go_at_call 96; refine c.mono ?_; rintro e w2 ⟨rfl, hb2⟩)
            go_ret
            exact ⟨rfl, bstep hb2 ((Below.refl _ _).alloc (Nat.le_refl _) _)⟩
          · rw [hj] at c
            go_enter Tryd.func94, Tryd.ntmps94
            go_wp2_with (go_at_call 96; refine c.mono ?_; rintro e w2 ⟨rfl, hb2⟩)
            go_ret
            exact ⟨rfl, bstep hb2 ((Below.refl _ _).alloc (Nat.le_refl _) _)⟩
set_option linter.unusedVariables false
set_option maxRecDepth 100000 in
set_option maxHeartbeats 1000000 in
theorem has_1a (op : Nat) (n : Int) (nm : ByteArray) (ao : Option Addr) (len cap : Nat) (w : World) (e1 : ((op : Int) == 1) = true) (h0 : ¬ 0 ≤ n) : Calls Tryd.prog 86 #[.agg #[.int .u8 (op : Int), .int .i64 n, .string nm, .slice ao len cap]] w fun e w' => e = .returned (.bool false) ∧ Below w.heap.size w w' := by
  go_enter Tryd.func86, Tryd.ntmps86
  go_wp2
  go_ret
  exact ⟨rfl, (Below.refl _ _).alloc (Nat.le_refl _) _⟩
set_option maxRecDepth 100000 in
set_option maxHeartbeats 1000000 in
theorem has_1b (op : Nat) (n : Int) (nm : ByteArray) (ao : Option Addr) (len cap : Nat) (w : World) (e1 : ((op : Int) == 1) = true) (h0 : 0 ≤ n) (he : nm.toList.isEmpty = false) : Calls Tryd.prog 86 #[.agg #[.int .u8 (op : Int), .int .i64 n, .string nm, .slice ao len cap]] w fun e w' => e = .returned (.bool false) ∧ Below w.heap.size w w' := by
  go_enter Tryd.func86, Tryd.ntmps86
  go_wp2
  go_ret
  exact ⟨rfl, (Below.refl _ _).alloc (Nat.le_refl _) _⟩
set_option maxRecDepth 100000 in
set_option maxHeartbeats 1000000 in
theorem has_1c (op : Nat) (n : Int) (nm : ByteArray) (ao : Option Addr) (len cap : Nat) (w : World) (e1 : ((op : Int) == 1) = true) (h0 : 0 ≤ n) (he : nm.toList.isEmpty = true) : Calls Tryd.prog 86 #[.agg #[.int .u8 (op : Int), .int .i64 n, .string nm, .slice ao len cap]] w fun e w' => e = .returned (.bool ((len : Int) == 0)) ∧ Below w.heap.size w w' := by
  go_enter Tryd.func86, Tryd.ntmps86
  go_wp2
  go_ret
  exact ⟨rfl, (Below.refl _ _).alloc (Nat.le_refl _) _⟩
set_option maxRecDepth 100000 in
set_option maxHeartbeats 1000000 in
theorem has_2a (op : Nat) (n : Int) (nm : ByteArray) (ao : Option Addr) (len cap : Nat) (w : World) (e1 : ((op : Int) == 1) = false) (e2 : ((op : Int) == 2) = true) (h0 : (n == 0) = false) (h1 : (n == 1) = false) : Calls Tryd.prog 86 #[.agg #[.int .u8 (op : Int), .int .i64 n, .string nm, .slice ao len cap]] w fun e w' => e = .returned (.bool false) ∧ Below w.heap.size w w' := by
  go_enter Tryd.func86, Tryd.ntmps86
  go_wp2
  go_ret
  exact ⟨rfl, (Below.refl _ _).alloc (Nat.le_refl _) _⟩
set_option maxRecDepth 100000 in
set_option maxHeartbeats 1000000 in
theorem has_2bn (op : Nat) (n : Int) (nm : ByteArray) (ao : Option Addr) (len cap : Nat) (w : World) (e1 : ((op : Int) == 1) = false) (e2 : ((op : Int) == 2) = true) (h0 : (n == 0) = true) (he : nm.toList.isEmpty = false) : Calls Tryd.prog 86 #[.agg #[.int .u8 (op : Int), .int .i64 n, .string nm, .slice ao len cap]] w fun e w' => e = .returned (.bool false) ∧ Below w.heap.size w w' := by
  go_enter Tryd.func86, Tryd.ntmps86
  go_wp2
  go_ret
  exact ⟨rfl, (Below.refl _ _).alloc (Nat.le_refl _) _⟩
set_option maxRecDepth 100000 in
set_option maxHeartbeats 1000000 in
theorem has_2be (op : Nat) (n : Int) (nm : ByteArray) (ao : Option Addr) (len cap : Nat) (w : World) (e1 : ((op : Int) == 1) = false) (e2 : ((op : Int) == 2) = true) (h0 : (n == 0) = true) (he : nm.toList.isEmpty = true) : Calls Tryd.prog 86 #[.agg #[.int .u8 (op : Int), .int .i64 n, .string nm, .slice ao len cap]] w fun e w' => e = .returned (.bool ((len : Int) == 0)) ∧ Below w.heap.size w w' := by
  go_enter Tryd.func86, Tryd.ntmps86
  go_wp2
  go_ret
  exact ⟨rfl, (Below.refl _ _).alloc (Nat.le_refl _) _⟩
set_option maxRecDepth 100000 in
set_option maxHeartbeats 1000000 in
theorem has_2cn (op : Nat) (n : Int) (nm : ByteArray) (ao : Option Addr) (len cap : Nat) (w : World) (e1 : ((op : Int) == 1) = false) (e2 : ((op : Int) == 2) = true) (h0 : (n == 0) = false) (h1 : (n == 1) = true) (he : nm.toList.isEmpty = false) : Calls Tryd.prog 86 #[.agg #[.int .u8 (op : Int), .int .i64 n, .string nm, .slice ao len cap]] w fun e w' => e = .returned (.bool false) ∧ Below w.heap.size w w' := by
  go_enter Tryd.func86, Tryd.ntmps86
  go_wp2
  go_ret
  exact ⟨rfl, (Below.refl _ _).alloc (Nat.le_refl _) _⟩
set_option maxRecDepth 100000 in
set_option maxHeartbeats 1000000 in
theorem has_2ce (op : Nat) (n : Int) (nm : ByteArray) (ao : Option Addr) (len cap : Nat) (w : World) (e1 : ((op : Int) == 1) = false) (e2 : ((op : Int) == 2) = true) (h0 : (n == 0) = false) (h1 : (n == 1) = true) (he : nm.toList.isEmpty = true) : Calls Tryd.prog 86 #[.agg #[.int .u8 (op : Int), .int .i64 n, .string nm, .slice ao len cap]] w fun e w' => e = .returned (.bool ((len : Int) == 0)) ∧ Below w.heap.size w w' := by
  go_enter Tryd.func86, Tryd.ntmps86
  go_wp2
  go_ret
  exact ⟨rfl, (Below.refl _ _).alloc (Nat.le_refl _) _⟩
set_option maxRecDepth 100000 in
set_option maxHeartbeats 1000000 in
theorem has_3a (op : Nat) (n : Int) (nm : ByteArray) (ao : Option Addr) (len cap : Nat) (w : World) (e1 : ((op : Int) == 1) = false) (e2 : ((op : Int) == 2) = false) (e3 : ((op : Int) == 3) = true) (h0 : (n == 0) = false) : Calls Tryd.prog 86 #[.agg #[.int .u8 (op : Int), .int .i64 n, .string nm, .slice ao len cap]] w fun e w' => e = .returned (.bool false) ∧ Below w.heap.size w w' := by
  go_enter Tryd.func86, Tryd.ntmps86
  go_wp2
  go_ret
  exact ⟨rfl, (Below.refl _ _).alloc (Nat.le_refl _) _⟩
set_option maxRecDepth 100000 in
set_option maxHeartbeats 1000000 in
theorem has_3b (op : Nat) (n : Int) (nm : ByteArray) (ao : Option Addr) (len cap : Nat) (w : World) (e1 : ((op : Int) == 1) = false) (e2 : ((op : Int) == 2) = false) (e3 : ((op : Int) == 3) = true) (h0 : (n == 0) = true) (c : ∀ W, TabR W → Calls Tryd.prog 68 #[.string nm] W fun e w' => e = .returned (.bool false) ∧ Below W.heap.size W w') (hR : Hid (TabR w)) : Calls Tryd.prog 86 #[.agg #[.int .u8 (op : Int), .int .i64 n, .string nm, .slice ao len cap]] w fun e w' => e = .returned (.bool false) ∧ Below w.heap.size w w' := by
  go_enter Tryd.func86, Tryd.ntmps86
  go_wp2_with (go_at_call 68; refine (c _ (hR.out.below ((Below.refl _ _).alloc (Nat.le_refl _) _))).mono ?_; rintro e w2 ⟨rfl, hb2⟩)
  go_ret
  exact ⟨rfl, bstep ((Below.refl _ _).alloc (Nat.le_refl _) _) hb2⟩
set_option maxRecDepth 100000 in
set_option maxHeartbeats 1000000 in
theorem has_3c (op : Nat) (n : Int) (nm : ByteArray) (ao : Option Addr) (len cap : Nat) (w : World) (e1 : ((op : Int) == 1) = false) (e2 : ((op : Int) == 2) = false) (e3 : ((op : Int) == 3) = true) (h0 : (n == 0) = true) (c : ∀ W, TabR W → Calls Tryd.prog 68 #[.string nm] W fun e w' => e = .returned (.bool true) ∧ Below W.heap.size W w') (hR : Hid (TabR w)) : Calls Tryd.prog 86 #[.agg #[.int .u8 (op : Int), .int .i64 n, .string nm, .slice ao len cap]] w fun e w' => e = .returned (.bool ((len : Int) == 0)) ∧ Below w.heap.size w w' := by
  go_enter Tryd.func86, Tryd.ntmps86
  go_wp2_with (go_at_call 68; refine (c _ (hR.out.below ((Below.refl _ _).alloc (Nat.le_refl _) _))).mono ?_; rintro e w2 ⟨rfl, hb2⟩; have bx := fun j v (h : (w.alloc (.cells #[.int .u8 (op : Int), .int .i64 n, .string nm, .slice ao len cap] 53)).cell? ⟨w.heap.size, j, none⟩ = some v) => cell_kept h hb2; have x3 := bx 3 (.slice ao len cap) (by rw [World.cell?_alloc_at _ _ _ _ rfl]; rfl); clear bx)
  go_ret
  exact ⟨rfl, bstep ((Below.refl _ _).alloc (Nat.le_refl _) _) hb2⟩
set_option maxRecDepth 100000 in
set_option maxHeartbeats 1000000 in
theorem has_4a (op : Nat) (n : Int) (nm : ByteArray) (ao : Option Addr) (len cap : Nat) (w : World) (e1 : ((op : Int) == 1) = false) (e2 : ((op : Int) == 2) = false) (e3 : ((op : Int) == 3) = false) (p : Nat) (c : ∀ W, TabJ W → Calls Tryd.prog 94 #[.int .u8 (op : Int)] W fun e w' => e = .returned (.int .i64 (p : Int)) ∧ Below W.heap.size W w') (hJ : Hid (TabJ w)) (hp : ¬ (0 : Int) < (p : Int)) : Calls Tryd.prog 86 #[.agg #[.int .u8 (op : Int), .int .i64 n, .string nm, .slice ao len cap]] w fun e w' => e = .returned (.bool false) ∧ Below w.heap.size w w' := by
  go_enter Tryd.func86, Tryd.ntmps86
  go_wp2_with (go_at_call 94; refine (c _ (hJ.out.below ((Below.refl _ _).alloc (Nat.le_refl _) _))).mono ?_; rintro e w2 ⟨rfl, hb2⟩)
  go_ret
  exact ⟨rfl, bstep ((Below.refl _ _).alloc (Nat.le_refl _) _) hb2⟩
set_option maxRecDepth 100000 in
set_option maxHeartbeats 1000000 in
theorem has_4b (op : Nat) (n : Int) (nm : ByteArray) (ao : Option Addr) (len cap : Nat) (w : World) (e1 : ((op : Int) == 1) = false) (e2 : ((op : Int) == 2) = false) (e3 : ((op : Int) == 3) = false) (p : Nat) (c : ∀ W, TabJ W → Calls Tryd.prog 94 #[.int .u8 (op : Int)] W fun e w' => e = .returned (.int .i64 (p : Int)) ∧ Below W.heap.size W w') (hJ : Hid (TabJ w)) (hp : (0 : Int) < (p : Int)) (h0 : (n == 0) = false) : Calls Tryd.prog 86 #[.agg #[.int .u8 (op : Int), .int .i64 n, .string nm, .slice ao len cap]] w fun e w' => e = .returned (.bool false) ∧ Below w.heap.size w w' := by
  go_enter Tryd.func86, Tryd.ntmps86
  go_wp2_with (go_at_call 94; refine (c _ (hJ.out.below ((Below.refl _ _).alloc (Nat.le_refl _) _))).mono ?_; rintro e w2 ⟨rfl, hb2⟩; have bx := fun j v (h : (w.alloc (.cells #[.int .u8 (op : Int), .int .i64 n, .string nm, .slice ao len cap] 53)).cell? ⟨w.heap.size, j, none⟩ = some v) => cell_kept h hb2; have x1 := bx 1 (.int .i64 n) (by rw [World.cell?_alloc_at _ _ _ _ rfl]; rfl); have x2 := bx 2 (.string nm) (by rw [World.cell?_alloc_at _ _ _ _ rfl]; rfl); have x3 := bx 3 (.slice ao len cap) (by rw [World.cell?_alloc_at _ _ _ _ rfl]; rfl); clear bx)
  go_ret
  exact ⟨rfl, bstep ((Below.refl _ _).alloc (Nat.le_refl _) _) hb2⟩
set_option maxRecDepth 100000 in
set_option maxHeartbeats 1000000 in
theorem has_4c (op : Nat) (n : Int) (nm : ByteArray) (ao : Option Addr) (len cap : Nat) (w : World) (e1 : ((op : Int) == 1) = false) (e2 : ((op : Int) == 2) = false) (e3 : ((op : Int) == 3) = false) (p : Nat) (c : ∀ W, TabJ W → Calls Tryd.prog 94 #[.int .u8 (op : Int)] W fun e w' => e = .returned (.int .i64 (p : Int)) ∧ Below W.heap.size W w') (hJ : Hid (TabJ w)) (hp : (0 : Int) < (p : Int)) (h0 : (n == 0) = true) (he : nm.toList.isEmpty = false) : Calls Tryd.prog 86 #[.agg #[.int .u8 (op : Int), .int .i64 n, .string nm, .slice ao len cap]] w fun e w' => e = .returned (.bool false) ∧ Below w.heap.size w w' := by
  go_enter Tryd.func86, Tryd.ntmps86
  go_wp2_with (go_at_call 94; refine (c _ (hJ.out.below ((Below.refl _ _).alloc (Nat.le_refl _) _))).mono ?_; rintro e w2 ⟨rfl, hb2⟩; have bx := fun j v (h : (w.alloc (.cells #[.int .u8 (op : Int), .int .i64 n, .string nm, .slice ao len cap] 53)).cell? ⟨w.heap.size, j, none⟩ = some v) => cell_kept h hb2; have x1 := bx 1 (.int .i64 n) (by rw [World.cell?_alloc_at _ _ _ _ rfl]; rfl); have x2 := bx 2 (.string nm) (by rw [World.cell?_alloc_at _ _ _ _ rfl]; rfl); have x3 := bx 3 (.slice ao len cap) (by rw [World.cell?_alloc_at _ _ _ _ rfl]; rfl); clear bx)
  go_ret
  exact ⟨rfl, bstep ((Below.refl _ _).alloc (Nat.le_refl _) _) hb2⟩
set_option maxRecDepth 100000 in
set_option maxHeartbeats 1000000 in
theorem has_4d (op : Nat) (n : Int) (nm : ByteArray) (ao : Option Addr) (len cap : Nat) (w : World) (e1 : ((op : Int) == 1) = false) (e2 : ((op : Int) == 2) = false) (e3 : ((op : Int) == 3) = false) (p : Nat) (c : ∀ W, TabJ W → Calls Tryd.prog 94 #[.int .u8 (op : Int)] W fun e w' => e = .returned (.int .i64 (p : Int)) ∧ Below W.heap.size W w') (hJ : Hid (TabJ w)) (hp : (0 : Int) < (p : Int)) (h0 : (n == 0) = true) (he : nm.toList.isEmpty = true) : Calls Tryd.prog 86 #[.agg #[.int .u8 (op : Int), .int .i64 n, .string nm, .slice ao len cap]] w fun e w' => e = .returned (.bool ((len : Int) == (p : Int))) ∧ Below w.heap.size w w' := by
  go_enter Tryd.func86, Tryd.ntmps86
  go_wp2_with (go_at_call 94; refine (c _ (hJ.out.below ((Below.refl _ _).alloc (Nat.le_refl _) _))).mono ?_; rintro e w2 ⟨rfl, hb2⟩; have bx := fun j v (h : (w.alloc (.cells #[.int .u8 (op : Int), .int .i64 n, .string nm, .slice ao len cap] 53)).cell? ⟨w.heap.size, j, none⟩ = some v) => cell_kept h hb2; have x1 := bx 1 (.int .i64 n) (by rw [World.cell?_alloc_at _ _ _ _ rfl]; rfl); have x2 := bx 2 (.string nm) (by rw [World.cell?_alloc_at _ _ _ _ rfl]; rfl); have x3 := bx 3 (.slice ao len cap) (by rw [World.cell?_alloc_at _ _ _ _ rfl]; rfl); clear bx)
  go_ret
  exact ⟨rfl, bstep ((Below.refl _ _).alloc (Nat.le_refl _) _) hb2⟩
theorem len_eq (a b : Nat) : ((a : Int) == (b : Int)) = decide (a = b) := by
  by_cases h : a = b
  · rw [eqN h, decide_eq_true h]
  · rw [neN h, decide_eq_false h]
theorem len_zero' (a : Nat) : ((a : Int) == 0) = decide (a = 0) := len_eq a 0
/-- hasItsFields. -/
theorem hasIts (op : Nat) (n : Int) (nm : ByteArray) (ao : Option Addr) (len cap : Nat) (w : World) (hR : TabR w) (hJ : TabJ w) :
    Calls Tryd.prog 86 #[.agg #[.int .u8 (op : Int), .int .i64 n, .string nm, .slice ao len cap]] w fun e w' => e = .returned (.bool (fieldsOk op n nm len)) ∧ Below w.heap.size w w' := by
  unfold fieldsOk
  by_cases h1 : op = 1
  · rw [if_pos h1]
    have e1 := eqN (b := 1) h1
    by_cases h0 : 0 ≤ n
    · rw [decide_eq_true h0, Bool.true_and]
      by_cases hm : nm.size = 0
      · rw [decide_eq_true hm, Bool.true_and, ← len_zero']; exact has_1c op n nm ao len cap w e1 h0 (empty_yes hm)
      · rw [decide_eq_false hm, Bool.false_and]; exact has_1b op n nm ao len cap w e1 h0 (empty_no hm)
    · rw [decide_eq_false h0, Bool.false_and]; exact has_1a op n nm ao len cap w e1 h0
  · rw [if_neg h1]
    have e1 := neN (b := 1) h1
    by_cases h2 : op = 2
    · rw [if_pos h2]
      have e2 := eqN (b := 2) h2
      by_cases h0 : n = 0
      · rw [decide_eq_true h0, Bool.true_or, Bool.true_and]
        by_cases hm : nm.size = 0
        · rw [decide_eq_true hm, Bool.true_and, ← len_zero']; exact has_2be op n nm ao len cap w e1 e2 (ieq h0) (empty_yes hm)
        · rw [decide_eq_false hm, Bool.false_and]; exact has_2bn op n nm ao len cap w e1 e2 (ieq h0) (empty_no hm)
      · rw [decide_eq_false h0, Bool.false_or]
        by_cases h01 : n = 1
        · rw [decide_eq_true h01, Bool.true_and]
          by_cases hm : nm.size = 0
          · rw [decide_eq_true hm, Bool.true_and, ← len_zero']; exact has_2ce op n nm ao len cap w e1 e2 (ine h0) (ieq h01) (empty_yes hm)
          · rw [decide_eq_false hm, Bool.false_and]; exact has_2cn op n nm ao len cap w e1 e2 (ine h0) (ieq h01) (empty_no hm)
        · rw [decide_eq_false h01, Bool.false_and]; exact has_2a op n nm ao len cap w e1 e2 (ine h0) (ine h01)
    · rw [if_neg h2]
      have e2 := neN (b := 2) h2
      by_cases h3 : op = 3
      · rw [if_pos h3]
        have e3 := eqN (b := 3) h3
        by_cases h0 : n = 0
        · rw [decide_eq_true h0, Bool.true_and]
          have c := fun W hT => name nm W hT
          cases hb : isName nm
          · rw [hb] at c; rw [Bool.false_and]; exact has_3b op n nm ao len cap w e1 e2 e3 (ieq h0) c hR
          · rw [hb] at c; rw [Bool.true_and, ← len_zero']; exact has_3c op n nm ao len cap w e1 e2 e3 (ieq h0) c hR
        · rw [decide_eq_false h0, Bool.false_and]; exact has_3a op n nm ao len cap w e1 e2 e3 (ine h0)
      · rw [if_neg h3]
        have e3 := neN (b := 3) h3
        have c := fun W hT => partsOf op W hT
        generalize parts op = p at c
        by_cases hp : 0 < p
        · have hp' : (0 : Int) < (p : Int) := by omega
          rw [decide_eq_true hp, Bool.true_and]
          by_cases h0 : n = 0
          · rw [decide_eq_true h0, Bool.true_and]
            by_cases hm : nm.size = 0
            · rw [decide_eq_true hm, Bool.true_and, ← len_eq]; exact has_4d op n nm ao len cap w e1 e2 e3 p c hJ hp' (ieq h0) (empty_yes hm)
            · rw [decide_eq_false hm, Bool.false_and]; exact has_4c op n nm ao len cap w e1 e2 e3 p c hJ hp' (ieq h0) (empty_no hm)
          · rw [decide_eq_false h0, Bool.false_and]; exact has_4b op n nm ao len cap w e1 e2 e3 p c hJ hp' (ine h0)
        · rw [decide_eq_false hp, Bool.false_and]; exact has_4a op n nm ao len cap w e1 e2 e3 p c hJ (by omega)
end Go.Proofs.YtmlapodhpinhmaaDoor.Lex
namespace Go.Proofs.YtmlapodhpinhmaaDoor.Lex
open Go.ChangeShapes Go.WideShapes Go.ChangeAt Go.RowKit Go.Joins
/-- How great parts are behind so many, where at most so many may be. -/
def szL (f : Nat → Ex → Option Nat) (most : Nat) : Nat → List Ex → Option Nat
  | n, [] => some n
  | n, a :: l => match f (most - n) a with
    | none => none
    | some k => szL f most (n + k) l
/-- How great it is, if it may be, so deep and so great at most. -/
def sz : Nat → Nat → Ex → Option Nat
  | 0, _, _ => none
  | d + 1, most, x => if most = 0 ∨ fieldsOk x.op x.n x.name x.args.length = false then none else szL (sz d) most 1 x.args
theorem szL_le {f : Nat → Ex → Option Nat} (hf : ∀ m a k, f m a = some k → 1 ≤ k ∧ k ≤ m) (most : Nat) : ∀ (l : List Ex) (n r : Nat), n ≤ most → szL f most n l = some r → n ≤ r ∧ r ≤ most
  | [], n, r, hn, h => by simp only [szL, Option.some.injEq] at h; omega
  | a :: l, n, r, hn, h => by
    simp only [szL] at h
    cases e : f (most - n) a with
    | none => rw [e] at h; cases h
    | some k =>
      rw [e] at h
      have := hf _ _ _ e
      have := szL_le hf most l (n + k) r (by omega) h
      omega
theorem sz_le : ∀ (d most : Nat) (x : Ex) (k : Nat), sz d most x = some k → 1 ≤ k ∧ k ≤ most
  | 0, most, x, k, h => by simp [sz] at h
  | d + 1, most, x, k, h => by
    rw [sz] at h
    split at h
    · cases h
    · next hn => exact szL_le (fun m a k => sz_le d m a k) most x.args 1 k (by omega) h
/-- May it be? -/
def chk (x : Ex) : Bool := (sz 32 200 x).isSome
theorem set_same {w : World} {b : Nat} {c : Array Value} {t : TypeId} {f : Nat × Nat} (h : w.heap[b]? = some (.cells c t f)) (i : Nat) (u : Value) :
    (w.setCell ⟨b, i, none⟩ u).heap[b]? = some (.cells (c.setIfInBounds i u) t f) := by
  obtain ⟨hlt, hk⟩ := Array.getElem?_eq_some_iff.1 h
  show (w.heap.modify b _)[b]? = _
  rw [Array.getElem?_eq_getElem (by rw [Array.size_modify]; exact hlt), Array.getElem_modify_self, hk]
  rfl
/-- A count in a cell of its own, beyond all that came in. -/
structure Lf (w0 w : World) (b : Nat) (M : Int) (W : World) : Prop where
  base : Below w0.heap.size w0 W
  below : Below b w W
  cell : W.heap[b]? = some (.cells #[.int .i64 M] 3 (0, 0))
theorem Lf.step {w0 w W W' : World} {b : Nat} {M : Int} (h : Lf w0 w b M W) (hb : Below W.heap.size W W') : Lf w0 w b M W' :=
  have hlt := (Array.getElem?_eq_some_iff.1 h.cell).1
  ⟨bstep h.base hb, h.below.trans (hb.mono (by omega)), (hb.block b hlt).trans h.cell⟩
theorem Lf.set {w0 w W : World} {b : Nat} {M : Int} (h : Lf w0 w b M W) (hb : w0.heap.size ≤ b) (M' : Int) : Lf w0 w b M' (W.setCell ⟨b, 0, none⟩ (.int .i64 M')) :=
  ⟨h.base.setCell (p := ⟨b, 0, none⟩) hb _, h.below.setCell (p := ⟨b, 0, none⟩) (Nat.le_refl _) _, set_same h.cell 0 _⟩
theorem Lf.at {w0 w W : World} {b : Nat} {M : Int} (h : Lf w0 w b M W) : W.cell? ⟨b, 0, none⟩ = some (.int .i64 M) ∧ W.frozen? ⟨b, 0, none⟩ = false :=
  ⟨by rw [cell_of_row _ _ _ _ 3 (0, 0) h.cell]; rfl, frozen_of_row _ _ _ _ _ h.cell⟩
/-- What fits answers. -/
def FitC (d : Nat) : Prop := ∀ (x : Ex) (w0 w : World) (s : Value) (b L : Nat), L ≤ 200 → St w0 x s → Below w0.heap.size w0 w → w0.heap.size ≤ b → w.heap[b]? = some (.cells #[.int .i64 (L : Int)] 3 (0, 0)) → TabR w0 → TabJ w0 →
  Calls Tryd.prog 78 #[exV x s, .int .i64 (d : Int), .pointer (some ⟨b, 0, none⟩)] w fun e w' => e = .returned (.bool (sz d L x).isSome) ∧ Below b w w' ∧ ∀ k, sz d L x = some k → Lf w0 w b ((L : Int) - (k : Int)) w'
/-- The cells of a value in a box. -/
theorem box_at (w : World) (c : Array Value) (t : TypeId) (j : Nat) (v : Value) (h : c[j]? = some v) : (w.alloc (.cells c t)).cell? ⟨w.heap.size, j, none⟩ = some v := by
  rw [World.cell?_alloc_at _ _ _ _ rfl]; exact h
set_option maxRecDepth 100000 in
set_option maxHeartbeats 1000000 in
theorem fits_zero : FitC 0 := by
  intro x w0 w s b L hL hS hB hb hc hR hJ
  obtain ⟨ao, cap, sl, rfl, _⟩ := hS.out
  have hsz : sz 0 L x = none := by simp [sz]
  have l0 : Lf w0 w b (L : Int) (w.alloc (.cells #[.int .u8 (x.op : Int), .int .i64 x.n, .string x.name, .slice ao x.args.length cap] 53)) := Lf.step ⟨hB, Below.refl _ _, hc⟩ ((Below.refl _ _).alloc (Nat.le_refl _) _)
  have l1 := l0.set hb ((L : Int) - 1)
  obtain ⟨y0, y1⟩ := l0.at
  rw [hsz]
  have H1 := hid l1.below
  clear l0 l1 hc hsz hS hR hJ hB
  go_enter Tryd.func78, Tryd.ntmps78
  go_wp2
  go_ret
  exact ⟨rfl, H1.out, fun k h => by cases h⟩
set_option maxRecDepth 100000 in
set_option maxHeartbeats 1000000 in
theorem fits_none (d : Nat) (hd : d + 1 ≤ 32) : ∀ (x : Ex) (w0 w : World) (s : Value) (b : Nat), St w0 x s → Below w0.heap.size w0 w → w0.heap.size ≤ b → w.heap[b]? = some (.cells #[.int .i64 ((0 : Nat) : Int)] 3 (0, 0)) →
    Calls Tryd.prog 78 #[exV x s, .int .i64 ((d + 1 : Nat) : Int), .pointer (some ⟨b, 0, none⟩)] w fun e w' => e = .returned (.bool false) ∧ Below b w w' := by
  intro x w0 w s b hS hB hb hc
  obtain ⟨ao, cap, sl, rfl, _⟩ := hS.out
  have l0 : Lf w0 w b ((0 : Nat) : Int) (w.alloc (.cells #[.int .u8 (x.op : Int), .int .i64 x.n, .string x.name, .slice ao x.args.length cap] 53)) := Lf.step ⟨hB, Below.refl _ _, hc⟩ ((Below.refl _ _).alloc (Nat.le_refl _) _)
  have l1 := l0.set hb (-1)
  obtain ⟨y0, y1⟩ := l0.at
  obtain ⟨y2, _⟩ := l1.at
  have H1 := hid l1.below
  have hd0 : (((d + 1 : Nat) : Int) == 0) = false := by simp; omega
  generalize hD : ((d + 1 : Nat) : Int) = D at *
  clear l0 l1 hc hS hB hD
  go_enter Tryd.func78, Tryd.ntmps78
  go_wp2
  go_ret
  exact ⟨rfl, H1.out⟩
set_option maxRecDepth 100000 in
set_option maxHeartbeats 1000000 in
theorem fits_bad (d : Nat) (hd : d + 1 ≤ 32) : ∀ (x : Ex) (w0 w : World) (s : Value) (b L : Nat), 1 ≤ L → L ≤ 200 → St w0 x s → Below w0.heap.size w0 w → w0.heap.size ≤ b → w.heap[b]? = some (.cells #[.int .i64 (L : Int)] 3 (0, 0)) → TabR w0 → TabJ w0 → fieldsOk x.op x.n x.name x.args.length = false →
    Calls Tryd.prog 78 #[exV x s, .int .i64 ((d + 1 : Nat) : Int), .pointer (some ⟨b, 0, none⟩)] w fun e w' => e = .returned (.bool false) ∧ Below b w w' := by
  intro x w0 w s b L h1 hL hS hB hb hc hR hJ hf
  obtain ⟨ao, cap, sl, rfl, _⟩ := hS.out
  have l0 : Lf w0 w b (L : Int) (w.alloc (.cells #[.int .u8 (x.op : Int), .int .i64 x.n, .string x.name, .slice ao x.args.length cap] 53)) := Lf.step ⟨hB, Below.refl _ _, hc⟩ ((Below.refl _ _).alloc (Nat.le_refl _) _)
  have l1 := l0.set hb ((L : Int) - 1)
  obtain ⟨y0, y1⟩ := l0.at
  obtain ⟨y2, _⟩ := l1.at
  have c := hasIts x.op x.n x.name ao x.args.length cap _ (hR.below l1.base) (hJ.below l1.base)
  rw [hf] at c
  have H1 := hid l1
  have hd0 : (((d + 1 : Nat) : Int) == 0) = false := by simp; omega
  have hL1 : ¬ (L : Int) - 1 < 0 := by omega
  have hne : w.heap.size ≠ b := by have := (Array.getElem?_eq_some_iff.1 hc).1; omega
  have xb : ∀ j v, (#[.int .u8 (x.op : Int), .int .i64 x.n, .string x.name, .slice ao x.args.length cap] : Array Value)[j]? = some v → ((w.alloc (.cells #[.int .u8 (x.op : Int), .int .i64 x.n, .string x.name, .slice ao x.args.length cap] 53)).setCell ⟨b, 0, none⟩ (.int .i64 ((L : Int) - 1))).cell? ⟨w.heap.size, j, none⟩ = some v := fun j v h => by
    rw [World.cell?_of_block (w := w.alloc (.cells #[.int .u8 (x.op : Int), .int .i64 x.n, .string x.name, .slice ao x.args.length cap] 53)) (Below.heap_setCell _ _ _ _ hne)]
    exact box_at w _ 53 j v h
  have x0 := xb 0 _ rfl
  have x1 := xb 1 _ rfl
  have x2 := xb 2 _ rfl
  have x3 := xb 3 _ rfl
  generalize hW : (w.alloc (.cells #[.int .u8 (x.op : Int), .int .i64 x.n, .string x.name, .slice ao x.args.length cap] 53)).setCell ⟨b, 0, none⟩ (.int .i64 ((L : Int) - 1)) = W1 at *
  generalize hD : ((d + 1 : Nat) : Int) = D at *
  clear l0 l1 hc hS hB hR hJ hD hf xb hne
  go_enter Tryd.func78, Tryd.ntmps78
  go_wp2_with (go_at_call 86; refine c.mono ?_; rintro e w3 ⟨rfl, hb3⟩)
  go_ret
  exact ⟨rfl, (H1.out.step hb3).below⟩
set_option maxRecDepth 100000 in
set_option maxHeartbeats 2000000 in
theorem fits_ok (d : Nat) (hd : d + 1 ≤ 32) (ih : FitC d) : ∀ (x : Ex) (w0 w : World) (s : Value) (b L : Nat), 1 ≤ L → L ≤ 200 → St w0 x s → Below w0.heap.size w0 w → w0.heap.size ≤ b → w.heap[b]? = some (.cells #[.int .i64 (L : Int)] 3 (0, 0)) → TabR w0 → TabJ w0 → fieldsOk x.op x.n x.name x.args.length = true →
    Calls Tryd.prog 78 #[exV x s, .int .i64 ((d + 1 : Nat) : Int), .pointer (some ⟨b, 0, none⟩)] w fun e w' => e = .returned (.bool (szL (sz d) L 1 x.args).isSome) ∧ Below b w w' ∧ ∀ k, szL (sz d) L 1 x.args = some k → Lf w0 w b ((L : Int) - (k : Int)) w' := by
  intro x w0 w s b L h1 hL hS hB hb hc hR hJ hf
  obtain ⟨ao, cap, sl, rfl, _, _, _, hlen, _, hcs, hss⟩ := hS.out
  have l0 : Lf w0 w b (L : Int) (w.alloc (.cells #[.int .u8 (x.op : Int), .int .i64 x.n, .string x.name, .slice ao x.args.length cap] 53)) := Lf.step ⟨hB, Below.refl _ _, hc⟩ ((Below.refl _ _).alloc (Nat.le_refl _) _)
  have l1 := l0.set hb ((L : Int) - 1)
  obtain ⟨y0, y1⟩ := l0.at
  obtain ⟨y2, _⟩ := l1.at
  have c := hasIts x.op x.n x.name ao x.args.length cap _ (hR.below l1.base) (hJ.below l1.base)
  rw [hf] at c
  have H1 := hid l1
  have hd0 : (((d + 1 : Nat) : Int) == 0) = false := by simp; omega
  have hD1 : ((d + 1 : Nat) : Int) - 1 = (d : Int) := by omega
  have hD2 : ((d + 1 : Nat) : Int) ≤ 32 ∧ 0 ≤ ((d + 1 : Nat) : Int) := by omega
  have hL1 : ¬ (L : Int) - 1 < 0 := by omega
  have hne : w.heap.size ≠ b := by have := (Array.getElem?_eq_some_iff.1 hc).1; omega
  have xb : ∀ j v, (#[.int .u8 (x.op : Int), .int .i64 x.n, .string x.name, .slice ao x.args.length cap] : Array Value)[j]? = some v → ((w.alloc (.cells #[.int .u8 (x.op : Int), .int .i64 x.n, .string x.name, .slice ao x.args.length cap] 53)).setCell ⟨b, 0, none⟩ (.int .i64 ((L : Int) - 1))).cell? ⟨w.heap.size, j, none⟩ = some v := fun j v h => by
    rw [World.cell?_of_block (w := w.alloc (.cells #[.int .u8 (x.op : Int), .int .i64 x.n, .string x.name, .slice ao x.args.length cap] 53)) (Below.heap_setCell _ _ _ _ hne)]
    exact box_at w _ 53 j v h
  have x0 := xb 0 _ rfl
  have x1 := xb 1 _ rfl
  have x2 := xb 2 _ rfl
  have x3 := xb 3 _ rfl
  generalize hW : (w.alloc (.cells #[.int .u8 (x.op : Int), .int .i64 x.n, .string x.name, .slice ao x.args.length cap] 53)).setCell ⟨b, 0, none⟩ (.int .i64 ((L : Int) - 1)) = W1 at *
  generalize hD : ((d + 1 : Nat) : Int) = D at *
  have HS := hid hss
  have HC := hid hcs
  have HI := hid ih
  have HR := hid hR
  have HJ := hid hJ
  obtain ⟨hD3, hD4⟩ := hD2
  clear l0 l1 hc hS hB hR hJ hD hf xb hne hss hcs ih
  go_enter Tryd.func78, Tryd.ntmps78
  go_wp2_with (go_at_call 86; refine c.mono ?_; rintro e w3 ⟨rfl, hb3⟩; have z3 := cell_kept x3 hb3; have L3 := hid (H1.out.step hb3); clear hb3 c x0 x1 x2 x3 y0 y1 y2)
  go_loopw [30] (fun i wr => ∃ k n : Nat, k ≤ x.args.length ∧ 1 ≤ n ∧ n ≤ L ∧ i = .int .i64 (k : Int) ∧ Hid (szL (sz d) L 1 x.args = szL (sz d) L n (x.args.drop k)) ∧ Hid (Lf w0 w b ((L : Int) - (n : Int)) wr)) (fun i _ => x.args.length - (intOf i).toNat)
  case atStart => exact ⟨0, 1, Nat.zero_le _, Nat.le_refl _, h1, rfl, by simp [Hid], L3⟩
  case round =>
    obtain ⟨k, n, hk, hn1, hnL, rfl, hE, hB⟩ := hrel
    by_cases hlt : k < x.args.length
    · have hlt' : (k : Int) < (x.args.length : Int) := by omega
      have hk0 : (0 : Int) ≤ (k : Int) := by omega
      obtain ⟨bb, o, rfl, hcc⟩ := HC.out.resolve_left (by omega)
      obtain ⟨a0, a1, a2, a3⟩ := hcc k hlt
      have v0 := cell_kept a0 hB.out.base
      have v1 := cell_kept a1 hB.out.base
      have v2 := cell_kept a2 hB.out.base
      have v3 := cell_kept a3 hB.out.base
      have hdr : x.args.drop k = x.args[k] :: x.args.drop (k + 1) := List.drop_eq_getElem_cons hlt
      have hE' := hE.out
      rw [hdr, szL] at hE'
      have HE := hid hE'
      have hst := HS.out k hlt
      clear a0 a1 a2 a3 hcc hdr hE' hE
      generalize x.args[k] = y at *
      obtain ⟨sv, hsv⟩ : ∃ sv, sl k = sv := ⟨_, rfl⟩
      rw [hsv] at v3 hst
      obtain ⟨ak, ck, _, rfl, _⟩ := hst.out
      clear hsv
      have lA : Lf w0 w b ((L : Int) - (n : Int)) (wr.alloc (.cells #[.int .u8 (y.op : Int), .int .i64 y.n, .string y.name, .slice ak y.args.length ck] 53)) := hB.out.step ((Below.refl _ _).alloc (Nat.le_refl _) _)
      have hlL : ((L - n : Nat) : Int) = (L : Int) - (n : Int) := by omega
      have cc := HI.out y w0 _ _ b (L - n) (by omega) hst lA.base hb (by rw [hlL]; exact lA.cell) HR.out HJ.out
      have LA := hid lA
      clear lA hst
      cases hz : sz d (L - n) y with
      | none =>
        rw [hz] at cc HE
        have hnone : Hid (szL (sz d) L 1 x.args = none) := HE.out
        go_wp2_with (go_at_call 78; refine cc.mono ?_; rintro e w4 ⟨rfl, hb4, _⟩)
        go_ret
        exact ⟨by rw [hnone.out]; rfl, LA.out.below.trans hb4, fun k h => by rw [hnone.out] at h; cases h⟩
      | some m =>
        rw [hz] at cc HE
        have hm := sz_le _ _ _ _ hz
        have HM : Hid ((((L - n : Nat) : Int) - (m : Int)) = (L : Int) - ((n + m : Nat) : Int)) := by unfold Hid; omega
        go_wp2_with (go_at_call 78; refine cc.mono ?_; rintro e w4 ⟨rfl, hb4, hl4⟩; have L4 := hid (hl4 m rfl); clear hl4)
        go_roundw
        case rel =>
          have l4 := L4.out
          rw [HM.out] at l4
          exact ⟨k + 1, n + m, by omega, by omega, by omega, by go_num, HE.out, ⟨l4.base, LA.out.below.trans l4.below, l4.cell⟩⟩
        case measure => simp [intOf]; omega
    · have hlt' : ¬ (k : Int) < (x.args.length : Int) := by omega
      have hdr : x.args.drop k = [] := List.drop_eq_nil_of_le (by omega)
      have hE' := hE.out
      rw [hdr, szL] at hE'
      have HE := hid hE'
      clear hE' hdr hE
      go_wp2
      go_ret
      exact ⟨by rw [HE.out]; rfl, hB.out.below, fun j h => by rw [HE.out] at h; injection h with h; subst h; exact hB.out⟩
/-- fits. -/
theorem fits_any : ∀ (d : Nat), d ≤ 32 → FitC d
  | 0, _ => fits_zero
  | d + 1, hd => by
    intro x w0 w s b L hL hS hB hb hc hR hJ
    have ih := fits_any d (by omega)
    by_cases h0 : L = 0
    · subst h0
      have e : sz (d + 1) 0 x = none := by rw [sz, if_pos (.inl rfl)]
      rw [e]
      exact (fits_none d hd x w0 w s b hS hB hb hc).mono fun e w' ⟨h1, h2⟩ => ⟨h1, h2, fun k h => by cases h⟩
    · cases hf : fieldsOk x.op x.n x.name x.args.length with
      | false =>
        have e : sz (d + 1) L x = none := by rw [sz, if_pos (.inr hf)]
        rw [e]
        exact (fits_bad d hd x w0 w s b L (by omega) hL hS hB hb hc hR hJ hf).mono fun e w' ⟨h1, h2⟩ => ⟨h1, h2, fun k h => by cases h⟩
      | true =>
        have e : sz (d + 1) L x = szL (sz d) L 1 x.args := by rw [sz, if_neg (by rw [hf]; simp [h0])]
        rw [e]
        exact fits_ok d hd ih x w0 w s b L (by omega) hL hS hB hb hc hR hJ hf
set_option maxRecDepth 100000 in
/-- Check. -/
theorem check (x : Ex) (w : World) (s : Value) (hS : St w x s) (hR : TabR w) (hJ : TabJ w) : Calls Tryd.prog 67 #[exV x s] w fun e w' => e = .returned (.bool (chk x)) ∧ Below w.heap.size w w' := by
  obtain ⟨ao, cap, sl, rfl, _⟩ := hS.out
  have b1 := (Below.refl w.heap.size w).alloc (Nat.le_refl _) (.cells #[.int .u8 (x.op : Int), .int .i64 x.n, .string x.name, .slice ao x.args.length cap] 53)
  have b2 := bstep b1 ((Below.refl _ _).alloc (Nat.le_refl _) (.cells #[.int .i64 200] 3))
  have c := fits_any 32 (Nat.le_refl _) x w _ _ (w.heap.size + 1) 200 (Nat.le_refl _) hS b2 (by omega) (by
    have h := heap_alloc_new (w.alloc (.cells #[.int .u8 (x.op : Int), .int .i64 x.n, .string x.name, .slice ao x.args.length cap] 53)) (.cells #[.int .i64 200] 3)
    have e : (w.alloc (.cells #[.int .u8 (x.op : Int), .int .i64 x.n, .string x.name, .slice ao x.args.length cap] 53)).heap.size = w.heap.size + 1 := by simp
    rw [e] at h
    exact h) hR hJ
  have H2 := hid b2
  clear hS hR hJ b1 b2
  go_enter Tryd.func67, Tryd.ntmps67
  go_wp2_with (go_at_call 78; refine c.mono ?_; rintro e w3 ⟨rfl, hb3, _⟩)
  go_ret
  exact ⟨rfl, H2.out.trans (hb3.mono (by omega))⟩
end Go.Proofs.YtmlapodhpinhmaaDoor.Lex
namespace Go.Proofs.YtmlapodhpinhmaaDoor.Lex
open Go.ChangeShapes Go.WideShapes Go.ChangeAt Go.RowKit Go.Joins
/-- The head of a flow: all that one from without has. -/
structure Hd where
  name : ByteArray
  ty : Nat
  st : Int
/-- A flow. -/
structure Fl where
  name : ByteArray
  ty : Nat
  st : Int
  df : Int
  body : Ex
/-- A program. -/
structure Pg where
  st : Int
  ins : List Hd
  flows : List Fl
  outs : List ByteArray
abbrev Hd.ok (x : Hd) : Prop := x.name.size ≤ 140737488355328 ∧ x.ty < 256 ∧ (-9223372036854775808 ≤ x.st ∧ x.st ≤ 9223372036854775807)
abbrev Fl.ok (x : Fl) : Prop := x.name.size ≤ 140737488355328 ∧ x.ty < 256 ∧ (-9223372036854775808 ≤ x.st ∧ x.st ≤ 9223372036854775807) ∧ (-9223372036854775808 ≤ x.df ∧ x.df ≤ 9223372036854775807)
/-- The cells of a head. -/
def HdCells (w : World) (b p : Nat) (x : Hd) : Prop :=
  w.cell? ⟨b, p, none⟩ = some (.string x.name) ∧ w.cell? ⟨b, p + 1, none⟩ = some (.int .u8 (x.ty : Int)) ∧ w.cell? ⟨b, p + 2, none⟩ = some (.int .i64 x.st)
/-- The cells of a flow. -/
def FlCells (w : World) (b p : Nat) (x : Fl) (s : Value) : Prop :=
  w.cell? ⟨b, p, none⟩ = some (.string x.name) ∧ w.cell? ⟨b, p + 1, none⟩ = some (.int .u8 (x.ty : Int)) ∧ w.cell? ⟨b, p + 2, none⟩ = some (.int .i64 x.st) ∧ w.cell? ⟨b, p + 3, none⟩ = some (.int .i64 x.df) ∧
  w.cell? ⟨b, p + 4, none⟩ = some (.int .u8 (x.body.op : Int)) ∧ w.cell? ⟨b, p + 5, none⟩ = some (.int .i64 x.body.n) ∧ w.cell? ⟨b, p + 6, none⟩ = some (.string x.body.name) ∧ w.cell? ⟨b, p + 7, none⟩ = some s
theorem HdCells.keep {w w' : World} {b p : Nat} {x : Hd} (h : HdCells w b p x) (hb : Below w.heap.size w w') : HdCells w' b p x :=
  ⟨cell_kept h.1 hb, cell_kept h.2.1 hb, cell_kept h.2.2 hb⟩
theorem FlCells.keep {w w' : World} {b p : Nat} {x : Fl} {s : Value} (h : FlCells w b p x s) (hb : Below w.heap.size w w') : FlCells w' b p x s :=
  ⟨cell_kept h.1 hb, cell_kept h.2.1 hb, cell_kept h.2.2.1 hb, cell_kept h.2.2.2.1 hb, cell_kept h.2.2.2.2.1 hb, cell_kept h.2.2.2.2.2.1 hb, cell_kept h.2.2.2.2.2.2.1 hb, cell_kept h.2.2.2.2.2.2.2 hb⟩
/-- A row of heads in memory. -/
def InsAt (w : World) (l : List Hd) (s : Value) : Prop :=
  ∃ (ao : Option Addr) (cap : Nat), s = .slice ao l.length cap ∧ l.length ≤ 4398046510976 ∧ l.length ≤ cap ∧ (∀ x ∈ l, x.ok) ∧
    (l.length = 0 ∨ ∃ b o, ao = some ⟨b, o, none⟩ ∧ ∀ i (h : i < l.length), HdCells w b (o + i * 3) l[i])
/-- A row of flows in memory. -/
def FlowsAt (w : World) (l : List Fl) (s : Value) : Prop :=
  ∃ (ao : Option Addr) (cap : Nat) (sl : Nat → Value), s = .slice ao l.length cap ∧ l.length ≤ 1466015503658 ∧ l.length ≤ cap ∧ (∀ x ∈ l, x.ok) ∧
    (l.length = 0 ∨ ∃ b o, ao = some ⟨b, o, none⟩ ∧ ∀ i (h : i < l.length), FlCells w b (o + i * 8) l[i] (sl i)) ∧ ∀ i (h : i < l.length), St w l[i].body (sl i)
/-- A row of texts in memory. -/
def TextsAt (w : World) (l : List ByteArray) (s : Value) : Prop :=
  ∃ (ao : Option Addr) (cap : Nat), s = .slice ao l.length cap ∧ l.length ≤ 8796093021952 ∧ l.length ≤ cap ∧ (∀ x ∈ l, x.size ≤ 140737488355328) ∧
    (l.length = 0 ∨ ∃ b o, ao = some ⟨b, o, none⟩ ∧ ∀ i (h : i < l.length), w.cell? ⟨b, o + i, none⟩ = some (.string l[i]))
theorem InsAt.keep {w w' : World} {l : List Hd} {s : Value} (h : InsAt w l s) (hb : Below w.heap.size w w') : InsAt w' l s := by
  obtain ⟨ao, cap, rfl, h1, h2, h3, h4⟩ := h
  refine ⟨ao, cap, rfl, h1, h2, h3, h4.imp_right ?_⟩
  rintro ⟨b, o, ha, hc⟩
  exact ⟨b, o, ha, fun i hi => (hc i hi).keep hb⟩
theorem FlowsAt.keep {w w' : World} {l : List Fl} {s : Value} (h : FlowsAt w l s) (hb : Below w.heap.size w w') : FlowsAt w' l s := by
  obtain ⟨ao, cap, sl, rfl, h1, h2, h3, h4, h5⟩ := h
  refine ⟨ao, cap, sl, rfl, h1, h2, h3, h4.imp_right ?_, fun i hi => (h5 i hi).keep hb⟩
  rintro ⟨b, o, ha, hc⟩
  exact ⟨b, o, ha, fun i hi => (hc i hi).keep hb⟩
theorem TextsAt.keep {w w' : World} {l : List ByteArray} {s : Value} (h : TextsAt w l s) (hb : Below w.heap.size w w') : TextsAt w' l s := by
  obtain ⟨ao, cap, rfl, h1, h2, h3, h4⟩ := h
  refine ⟨ao, cap, rfl, h1, h2, h3, h4.imp_right ?_⟩
  rintro ⟨b, o, ha, hc⟩
  exact ⟨b, o, ha, fun i hi => cell_kept (hc i hi) hb⟩
/-- A head, a flow, a program, as a value. -/
abbrev hdV (x : Hd) : Value := .agg #[.string x.name, .int .u8 (x.ty : Int), .int .i64 x.st]
abbrev flV (x : Fl) (s : Value) : Value := .agg #[.string x.name, .int .u8 (x.ty : Int), .int .i64 x.st, .int .i64 x.df, .int .u8 (x.body.op : Int), .int .i64 x.body.n, .string x.body.name, s]
abbrev pgC (p : Pg) (a b c : Value) : Array Value := #[.int .i64 p.st, a, b, c]
abbrev pgV (p : Pg) (a b c : Value) : Value := .agg (pgC p a b c)
/-- A program in memory: its three rows. -/
structure PgAt (w : World) (p : Pg) (a b c : Value) : Prop where
  st : -9223372036854775808 ≤ p.st ∧ p.st ≤ 9223372036854775807
  ins : InsAt w p.ins a
  flows : FlowsAt w p.flows b
  outs : TextsAt w p.outs c
theorem PgAt.keep {w w' : World} {p : Pg} {a b c : Value} (h : PgAt w p a b c) (hb : Below w.heap.size w w') : PgAt w' p a b c :=
  ⟨h.st, h.ins.keep hb, h.flows.keep hb, h.outs.keep hb⟩
end Go.Proofs.YtmlapodhpinhmaaDoor.Lex
namespace Go.Proofs.YtmlapodhpinhmaaDoor.Lex
open Go.ChangeShapes Go.WideShapes Go.ChangeAt Go.RowKit Go.Shelf
attribute [local go_sem] Oper.semAt_some
/-- The head of a flow. -/
abbrev Fl.hd (f : Fl) : Hd := ⟨f.name, f.ty, f.st⟩
def insL (p : Pg) : List (Int × Hd) := p.ins.map fun x => (-1, x)
def flowsL (p : Pg) : List (Int × Hd) := (List.range p.flows.length).map fun (i : Nat) => ((i : Int), (p.flows[i]?.map Fl.hd).getD ⟨ByteArray.empty, 0, 0⟩)
/-- The things of a program, each with its place. -/
def thingsL (p : Pg) : List (Int × Hd) := insL p ++ flowsL p
theorem insL_len (p : Pg) : (insL p).length = p.ins.length := by simp [insL]
theorem flowsL_len (p : Pg) : (flowsL p).length = p.flows.length := by simp [flowsL]
theorem insL_succ (p : Pg) (k : Nat) (h : k < p.ins.length) : (insL p).take (k + 1) = (insL p).take k ++ [(-1, p.ins[k])] := by
  rw [List.take_succ_eq_append_getElem (by rw [insL_len]; exact h)]
  simp [insL]
theorem flowsL_succ (p : Pg) (k : Nat) (h : k < p.flows.length) : (flowsL p).take (k + 1) = (flowsL p).take k ++ [((k : Int), p.flows[k].hd)] := by
  rw [List.take_succ_eq_append_getElem (by rw [flowsL_len]; exact h)]
  simp [flowsL, h]
set_option maxRecDepth 100000 in
set_option maxHeartbeats 2000000 in
theorem things1 (F : Fence) (n : Nat) (h22 : F.fn 69) (hro : F.round = none) (hn : 1 ≤ n) (l Bn n₀ : Nat) (p : Pg) (a b c : Value) (J Jx : List (Int × Hd) → World → Prop) (W0 W : World) (hW0 : n₀ = W0.heap.size) (hW : Below n₀ W0 W) (hP : PgAt W0 p a b c)
    (hA : AbidesFrom W.heap.size J)
    (hY : ∀ pre x W, J pre W → pre.length < (thingsL p).length → YieldAt F (n - 1) Tryd.prog l #[.int .i64 x.1, hdV x.2] W fun e W' =>
      (e = .returned (.bool true) ∧ J (pre ++ [x]) W' ∧ Below n₀ W W') ∨ (e = .returned (.bool false) ∧ Jx (pre ++ [x]) W'))
    (hB1 : W0.cell? ⟨Bn, 1, none⟩ = some a) (hB2 : W0.cell? ⟨Bn, 2, none⟩ = some b) (h0 : J [] W) :
    CallsIn F n Tryd.prog 69 #[.func (.yield l) #[] #[], .pointer (some ⟨Bn, 0, none⟩)] W fun e W' => (∃ v, e = .returned v) ∧
      ((∃ ys, ys = thingsL p ∧ J ys W') ∨ (∃ pre, pre <+: thingsL p ∧ Jx pre W')) := by
  subst hW0
  obtain ⟨ao, cap, rfl, hlen, _, _, hc⟩ := hP.ins
  obtain ⟨bo, cbp, sl, rfl, hlen2, _, _, hc2, hs2⟩ := hP.flows
  have HS2 := hid hs2
  have HC := hid hc
  have HC2 := hid hc2
  have HL : Hid ((thingsL p).length = p.ins.length + p.flows.length) := hid (by simp [thingsL, insL_len, flowsL_len])
  clear hc hc2 hs2 hP
  have x1 := cell_kept hB1 hW
  have HB2 := hid hB2
  have AL : ∀ (s : List (Int × Hd)) (V : World) (o : Obj), J s V → J s (V.alloc o) := fun s V o h => hA s V _ none h (World.grownBy_alloc V o none) (fun r e => by cases e)
  clear hB1 hB2 hA
  refine callsIn_of_wp Tryd.func69 rfl h22 ?_ hro
  simp only [Tryd.ntmps69, List.size_toArray, List.length_cons, List.length_nil, Nat.reduceAdd, Nat.reduceSub, Array.replicate_succ, Array.replicate_zero, List.push_toArray, List.append_toArray, List.nil_append, List.cons_append]
  gi_wp2
  gi_loopw [10] (fun i wr => ∃ k : Nat, k ≤ p.ins.length ∧ i = .int .i64 (k : Int) ∧ Hid (J ((insL p).take k) wr) ∧ Hid (Below W0.heap.size W0 wr)) (fun i wr => p.ins.length - (intOf i).toNat)
  case atStart => exact ⟨0, Nat.zero_le _, rfl, hid h0, hid hW⟩
  case round =>
    obtain ⟨k, hk, rfl, hJ, hB⟩ := hrel
    by_cases hlt : k < p.ins.length
    · have hlt' : (k : Int) < (p.ins.length : Int) := by omega
      have hk0 : (0 : Int) ≤ (k : Int) := by omega
      obtain ⟨bb, o, rfl, hcc⟩ := HC.out.resolve_left (by omega)
      obtain ⟨v0, v1, v2⟩ := (hcc k hlt).keep hB.out
      have HS := hid (insL_succ p k hlt)
      obtain ⟨fn, tmps, assign, body, hy, hR⟩ := hY ((insL p).take k) (-1, p.ins[k]) (wr.alloc (.cells #[.string p.ins[k].name, .int .u8 (p.ins[k].ty : Int), .int .i64 p.ins[k].st] 59)) (AL _ _ _ hJ.out) (by have := HL.out; have := insL_len p; simp; omega)
      dsimp only at hy
      clear hcc
      generalize p.ins[k] = y at *
      gi_wp2
      refine hR.mono ?_
      rintro e W3 (⟨rfl, hJ3, hk3⟩ | ⟨rfl, hJx3⟩)
      · gi_wp2
        go_roundw
        case rel => exact ⟨k + 1, by omega, by go_num, hid (by rw [HS.out]; exact hJ3), hid ((hB.out.alloc hB.out.size _).trans hk3)⟩
        case measure => simp [intOf]; omega
      · gi_wp2
        refine bodyPost_ret (results_none rfl _ _ _) rfl ?_
        exact ⟨⟨_, rfl⟩, .inr ⟨_, by rw [← HS.out]; exact (List.take_prefix _ _).trans (List.prefix_append _ _), hJx3⟩⟩
    · have hlt' : ¬ (k : Int) < (p.ins.length : Int) := by omega
      have hJ' : Hid (J (insL p) wr) := by rw [List.take_of_length_le (by rw [insL_len]; omega)] at hJ; exact hJ
      have x2 := cell_kept HB2.out hB.out
      clear hJ
      gi_wp2
      gi_loopw [22] (fun i wr => ∃ k : Nat, k ≤ p.flows.length ∧ i = .int .i64 (k : Int) ∧ Hid (J (insL p ++ (flowsL p).take k) wr) ∧ Hid (Below W0.heap.size W0 wr)) (fun i wr => p.flows.length - (intOf i).toNat)
      case atStart => exact ⟨0, Nat.zero_le _, rfl, hid (by simpa using hJ'.out), hB⟩
      case round =>
        obtain ⟨j, hj, rfl, hJ2, hB'⟩ := hrel
        by_cases hjl : j < p.flows.length
        · have hjl' : (j : Int) < (p.flows.length : Int) := by omega
          have hj0 : (0 : Int) ≤ (j : Int) := by omega
          obtain ⟨b2, o2, rfl, hcc⟩ := HC2.out.resolve_left (by omega)
          have X := (hcc j hjl).keep hB'.out
          obtain ⟨a3, c3, _, e3, _⟩ := (HS2.out j hjl).out
          rw [e3] at X
          have HS := hid (flowsL_succ p j hjl)
          obtain ⟨fn, tmps, assign, body, hy, hR⟩ := hY (insL p ++ (flowsL p).take j) ((j : Int), p.flows[j].hd) (wr.alloc (.cells #[.string p.flows[j].name, .int .u8 (p.flows[j].ty : Int), .int .i64 p.flows[j].st, .int .i64 p.flows[j].df, .int .u8 (p.flows[j].body.op : Int), .int .i64 p.flows[j].body.n, .string p.flows[j].body.name, .slice a3 p.flows[j].body.args.length c3] 55)) (AL _ _ _ hJ2.out) (by have := HL.out; have := insL_len p; have := flowsL_len p; simp; omega)
          dsimp only [Fl.hd] at hy
          clear hcc e3
          obtain ⟨v0, v1, v2, v3, v4, v5, v6, v7⟩ := X
          generalize p.flows[j] = y at *
          gi_wp2
          refine hR.mono ?_
          rintro e W3 (⟨rfl, hJ3, hk3⟩ | ⟨rfl, hJx3⟩)
          · gi_wp2
            go_roundw
            case rel => exact ⟨j + 1, by omega, by go_num, hid (by rw [HS.out, ← List.append_assoc]; exact hJ3), hid ((hB'.out.alloc hB'.out.size _).trans hk3)⟩
            case measure => simp [intOf]; omega
          · gi_wp2
            refine bodyPost_ret (results_none rfl _ _ _) rfl ?_
            exact ⟨⟨_, rfl⟩, .inr ⟨_, by rw [List.append_assoc, ← HS.out]; exact (List.prefix_append_right_inj _).2 (List.take_prefix _ _), hJx3⟩⟩
        · have hjl' : ¬ (j : Int) < (p.flows.length : Int) := by omega
          gi_wp2
          go_end0
          exact ⟨⟨_, rfl⟩, .inl (by have := hJ2.out; rw [List.take_of_length_le (by rw [flowsL_len]; omega)] at this; exact this)⟩
/-- names.things hands back that function, over a copy of the program. -/
theorem things (F : Fence) (n : Nat) (h14 : F.fn 44) (hro : F.round = none) (p : Pg) (a b c : Value) (w : World) :
    CallsIn F n Tryd.prog 44 #[pgV p a b c] w fun e w' => e = .returned (.func (.func 69) #[] #[.pointer (some ⟨w.heap.size, 0, none⟩)]) ∧ w' = w.alloc (.cells (pgC p a b c) 26) := by
  refine callsIn_of_wp Tryd.func44 rfl h14 ?_ hro
  simp only [Tryd.ntmps44, List.size_toArray, List.length_cons, List.length_nil, Nat.reduceAdd, Nat.reduceSub, Array.replicate_succ, Array.replicate_zero, List.push_toArray, List.append_toArray, List.nil_append, List.cons_append]
  gi_wp2
  go_ret
  exact ⟨rfl, rfl⟩
/-- What it hands back goes through the things. -/
theorem things_stops (F : Fence) (n : Nat) (h22 : F.fn 69) (hro : F.round = none) (hn : 1 ≤ n) (Bn : Nat) (p : Pg) (a b c : Value) (w : World) (hP : PgAt w p a b c) (hB1 : w.cell? ⟨Bn, 1, none⟩ = some a) (hB2 : w.cell? ⟨Bn, 2, none⟩ = some b) :
    SeqStopsK F n Tryd.prog 69 #[.pointer (some ⟨Bn, 0, none⟩)] (fun x : Int × Hd => #[.int .i64 x.1, hdV x.2]) (Below w.heap.size) (fun ys => ys = thingsL p) (fun pre => pre <+: thingsL p) (thingsL p).length w := fun l J Jx W hW hA _ hY h0 =>
  things1 F n h22 hro hn l Bn w.heap.size p a b c J Jx w W rfl hW hP hA hY hB1 hB2 h0
end Go.Proofs.YtmlapodhpinhmaaDoor.Lex
namespace Go.Proofs.YtmlapodhpinhmaaDoor.Lex
open Go.ChangeShapes Go.WideShapes Go.ChangeAt Go.RowKit Go.Shelf
attribute [local go_sem] Oper.semAt_some
/-- The first of them that has the name. -/
def findT (l : List (Int × Hd)) (name : ByteArray) : Option (Int × Hd) := l.find? fun x => x.2.name.toList == name.toList
/-- What is answered. -/
def foV (o : Option (Int × Hd)) : Array Value := match o with
  | some x => #[.int .i64 x.2.st, .int .u8 (x.2.ty : Int), .int .i64 x.1, .bool true]
  | none => #[.int .i64 0, .int .u8 0, .int .i64 0, .bool false]
/-- None of them has it. -/
def Free (l : List (Int × Hd)) (name : ByteArray) : Prop := ∀ x ∈ l, (x.2.name.toList == name.toList) = false
theorem findT_none {l : List (Int × Hd)} {name : ByteArray} (h : Free l name) : findT l name = none := by
  unfold findT
  rw [List.find?_eq_none]
  intro x hx
  simp [h x hx]
theorem findT_some {l pre : List (Int × Hd)} {x : Int × Hd} {name : ByteArray} (hp : pre ++ [x] <+: l) (h : Free pre name) (hx : (x.2.name.toList == name.toList) = true) : findT l name = some x := by
  obtain ⟨t, rfl⟩ := hp
  have h' := findT_none h
  unfold findT at h' ⊢
  rw [List.append_assoc, List.find?_append, h']
  simp [hx]
theorem Free.snoc {l : List (Int × Hd)} {x : Int × Hd} {name : ByteArray} (h : Free l name) (hx : (x.2.name.toList == name.toList) = false) : Free (l ++ [x]) name := by
  intro y hy
  rcases List.mem_append.1 hy with hy | hy
  · exact h y hy
  · rw [List.mem_singleton.1 hy]; exact hx
theorem box_turn {B0 : Nat} {X Y : World} {row : Option Nat} {B : Nat} {t : TypeId} {v : Value} (h : Boxed X B t v) (hg : X.grownBy Y row) (hr : ∀ r, row = some r → B0 ≤ r ∧ ∃ o : Obj, X.heap[r]? = some o ∧ o.isCells = false) : Boxed Y B t v :=
  boxed_own B t (fun (_ : Unit) => v) () X Y row h hg (fun r e => (hr r e).2)
theorem grownBy_keeps_cells {X Y : World} {row : Option Nat} {B : Nat} {c : Array Value} {t : TypeId} {f : Nat × Nat} (hg : X.grownBy Y row) (hr : ∀ r, row = some r → ∃ o : Obj, X.heap[r]? = some o ∧ o.isCells = false) (h : X.heap[B]? = some (.cells c t f)) : Y.heap[B]? = some (.cells c t f) := by
  refine (hg.block B (Array.getElem?_eq_some_iff.1 h).1 ?_).trans h
  intro e
  obtain ⟨o, ho, hc⟩ := hr B e.symm
  rw [h] at ho
  cases ho
  cases hc
theorem boxed_drew {W : World} {B : Nat} {t : TypeId} {v : Value} (h : Boxed W B t v) : Boxed W.drew B t v := h
/-- Four boxes that are stored into. -/
def four (W : World) (b : Nat) (u2 u3 u4 u5 : Value) : World := (((W.setCell ⟨b + 1 + 1, 0, none⟩ u2).setCell ⟨b + 1 + 1 + 1, 0, none⟩ u3).setCell ⟨b + 1 + 1 + 1 + 1, 0, none⟩ u4).setCell ⟨b + 1 + 1 + 1 + 1 + 1, 0, none⟩ u5
theorem four_keeps (W : World) (b : Nat) (u2 u3 u4 u5 : Value) : KeepsOthers W (four W b u2 u3 u4 u5) :=
  (((KeepsOthers.setCell _ _ _).trans (KeepsOthers.setCell _ _ _)).trans (KeepsOthers.setCell _ _ _)).trans (KeepsOthers.setCell _ _ _)
theorem four_below {w W : World} {b : Nat} (u2 u3 u4 u5 : Value) (h : Below b w W) : Below b w (four W b u2 u3 u4 u5) :=
  (((h.setCell (p := ⟨b + 1 + 1, 0, none⟩) (by simp; omega) u2).setCell (p := ⟨b + 1 + 1 + 1, 0, none⟩) (by simp; omega) u3).setCell (p := ⟨b + 1 + 1 + 1 + 1, 0, none⟩) (by simp; omega) u4).setCell (p := ⟨b + 1 + 1 + 1 + 1 + 1, 0, none⟩) (by simp; omega) u5
theorem four_boxed {W : World} {b t2 t3 t4 t5 : Nat} {v2 v3 v4 v5 : Value} (u2 u3 u4 u5 : Value) (c2 : Boxed W (b + 1 + 1) t2 v2) (c3 : Boxed W (b + 1 + 1 + 1) t3 v3) (c4 : Boxed W (b + 1 + 1 + 1 + 1) t4 v4) (c5 : Boxed W (b + 1 + 1 + 1 + 1 + 1) t5 v5) :
    Boxed (four W b u2 u3 u4 u5) (b + 1 + 1) t2 u2 ∧ Boxed (four W b u2 u3 u4 u5) (b + 1 + 1 + 1) t3 u3 ∧ Boxed (four W b u2 u3 u4 u5) (b + 1 + 1 + 1 + 1) t4 u4 ∧ Boxed (four W b u2 u3 u4 u5) (b + 1 + 1 + 1 + 1 + 1) t5 u5 :=
  ⟨(((c2.set u2).other (by omega) u3).other (by omega) u4).other (by omega) u5, (((c3.other (by omega) u2).set u3).other (by omega) u4).other (by omega) u5, (((c4.other (by omega) u2).other (by omega) u3).set u4).other (by omega) u5, (((c5.other (by omega) u2).other (by omega) u3).other (by omega) u4).set u5⟩
set_option maxRecDepth 100000 in
set_option maxHeartbeats 4000000 in
theorem find_in (F : Fence) (n : Nat) (h7 : F.fn 54) (h14 : F.fn 44) (h22 : F.fn 69) (hro : F.round = none) (hn : 6 ≤ n) (p : Pg) (name : ByteArray) (w : World) (a b c : Value) (hP : PgAt w p a b c) :
    CallsIn F n Tryd.prog 54 #[pgV p a b c, .string name] w fun e W' => e = .returned (.tuple (foV (findT (thingsL p) name))) ∧ Below w.heap.size w W' := by
  have h1 : 1 ≤ n := by omega
  obtain ⟨a0, a1, rfl, _⟩ := hP.ins
  obtain ⟨b0, b1, _, rfl, _⟩ := hP.flows
  obtain ⟨c0, c1, rfl, _⟩ := hP.outs
  have HP := hid hP
  clear hP
  refine callsIn_of_wp_marks Tryd.func54 rfl h7 ?_ hro
  simp only [Tryd.ntmps54, List.size_toArray, List.length_cons, List.length_nil, Nat.reduceAdd, Nat.reduceSub, Array.replicate_succ, Array.replicate_zero, List.push_toArray, List.append_toArray, List.nil_append, List.cons_append]
  gi_wp2_with (gi_at_call 44; refine (things F (n - 1) h14 hro p _ _ _ _).mono ?_; rintro e w' ⟨rfl, rfl⟩)
  have hB0 : Below w.heap.size w (((((((w.alloc (.cells (pgC p (.slice a0 p.ins.length a1) (.slice b0 p.flows.length b1) (.slice c0 p.outs.length c1)) 26)).alloc (.cells #[.string name] 9)).alloc (.cells #[.int .i64 0] 3)).alloc (.cells #[.int .u8 0] 49)).alloc (.cells #[.int .i64 0] 3)).alloc (.cells #[.bool false] 4)).alloc (.cells (pgC p (.slice a0 p.ins.length a1) (.slice b0 p.flows.length b1) (.slice c0 p.outs.length c1)) 26)) := ((((((((Below.refl w.heap.size w).alloc (by simp; try omega) (.cells (pgC p (.slice a0 p.ins.length a1) (.slice b0 p.flows.length b1) (.slice c0 p.outs.length c1)) 26)).alloc (by simp; try omega) (.cells #[.string name] 9)).alloc (by simp; try omega) (.cells #[.int .i64 0] 3)).alloc (by simp; try omega) (.cells #[.int .u8 0] 49)).alloc (by simp; try omega) (.cells #[.int .i64 0] 3)).alloc (by simp; try omega) (.cells #[.bool false] 4)).alloc (by simp; try omega) (.cells (pgC p (.slice a0 p.ins.length a1) (.slice b0 p.flows.length b1) (.slice c0 p.outs.length c1)) 26))
  have hsz : (((((((w.alloc (.cells (pgC p (.slice a0 p.ins.length a1) (.slice b0 p.flows.length b1) (.slice c0 p.outs.length c1)) 26)).alloc (.cells #[.string name] 9)).alloc (.cells #[.int .i64 0] 3)).alloc (.cells #[.int .u8 0] 49)).alloc (.cells #[.int .i64 0] 3)).alloc (.cells #[.bool false] 4)).alloc (.cells (pgC p (.slice a0 p.ins.length a1) (.slice b0 p.flows.length b1) (.slice c0 p.outs.length c1)) 26)).heap.size = w.heap.size + 7 := by simp
  have bN : Boxed (((((((w.alloc (.cells (pgC p (.slice a0 p.ins.length a1) (.slice b0 p.flows.length b1) (.slice c0 p.outs.length c1)) 26)).alloc (.cells #[.string name] 9)).alloc (.cells #[.int .i64 0] 3)).alloc (.cells #[.int .u8 0] 49)).alloc (.cells #[.int .i64 0] 3)).alloc (.cells #[.bool false] 4)).alloc (.cells (pgC p (.slice a0 p.ins.length a1) (.slice b0 p.flows.length b1) (.slice c0 p.outs.length c1)) 26)) (w.heap.size + 1) 9 (.string name) := by have := ((((((Boxed.new (w.alloc (.cells (pgC p (.slice a0 p.ins.length a1) (.slice b0 p.flows.length b1) (.slice c0 p.outs.length c1)) 26)) 9 (.string name)).alloc (.cells #[.int .i64 0] 3)).alloc (.cells #[.int .u8 0] 49)).alloc (.cells #[.int .i64 0] 3)).alloc (.cells #[.bool false] 4)).alloc (.cells (pgC p (.slice a0 p.ins.length a1) (.slice b0 p.flows.length b1) (.slice c0 p.outs.length c1)) 26)); simpa using this
  have b2 : Boxed (((((((w.alloc (.cells (pgC p (.slice a0 p.ins.length a1) (.slice b0 p.flows.length b1) (.slice c0 p.outs.length c1)) 26)).alloc (.cells #[.string name] 9)).alloc (.cells #[.int .i64 0] 3)).alloc (.cells #[.int .u8 0] 49)).alloc (.cells #[.int .i64 0] 3)).alloc (.cells #[.bool false] 4)).alloc (.cells (pgC p (.slice a0 p.ins.length a1) (.slice b0 p.flows.length b1) (.slice c0 p.outs.length c1)) 26)) (w.heap.size + 1 + 1) 3 (.int .i64 0) := by have := (((((Boxed.new ((w.alloc (.cells (pgC p (.slice a0 p.ins.length a1) (.slice b0 p.flows.length b1) (.slice c0 p.outs.length c1)) 26)).alloc (.cells #[.string name] 9)) 3 (.int .i64 0)).alloc (.cells #[.int .u8 0] 49)).alloc (.cells #[.int .i64 0] 3)).alloc (.cells #[.bool false] 4)).alloc (.cells (pgC p (.slice a0 p.ins.length a1) (.slice b0 p.flows.length b1) (.slice c0 p.outs.length c1)) 26)); simpa using this
  have b3 : Boxed (((((((w.alloc (.cells (pgC p (.slice a0 p.ins.length a1) (.slice b0 p.flows.length b1) (.slice c0 p.outs.length c1)) 26)).alloc (.cells #[.string name] 9)).alloc (.cells #[.int .i64 0] 3)).alloc (.cells #[.int .u8 0] 49)).alloc (.cells #[.int .i64 0] 3)).alloc (.cells #[.bool false] 4)).alloc (.cells (pgC p (.slice a0 p.ins.length a1) (.slice b0 p.flows.length b1) (.slice c0 p.outs.length c1)) 26)) (w.heap.size + 1 + 1 + 1) 49 (.int .u8 0) := by have := ((((Boxed.new (((w.alloc (.cells (pgC p (.slice a0 p.ins.length a1) (.slice b0 p.flows.length b1) (.slice c0 p.outs.length c1)) 26)).alloc (.cells #[.string name] 9)).alloc (.cells #[.int .i64 0] 3)) 49 (.int .u8 0)).alloc (.cells #[.int .i64 0] 3)).alloc (.cells #[.bool false] 4)).alloc (.cells (pgC p (.slice a0 p.ins.length a1) (.slice b0 p.flows.length b1) (.slice c0 p.outs.length c1)) 26)); simpa using this
  have b4 : Boxed (((((((w.alloc (.cells (pgC p (.slice a0 p.ins.length a1) (.slice b0 p.flows.length b1) (.slice c0 p.outs.length c1)) 26)).alloc (.cells #[.string name] 9)).alloc (.cells #[.int .i64 0] 3)).alloc (.cells #[.int .u8 0] 49)).alloc (.cells #[.int .i64 0] 3)).alloc (.cells #[.bool false] 4)).alloc (.cells (pgC p (.slice a0 p.ins.length a1) (.slice b0 p.flows.length b1) (.slice c0 p.outs.length c1)) 26)) (w.heap.size + 1 + 1 + 1 + 1) 3 (.int .i64 0) := by have := (((Boxed.new ((((w.alloc (.cells (pgC p (.slice a0 p.ins.length a1) (.slice b0 p.flows.length b1) (.slice c0 p.outs.length c1)) 26)).alloc (.cells #[.string name] 9)).alloc (.cells #[.int .i64 0] 3)).alloc (.cells #[.int .u8 0] 49)) 3 (.int .i64 0)).alloc (.cells #[.bool false] 4)).alloc (.cells (pgC p (.slice a0 p.ins.length a1) (.slice b0 p.flows.length b1) (.slice c0 p.outs.length c1)) 26)); simpa using this
  have b5 : Boxed (((((((w.alloc (.cells (pgC p (.slice a0 p.ins.length a1) (.slice b0 p.flows.length b1) (.slice c0 p.outs.length c1)) 26)).alloc (.cells #[.string name] 9)).alloc (.cells #[.int .i64 0] 3)).alloc (.cells #[.int .u8 0] 49)).alloc (.cells #[.int .i64 0] 3)).alloc (.cells #[.bool false] 4)).alloc (.cells (pgC p (.slice a0 p.ins.length a1) (.slice b0 p.flows.length b1) (.slice c0 p.outs.length c1)) 26)) (w.heap.size + 1 + 1 + 1 + 1 + 1) 4 (.bool false) := by have := ((Boxed.new (((((w.alloc (.cells (pgC p (.slice a0 p.ins.length a1) (.slice b0 p.flows.length b1) (.slice c0 p.outs.length c1)) 26)).alloc (.cells #[.string name] 9)).alloc (.cells #[.int .i64 0] 3)).alloc (.cells #[.int .u8 0] 49)).alloc (.cells #[.int .i64 0] 3)) 4 (.bool false)).alloc (.cells (pgC p (.slice a0 p.ins.length a1) (.slice b0 p.flows.length b1) (.slice c0 p.outs.length c1)) 26)); simpa using this
  have x1 : (((((((w.alloc (.cells (pgC p (.slice a0 p.ins.length a1) (.slice b0 p.flows.length b1) (.slice c0 p.outs.length c1)) 26)).alloc (.cells #[.string name] 9)).alloc (.cells #[.int .i64 0] 3)).alloc (.cells #[.int .u8 0] 49)).alloc (.cells #[.int .i64 0] 3)).alloc (.cells #[.bool false] 4)).alloc (.cells (pgC p (.slice a0 p.ins.length a1) (.slice b0 p.flows.length b1) (.slice c0 p.outs.length c1)) 26)).cell? ⟨w.heap.size + 1 + 1 + 1 + 1 + 1 + 1, 1, none⟩ = some (.slice a0 p.ins.length a1) := by have := box_at ((((((w.alloc (.cells (pgC p (.slice a0 p.ins.length a1) (.slice b0 p.flows.length b1) (.slice c0 p.outs.length c1)) 26)).alloc (.cells #[.string name] 9)).alloc (.cells #[.int .i64 0] 3)).alloc (.cells #[.int .u8 0] 49)).alloc (.cells #[.int .i64 0] 3)).alloc (.cells #[.bool false] 4)) (pgC p (.slice a0 p.ins.length a1) (.slice b0 p.flows.length b1) (.slice c0 p.outs.length c1)) 26 1 (.slice a0 p.ins.length a1) rfl; simpa using this
  have x2 : (((((((w.alloc (.cells (pgC p (.slice a0 p.ins.length a1) (.slice b0 p.flows.length b1) (.slice c0 p.outs.length c1)) 26)).alloc (.cells #[.string name] 9)).alloc (.cells #[.int .i64 0] 3)).alloc (.cells #[.int .u8 0] 49)).alloc (.cells #[.int .i64 0] 3)).alloc (.cells #[.bool false] 4)).alloc (.cells (pgC p (.slice a0 p.ins.length a1) (.slice b0 p.flows.length b1) (.slice c0 p.outs.length c1)) 26)).cell? ⟨w.heap.size + 1 + 1 + 1 + 1 + 1 + 1, 2, none⟩ = some (.slice b0 p.flows.length b1) := by have := box_at ((((((w.alloc (.cells (pgC p (.slice a0 p.ins.length a1) (.slice b0 p.flows.length b1) (.slice c0 p.outs.length c1)) 26)).alloc (.cells #[.string name] 9)).alloc (.cells #[.int .i64 0] 3)).alloc (.cells #[.int .u8 0] 49)).alloc (.cells #[.int .i64 0] 3)).alloc (.cells #[.bool false] 4)) (pgC p (.slice a0 p.ins.length a1) (.slice b0 p.flows.length b1) (.slice c0 p.outs.length c1)) 26 2 (.slice b0 p.flows.length b1) rfl; simpa using this
  obtain ⟨W0, hW0⟩ : ∃ W0, (((((((w.alloc (.cells (pgC p (.slice a0 p.ins.length a1) (.slice b0 p.flows.length b1) (.slice c0 p.outs.length c1)) 26)).alloc (.cells #[.string name] 9)).alloc (.cells #[.int .i64 0] 3)).alloc (.cells #[.int .u8 0] 49)).alloc (.cells #[.int .i64 0] 3)).alloc (.cells #[.bool false] 4)).alloc (.cells (pgC p (.slice a0 p.ins.length a1) (.slice b0 p.flows.length b1) (.slice c0 p.outs.length c1)) 26)) = W0 := ⟨_, rfl⟩
  rw [hW0] at hB0 hsz bN b2 b3 b4 b5 x1 x2 ⊢
  clear hW0
  have HP0 := hid (HP.out.keep hB0)
  refine wpIn_rangeFunc_ownH hro h1 (gf := 69) (lb := #[.pointer (some ⟨w.heap.size + 1 + 1 + 1 + 1 + 1 + 1, 0, none⟩)]) rfl h22 (enters_of Tryd.func69 (by kernel_rfl) rfl)
    (things_stops F (n - 1) h22 hro (by omega) (w.heap.size + 1 + 1 + 1 + 1 + 1 + 1) p _ _ _ W0 HP0.out x1 x2) belowK_t (belowK_b (Nat.le_refl _)) (Below.refl _ _) (fun _ => rfl)
    (fun pre W => (((((Free pre name ∧ Boxed W (w.heap.size + 1) 9 (.string name)) ∧ Boxed W (w.heap.size + 1 + 1) 3 (.int .i64 0)) ∧ Boxed W (w.heap.size + 1 + 1 + 1) 49 (.int .u8 0)) ∧ Boxed W (w.heap.size + 1 + 1 + 1 + 1) 3 (.int .i64 0)) ∧ Boxed W (w.heap.size + 1 + 1 + 1 + 1 + 1) 4 (.bool false)) ∧ (Below w.heap.size w W ∧ W0.heap.size ≤ W.heap.size))
    (fun c pre W => ∃ (q : List (Int × Hd)) (x : Int × Hd), (c = .ret ∧ pre = q ++ [x] ∧ Free q name ∧ (x.2.name.toList == name.toList) = true) ∧ Boxed W (w.heap.size + 1 + 1) 3 (.int .i64 x.2.st) ∧ Boxed W (w.heap.size + 1 + 1 + 1) 49 (.int .u8 (x.2.ty : Int)) ∧ Boxed W (w.heap.size + 1 + 1 + 1 + 1) 3 (.int .i64 x.1) ∧ Boxed W (w.heap.size + 1 + 1 + 1 + 1 + 1) 4 (.bool true) ∧ Below w.heap.size w W)
    (OwnFrom.and (OwnFrom.and (OwnFrom.and (OwnFrom.and (OwnFrom.and (OwnFrom.and (ownFrom_pure _ _) (Own.from (boxed_own _ _ _) _)) (Own.from (boxed_own _ _ _) _)) (Own.from (boxed_own _ _ _) _)) (Own.from (boxed_own _ _ _) _)) (Own.from (boxed_own _ _ _) _)) (OwnFrom.and (ownFrom_below (Nat.le_refl _) (by omega)) (fun _ _ _ _ hs hg _ => Nat.le_trans hs hg.size)))
    (fun c pre X Y row hs hg hr => by
      obtain ⟨q, x, e, e2, e3, e4, e5, e6⟩ := hs
      exact ⟨q, x, e, box_turn e2 hg hr, box_turn e3 hg hr, box_turn e4 hg hr, box_turn e5 hg hr, (ownFrom_below (w₀ := w) (Nat.le_refl _) (by omega) : OwnFrom W0.heap.size (fun (_ : Unit) W => Below w.heap.size w W)) () X Y row e6 hg hr⟩)
    ⟨⟨⟨⟨⟨⟨(fun x hx => by cases hx), bN⟩, b2⟩, b3⟩, b4⟩, b5⟩, hB0, Nat.le_refl _⟩
    (fun x a' W => ∃ Bx, w.heap.size + 1 + 1 + 1 + 1 + 1 + 1 < Bx ∧ W.heap[Bx]? = some (.cells #[.string x.2.name, .int .u8 (x.2.ty : Int), .int .i64 x.2.st] 59 (0, 0)) ∧ a' = { tmps := #[pgV p (.slice a0 p.ins.length a1) (.slice b0 p.flows.length b1) (.slice c0 p.outs.length c1), .string name, .pointer (some ⟨w.heap.size, 0, none⟩), .pointer (some ⟨w.heap.size + 1, 0, none⟩), .pointer (some ⟨w.heap.size + 1 + 1, 0, none⟩), .pointer (some ⟨w.heap.size + 1 + 1 + 1, 0, none⟩), .pointer (some ⟨w.heap.size + 1 + 1 + 1 + 1, 0, none⟩), .pointer (some ⟨w.heap.size + 1 + 1 + 1 + 1 + 1, 0, none⟩), .int .i64 x.1, .pointer (some ⟨Bx, 0, none⟩), pgV p (.slice a0 p.ins.length a1) (.slice b0 p.flows.length b1) (.slice c0 p.outs.length c1), .func (.func 69) #[] #[.pointer (some ⟨w.heap.size + 1 + 1 + 1 + 1 + 1 + 1, 0, none⟩)], .int .i64 x.1, hdV x.2, undef, undef, undef, undef, undef, undef, undef, undef, undef], defers := [] })
    (fun x a' _ X Y row hs hg hr => by obtain ⟨Bx, e1, e2, e3⟩ := hs; exact ⟨Bx, e1, (grownBy_keeps_cells hg (fun r e => (hr r e).2) e2), e3⟩)
    ?assign ?body ?done ?stop
  case assign =>
    rintro l pre x W K ⟨⟨⟨⟨⟨⟨hf, cN⟩, c2⟩, c3⟩, c4⟩, c5⟩, hB1, hZ⟩ hK
    gi_wp2
    exact hK _ _ ((KeepsOthers.alloc _ _).from _) ((Below.refl _ W).alloc hZ _) ⟨⟨⟨⟨⟨⟨hf, cN.alloc _⟩, c2.alloc _⟩, c3.alloc _⟩, c4.alloc _⟩, c5.alloc _⟩, hB1.alloc hB1.size _, by simp; omega⟩ ⟨W.heap.size, by omega, World.alloc_heap_new W _, rfl⟩
  case body =>
    rintro l pre x a' W hl _ ⟨⟨⟨⟨⟨⟨hf, cN⟩, c2⟩, c3⟩, c4⟩, c5⟩, hB1, hZ⟩ ⟨Bx, hBx, hRow, rfl⟩ _
    have dN := cN.cell
    have d2 := c2.cell
    have d3 := c3.cell
    have d4 := c4.cell
    have d5 := c5.cell
    have f2 := c2.frozen
    have f3 := c3.frozen
    have f4 := c4.frozen
    have f5 := c5.frozen
    have v0 : W.cell? ⟨Bx, 0, none⟩ = some (.string x.2.name) := by rw [cell_of_row _ _ _ _ 59 (0, 0) hRow]; rfl
    have v1 : W.cell? ⟨Bx, 1, none⟩ = some (.int .u8 (x.2.ty : Int)) := by rw [cell_of_row _ _ _ _ 59 (0, 0) hRow]; rfl
    have v2 : W.cell? ⟨Bx, 2, none⟩ = some (.int .i64 x.2.st) := by rw [cell_of_row _ _ _ _ 59 (0, 0) hRow]; rfl
    by_cases heq : (x.2.name.toList == name.toList) = true
    · gi_wp2
      have FB := four_boxed (.int .i64 x.2.st) (.int .u8 (x.2.ty : Int)) (.int .i64 x.1) (.bool true) c2 c3 c4 c5
      have FK := (four_keeps W w.heap.size (.int .i64 x.2.st) (.int .u8 (x.2.ty : Int)) (.int .i64 x.1) (.bool true)).trans (KeepsOthers.drew _)
      have FL := (four_below (.int .i64 x.2.st) (.int .u8 (x.2.ty : Int)) (.int .i64 x.1) (.bool true) hB1).drew
      have F2 := boxed_drew FB.1
      have F3 := boxed_drew FB.2.1
      have F4 := boxed_drew FB.2.2.1
      have F5 := boxed_drew FB.2.2.2
      unfold four at F2 F3 F4 F5 FK FL
      have FIN := hid (And.intro (FK.from W0.heap.size) (And.intro F2 (And.intro F3 (And.intro F4 (And.intro F5 FL)))))
      clear FB FK FL F2 F3 F4 F5
      gi_region
      all_goals
        gi_wp2
        exact ⟨FIN.out.1, pre, x, ⟨rfl, rfl, hf, heq⟩, FIN.out.2⟩
    · have heq' : (x.2.name.toList == name.toList) = false := by simpa using heq
      gi_wp2
      exact ⟨KeepsFrom.refl _ _, Below.refl _ _, ⟨⟨⟨⟨⟨hf.snoc heq', cN⟩, c2⟩, c3⟩, c4⟩, c5⟩, hB1, hZ⟩
  case done =>
    rintro D ys W hD rfl ⟨⟨⟨⟨⟨⟨hf, cN⟩, c2⟩, c3⟩, c4⟩, c5⟩, hB1, hZ⟩ hK
    have d2 := c2.cell
    have d3 := c3.cell
    have d4 := c4.cell
    have d5 := c5.cell
    have f2 := c2.frozen
    have f3 := c3.frozen
    have f4 := c4.frozen
    have f5 := c5.frozen
    gi_wp2
    have FB := four_boxed (.int .i64 0) (.int .u8 0) (.int .i64 0) (.bool false) c2 c3 c4 c5
    have FK := four_keeps W w.heap.size (.int .i64 0) (.int .u8 0) (.int .i64 0) (.bool false)
    have FL := four_below (.int .i64 0) (.int .u8 0) (.int .i64 0) (.bool false) hB1
    have hK' := FK.same D _ hK rfl
    refine ⟨by simp, .inl ⟨_, _, rfl, run_takeDeferred hK', ?_⟩⟩
    have kk : ∀ B t v, Boxed (four W w.heap.size (.int .i64 0) (.int .u8 0) (.int .i64 0) (.bool false)) B t v → ((four W w.heap.size (.int .i64 0) (.int .u8 0) (.int .i64 0) (.bool false)).putObj D (.deferred none)).cell? ⟨B, 0, none⟩ = some v := fun _ _ _ h => Go.cell_kept h.cell (grownBy_putObj' _ D (.deferred none)) (fun r e => by cases e; exact ⟨_, hK', rfl⟩)
    have e2 := kk _ _ _ FB.1
    have e3 := kk _ _ _ FB.2.1
    have e4 := kk _ _ _ FB.2.2.1
    have e5 := kk _ _ _ FB.2.2.2
    refine ⟨.tuple #[.int .i64 0, .int .u8 0, .int .i64 0, .bool false], ?_, by rw [findT_none hf]; rfl, FL.trans (belowK_b (w := w) (Nat.le_refl _) _ D _ _ (by omega) hK' rfl rfl)⟩
    unfold four at e2 e3 e4 e5
    simp [results, Tryd.f54, go_sem, e2, e3, e4, e5]
  case stop =>
    rintro D c pre W hD hpre ⟨q, x, ⟨rfl, rfl, hf, hx⟩, c2, c3, c4, c5, hB1⟩ hK
    gi_wp2
    refine ⟨by simp, .inl ⟨_, _, rfl, run_takeDeferred hK, ?_⟩⟩
    have kk : ∀ B t v, Boxed W B t v → (W.putObj D (.deferred none)).cell? ⟨B, 0, none⟩ = some v := fun _ _ _ h => Go.cell_kept h.cell (grownBy_putObj' _ D (.deferred none)) (fun r e => by cases e; exact ⟨_, hK, rfl⟩)
    have e2 := kk _ _ _ c2
    have e3 := kk _ _ _ c3
    have e4 := kk _ _ _ c4
    have e5 := kk _ _ _ c5
    refine ⟨.tuple #[.int .i64 x.2.st, .int .u8 (x.2.ty : Int), .int .i64 x.1, .bool true], ?_, by rw [findT_some hpre hf hx]; rfl, hB1.trans (belowK_b (w := w) (Nat.le_refl _) W D _ _ (by omega) hK rfl rfl)⟩
    simp [results, Tryd.f54, go_sem, e2, e3, e4, e5]
/-- Find. -/
theorem find (p : Pg) (name : ByteArray) (w : World) (a b c : Value) (hP : PgAt w p a b c) :
    Calls Tryd.prog 54 #[pgV p a b c, .string name] w fun e W' => e = .returned (.tuple (foV (findT (thingsL p) name))) ∧ Below w.heap.size w W' :=
  (callsIn_wide (n := 6)).1 (find_in Fence.wide 6 trivial trivial trivial rfl (Nat.le_refl _) p name w a b c hP)
end Go.Proofs.YtmlapodhpinhmaaDoor.Lex
namespace Go.Proofs.YtmlapodhpinhmaaDoor.Lex
open Go.ChangeShapes Go.WideShapes Go.ChangeAt Go.RowKit Go.Joins
/-- What a token counts by. -/
structure Mark where
  kind : Nat
  text : ByteArray
/-- The mark of the next token; behind the last one there is one of no kind. -/
def markAt (ts : List Mark) (p : Nat) : Mark := ts.getD p ⟨0, ByteArray.empty⟩
abbrev mkV (m : Mark) : Value := .agg #[.int .u8 (m.kind : Int), .string m.text]
/-- Tokens in memory, from any place of a row on. -/
def MarksAt (w : World) (v : Value) (ts : List Mark) : Prop :=
  ∃ a cap, v = .slice a ts.length cap ∧ (ts.length = 0 ∨ ∃ g o, a = some ⟨g, o, none⟩ ∧ ∀ i (h : i < ts.length), w.cell? ⟨g, o + i * 3, none⟩ = some (.int .u8 (ts[i].kind : Int)) ∧ w.cell? ⟨g, o + i * 3 + 1, none⟩ = some (.string ts[i].text) ∧ ∃ at_ : Int, w.cell? ⟨g, o + i * 3 + 2, none⟩ = some (.int .i64 at_))
theorem heap_drew {w : World} {b : Nat} {o : Obj} (h : w.heap[b]? = some o) (n : Nat) : (w.drewN n).heap[b]? = some o := h
theorem below_drewN {B : Nat} {a w : World} (h : Below B a w) (n : Nat) : Below B a (w.drewN n) := h.trans ⟨rfl, rfl, rfl, Nat.le_refl _, fun _ _ => rfl⟩
theorem info81 : (Tryd.prog.info? 137).map (·.size) = some 2 := by kernel_rfl
end Go.Proofs.YtmlapodhpinhmaaDoor.Lex
namespace Go.Proofs.YtmlapodhpinhmaaDoor.Lex
open Go.ChangeShapes Go.WideShapes Go.ChangeAt Go.RowKit Go.Joins
/-- Are a row's token and a mark the same? -/
def jIs (r : J) (m : Mark) : Bool := r.kind == m.kind && r.text.toList == m.text.toList
def jAt (m : Mark) : Option J := JT.find? fun r => jIs r m
theorem jAt_some {m : Mark} (k : Nat) (hk : k < 12) (h : ∀ j, j < k → jIs (jR j) m = false) (he : jIs (jR k) m = true) : jAt m = some (jR k) := by
  unfold jAt
  rw [List.find?_eq_some_iff_getElem]
  have hget : ∀ j (hj : j < JT.length), JT[j]'hj = jR j := fun j hj => by unfold jR; rw [List.getD_eq_getElem?_getD, List.getElem?_eq_getElem hj]; rfl
  have hk' : k < JT.length := hk
  refine ⟨he, k, hk', hget k hk', fun j hj => ?_⟩
  have e := hget j (by omega)
  have hn := h j hj
  rw [← e] at hn
  rw [hn]
  rfl
theorem jAt_none {m : Mark} (h : ∀ j, j < 12 → jIs (jR j) m = false) : jAt m = none := by
  unfold jAt
  rw [List.find?_eq_none]
  intro r hr
  obtain ⟨j, hj, e⟩ := List.getElem_of_mem hr
  have := h j hj
  unfold jR at this
  rw [List.getD_eq_getElem?_getD, List.getElem?_eq_getElem hj, e] at this
  simp only [Option.getD_some] at this
  rw [this]
  simp
def jAtOut (m : Mark) : Array Value := jrow ((jAt m).getD j0)
end Go.Proofs.YtmlapodhpinhmaaDoor.Lex
namespace Go.Proofs.YtmlapodhpinhmaaDoor.Lex
open Go.ChangeShapes Go.WideShapes Go.ChangeAt Go.RowKit Go.Joins
theorem MarksAt.carry {w w' : World} {v : Value} {ts : List Mark} (h : MarksAt w v ts) (hb : ∀ a n c, v = .slice (some a) n c → a.block < w.heap.size → w'.heap[a.block]? = w.heap[a.block]?) : MarksAt w' v ts := by
  obtain ⟨a, cap, rfl, hc⟩ := h
  refine ⟨a, cap, rfl, ?_⟩
  rcases hc with h0 | ⟨g, o, rfl, hc⟩
  · exact .inl h0
  · refine .inr ⟨g, o, rfl, fun i hi => ?_⟩
    obtain ⟨m0, m1, at_, m2⟩ := hc i hi
    have hlt : g < w.heap.size := World.block_lt_of_cell? w ⟨g, o + i * 3, none⟩ m0
    have hk : ∀ {q x}, w.cell? ⟨g, q, none⟩ = some x → w'.cell? ⟨g, q, none⟩ = some x := fun {q x} hx => by
      rw [World.cell?_of_block (w := w) (a := ⟨g, q, none⟩) (hb ⟨g, o, none⟩ _ _ rfl hlt)]
      exact hx
    exact ⟨hk m0, hk m1, at_, hk m2⟩
theorem set_same' {w : World} {b : Nat} {c : Array Value} {t : TypeId} {f : Nat × Nat} (h : w.heap[b]? = some (.cells c t f)) (i : Nat) (u : Value) : (w.setCell ⟨b, i, none⟩ u).heap[b]? = some (.cells (c.setIfInBounds i u) t f) := by
  obtain ⟨hlt, hk⟩ := Array.getElem?_eq_some_iff.1 h
  show (w.heap.modify b _)[b]? = _
  rw [Array.getElem?_eq_getElem (by rw [Array.size_modify]; exact hlt), Array.getElem_modify_self, hk]
  rfl
end Go.Proofs.YtmlapodhpinhmaaDoor.Lex
namespace Go.Proofs.YtmlapodhpinhmaaDoor.Lex
open Go.ChangeShapes Go.WideShapes Go.ChangeAt Go.RowKit Go.Joins
/-- It stands in memory, in blocks that are so, looked at so deep. -/
def StPN (ok : Nat → Prop) (w : World) : Nat → Ex → Value → Prop
  | 0, _, _ => False
  | k + 1, x, s => ∃ (ao : Option Addr) (cap : Nat) (sl : Nat → Value), s = .slice ao x.args.length cap ∧ x.op < 256 ∧ (-9223372036854775808 ≤ x.n ∧ x.n ≤ 9223372036854775807) ∧ x.name.size ≤ 140737488355328 ∧ x.args.length ≤ 2513169434843 ∧ x.args.length ≤ cap ∧
    (x.args.length = 0 ∨ ∃ b o, ao = some ⟨b, o, none⟩ ∧ ok b ∧ ∀ i (h : i < x.args.length), w.cell? ⟨b, o + i * 4, none⟩ = some (.int .u8 (x.args[i].op : Int)) ∧ w.cell? ⟨b, o + i * 4 + 1, none⟩ = some (.int .i64 x.args[i].n) ∧
        w.cell? ⟨b, o + i * 4 + 2, none⟩ = some (.string x.args[i].name) ∧ w.cell? ⟨b, o + i * 4 + 3, none⟩ = some (sl i)) ∧ ∀ i (h : i < x.args.length), StPN ok w k x.args[i] (sl i)
theorem StPN.up {ok : Nat → Prop} {w : World} : ∀ (k' k : Nat) (x : Ex) (s : Value), StPN ok w k x s → SizeOf.sizeOf x ≤ k' → StPN ok w k' x s
  | 0, k, x, s, _, hs => by have := x.pos; omega
  | k' + 1, 0, x, s, h, _ => h.elim
  | k' + 1, k + 1, x, s, h, hs => by
    obtain ⟨ao, cap, sl, h1, h2, h3, h4, h5, h6, h7, h8⟩ := h
    exact ⟨ao, cap, sl, h1, h2, h3, h4, h5, h6, h7, fun i hi => StPN.up k' k _ _ (h8 i hi) (by have := x.part_lt i hi; omega)⟩
/-- It stands in memory, in blocks that are so. -/
def StP (ok : Nat → Prop) (w : World) (x : Ex) (s : Value) : Prop := StPN ok w (SizeOf.sizeOf x) x s
theorem StP.intro {ok : Nat → Prop} {w : World} (x : Ex) (ao : Option Addr) (cap : Nat) (sl : Nat → Value) (hop : x.op < 256) (hn : -9223372036854775808 ≤ x.n ∧ x.n ≤ 9223372036854775807) (hnm : x.name.size ≤ 140737488355328) (hlen : x.args.length ≤ 2513169434843) (hcap : x.args.length ≤ cap)
      (hc : x.args.length = 0 ∨ ∃ b o, ao = some ⟨b, o, none⟩ ∧ ok b ∧ ∀ i (h : i < x.args.length), w.cell? ⟨b, o + i * 4, none⟩ = some (.int .u8 (x.args[i].op : Int)) ∧ w.cell? ⟨b, o + i * 4 + 1, none⟩ = some (.int .i64 x.args[i].n) ∧
        w.cell? ⟨b, o + i * 4 + 2, none⟩ = some (.string x.args[i].name) ∧ w.cell? ⟨b, o + i * 4 + 3, none⟩ = some (sl i))
      (hs : ∀ i (h : i < x.args.length), StP ok w x.args[i] (sl i)) : StP ok w x (.slice ao x.args.length cap) := by
  unfold StP
  obtain ⟨m, hm⟩ : ∃ m, SizeOf.sizeOf x = m + 1 := ⟨SizeOf.sizeOf x - 1, by have := x.pos; omega⟩
  rw [hm]
  exact ⟨ao, cap, sl, rfl, hop, hn, hnm, hlen, hcap, hc, fun i hi => StPN.up m _ _ _ (hs i hi) (by have := x.part_lt i hi; omega)⟩
theorem StP.out {ok : Nat → Prop} {w : World} {x : Ex} {s : Value} (h : StP ok w x s) : ∃ (ao : Option Addr) (cap : Nat) (sl : Nat → Value), s = .slice ao x.args.length cap ∧ x.op < 256 ∧ (-9223372036854775808 ≤ x.n ∧ x.n ≤ 9223372036854775807) ∧ x.name.size ≤ 140737488355328 ∧ x.args.length ≤ 2513169434843 ∧ x.args.length ≤ cap ∧
    (x.args.length = 0 ∨ ∃ b o, ao = some ⟨b, o, none⟩ ∧ ok b ∧ ∀ i (h : i < x.args.length), w.cell? ⟨b, o + i * 4, none⟩ = some (.int .u8 (x.args[i].op : Int)) ∧ w.cell? ⟨b, o + i * 4 + 1, none⟩ = some (.int .i64 x.args[i].n) ∧
        w.cell? ⟨b, o + i * 4 + 2, none⟩ = some (.string x.args[i].name) ∧ w.cell? ⟨b, o + i * 4 + 3, none⟩ = some (sl i)) ∧ ∀ i (h : i < x.args.length), StP ok w x.args[i] (sl i) := by
  unfold StP at h
  obtain ⟨m, hm⟩ : ∃ m, SizeOf.sizeOf x = m + 1 := ⟨SizeOf.sizeOf x - 1, by have := x.pos; omega⟩
  rw [hm] at h
  obtain ⟨ao, cap, sl, h1, h2, h3, h4, h5, h6, h7, h8⟩ := h
  exact ⟨ao, cap, sl, h1, h2, h3, h4, h5, h6, h7, fun i hi => StPN.up _ m _ _ (h8 i hi) (Nat.le_refl _)⟩
theorem StP.carryN {ok ok' : Nat → Prop} {w w' : World} (hb : ∀ b, ok b → b < w.heap.size → w'.heap[b]? = w.heap[b]?) (ho : ∀ b, b < w.heap.size → ok b → ok' b) : ∀ (m : Nat) (x : Ex) (s : Value), SizeOf.sizeOf x ≤ m → StP ok w x s → StP ok' w' x s
  | 0, x, s, hm, _ => by have := x.pos; omega
  | m + 1, x, s, hm, h => by
    obtain ⟨ao, cap, sl, rfl, hop, hn, hnm, hlen, hcap, hc, hs⟩ := h.out
    refine StP.intro x ao cap sl hop hn hnm hlen hcap ?_ (fun i hi => StP.carryN hb ho m _ _ (by have := x.part_lt i hi; omega) (hs i hi))
    by_cases h00 : x.args.length = 0
    · exact .inl h00
    · obtain ⟨b, o, ha, hok, hc⟩ := hc.resolve_left h00
      have hlt : b < w.heap.size := World.block_lt_of_cell? w ⟨b, o + 0 * 4, none⟩ (hc 0 (by omega)).1
      have hk : ∀ {q v}, w.cell? ⟨b, q, none⟩ = some v → w'.cell? ⟨b, q, none⟩ = some v := fun {q v} h => by
        rw [World.cell?_of_block (w := w) (a := ⟨b, q, none⟩) (hb b hok hlt)]
        exact h
      refine .inr ⟨b, o, ha, ho b hlt hok, fun i hi => ?_⟩
      obtain ⟨h0, h1, h2, h3⟩ := hc i hi
      exact ⟨hk h0, hk h1, hk h2, hk h3⟩
theorem StP.carry {ok : Nat → Prop} {w w' : World} {x : Ex} {s : Value} (h : StP ok w x s) (hb : ∀ b, ok b → b < w.heap.size → w'.heap[b]? = w.heap[b]?) : StP ok w' x s := StP.carryN hb (fun _ _ h => h) _ x s (Nat.le_refl _) h
theorem StP.stN {ok : Nat → Prop} {w : World} : ∀ (m : Nat) (x : Ex) (s : Value), SizeOf.sizeOf x ≤ m → StP ok w x s → St w x s
  | 0, x, s, hm, _ => by have := x.pos; omega
  | m + 1, x, s, hm, h => by
    obtain ⟨ao, cap, sl, rfl, hop, hn, hnm, hlen, hcap, hc, hs⟩ := h.out
    refine St.intro x ao cap sl hop hn hnm hlen hcap ?_ (fun i hi => StP.stN m _ _ (by have := x.part_lt i hi; omega) (hs i hi))
    rcases hc with h0 | ⟨b, o, ha, _, hc⟩
    · exact .inl h0
    · exact .inr ⟨b, o, ha, hc⟩
theorem StP.st {ok : Nat → Prop} {w : World} {x : Ex} {s : Value} (h : StP ok w x s) : St w x s := StP.stN _ x s (Nat.le_refl _) h
/-- What has no parts stands anywhere. -/
theorem StP.leaf {ok : Nat → Prop} {w : World} (op : Nat) (n : Int) (nm : ByteArray) (hop : op < 256) (hn : -9223372036854775808 ≤ n ∧ n ≤ 9223372036854775807) (hnm : nm.size ≤ 140737488355328) : StP ok w ⟨op, n, nm, []⟩ (.slice none 0 0) :=
  StP.intro ⟨op, n, nm, []⟩ none 0 (fun _ => .slice none 0 0) hop hn hnm (Nat.zero_le _) (Nat.le_refl _) (.inl rfl) (fun i hi => by cases hi)
end Go.Proofs.YtmlapodhpinhmaaDoor.Lex
namespace Go.Proofs.YtmlapodhpinhmaaDoor.Lex
open Go.ChangeShapes Go.WideShapes Go.ChangeAt Go.RowKit Go.Joins
/-- What reading answers: it, and the place behind it; or an error, and its place. -/
abbrev Res := Except (Nat × Nat) (Ex × Nat)
/-- A panic with an error of the language. -/
abbrev panicE (e : Nat) : Ending := .panicked [{ v := .iface 36 (.int .i64 (e : Int)), recovered := false }]
end Go.Proofs.YtmlapodhpinhmaaDoor.Lex
