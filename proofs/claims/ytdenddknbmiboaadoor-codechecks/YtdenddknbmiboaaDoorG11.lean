/-
  One instruction more: push, step.
  One instruction more: an operator.
  Whether instructions may be: mayNotBe, IndexFunc, ContainsFunc, Check.
  How a name's value is taken: the writer in its variable, taken.
-/
import Derived.Test.YtdenddknbmiboaaDoorG10
namespace Go.Proofs.YtdenddknbmiboaaDoor.Lex
open Go.ChangeShapes Go.WideShapes Go.ChangeAt Go.RowKit Go.Joins
def tyC (q : List Nat) : List Value := q.map fun (t : Nat) => .int .u8 (t : Int)
theorem tyC_len (q : List Nat) : (tyC q).length = q.length := by unfold tyC; rw [List.length_map]
/-- A pile of types. -/
abbrev Pil (W : World) (B : Nat) (v : Value) (q : List Nat) : Prop := W.ownsRow B 27 1 v q.length (tyC q)
theorem Pil.take {W : World} {B : Nat} {a : Option Addr} {n c : Nat} {q : List Nat} (h : Pil W B (.slice a n c) q) (m : Nat) (hm : m ≤ q.length) : Pil W B (.slice a m c) (q.take m) := by
  obtain ⟨h1, h2⟩ := h
  refine ⟨by rw [tyC_len, List.length_take]; omega, ?_⟩
  rcases h2 with ⟨e, h2⟩ | ⟨g, cap, cur, e, h3, h4, h5, h6, h7, h8⟩
  · injection e with e1 e2 e3
    subst e1 e3
    refine .inl ⟨by rw [show m = 0 by omega], by rw [List.length_take]; omega⟩
  · injection e with e1 e2 e3
    subst e1 e3
    refine .inr ⟨g, c, cur, by rw [List.length_take, Nat.min_eq_left hm], h3, h4, by rw [List.length_take]; omega, h6, h7, ?_⟩
    have : (tyC (q.take m)) = (tyC q).take m := by unfold tyC; rw [List.map_take]
    rw [this, ← h8, List.take_take, List.length_take]
    congr 1
    omega
/-- A pile with something on it. -/
theorem Pil.some {W : World} {B : Nat} {v : Value} {q : List Nat} (h : Pil W B v q) (hq : 0 < q.length) : ∃ g c, v = .slice (some ⟨g, 0, none⟩) q.length c ∧ q.length ≤ c ∧ B ≤ g ∧ g < W.heap.size ∧ PTy W g 0 q := by
  rcases h.2 with ⟨_, h2⟩ | ⟨g, cap, cur, e, h3, h4, h5, h6, h7, h8⟩
  · omega
  · refine ⟨g, cap, e, h5, h3, (Array.getElem?_eq_some_iff.1 h4).1, fun i hi => ?_⟩
    have h9 := World.ownsRow.cellAt (e ▸ h) i (by omega)
    rw [Nat.zero_add, h9]
    unfold tyC
    rw [List.getElem?_map, List.getElem?_eq_getElem hi]
    rfl
theorem PTy.drop {W : World} {g o : Nat} {q : List Nat} (h : PTy W g o q) (m : Nat) : PTy W g (o + m) (q.drop m) := fun i hi => by
  have h2 : m + i < q.length := by rw [List.length_drop] at hi; omega
  have h3 := h (m + i) h2
  rw [List.getElem_drop, show o + m + i = o + (m + i) by omega]
  exact h3
/-- A checker in its variable, with what it stands on. -/
structure CkS (w : World) (pv : Value) (ob : Nat) (q : List Nat) (qv : Value) (W : World) : Prop where
  box : W.heap[w.heap.size]? = some (.cells #[pv, .map (some ob), qv] 62 (0, 0))
  pile : Pil W (w.heap.size + 1) qv q
  below : Below w.heap.size w W
theorem CkS.keep {w W W' : World} {pv : Value} {ob : Nat} {q : List Nat} {qv : Value} (h : CkS w pv ob q qv W) (hb : Below W.heap.size W W') : CkS w pv ob q qv W' := ⟨keep_row h.box hb, own_same h.pile (fun b e => hb.block b (h.pile.lt b e).2), h.below.trans (hb.mono h.below.size)⟩
theorem CkS.cells {w W : World} {pv : Value} {ob : Nat} {q : List Nat} {qv : Value} (h : CkS w pv ob q qv W) : W.cell? ⟨w.heap.size, 0, none⟩ = some pv ∧ W.cell? ⟨w.heap.size, 1, none⟩ = some (.map (some ob)) ∧ W.cell? ⟨w.heap.size, 2, none⟩ = some qv :=
  ⟨(cell_of_row _ _ _ _ 62 (0, 0) h.box).trans rfl, (cell_of_row _ _ _ _ 62 (0, 0) h.box).trans rfl, (cell_of_row _ _ _ _ 62 (0, 0) h.box).trans rfl⟩
/-- Another pile is put into it. -/
theorem CkS.put {w W : World} {pv : Value} {ob : Nat} {q' : List Nat} {qv qv' : Value} (hb : W.heap[w.heap.size]? = some (.cells #[pv, .map (some ob), qv] 62 (0, 0))) (hl : Below w.heap.size w W) (hq : Pil W (w.heap.size + 1) qv' q') : CkS w pv ob q' qv' (W.setCell ⟨w.heap.size, 2, none⟩ qv') := by
  refine ⟨?_, ?_, hl.setCell (p := ⟨w.heap.size, 2, none⟩) (by simp) _⟩
  · rw [setCell_eq_setRow W _ 2 _ 62 (0, 0) qv' hb]
    exact setRow_heap _ _ _ _ _ _ hb
  · exact own_same hq (fun b e => by
      have := (hq.lt b e).1
      exact Below.heap_setCell _ _ _ _ (by simp; omega))
theorem CkS.set {w W : World} {pv : Value} {ob : Nat} {q q' : List Nat} {qv qv' : Value} (h : CkS w pv ob q qv W) (hq : Pil W (w.heap.size + 1) qv' q') : CkS w pv ob q' qv' (W.setCell ⟨w.heap.size, 2, none⟩ qv') := CkS.put h.box h.below hq
theorem infoT : (Tryd.prog.info? 27).map (fun i => (i.zero, i.size, i.bytes)) = some (some (.int .u8 0), 1, 1) := by kernel_rfl
set_option maxRecDepth 100000 in
set_option maxHeartbeats 4000000 in
theorem push_ (w : World) (pv : Value) (ob : Nat) (q : List Nat) (qv : Value) (t : Nat) (W : World) (h : CkS w pv ob q qv W) (hq : q.length ≤ 100000) : Calls Tryd.prog 41 #[.pointer (some ⟨w.heap.size, 0, none⟩), .int .u8 (t : Int)] W fun e w' => e = .returned (.bool (!(t == 0))) ∧ ∃ qv', CkS w pv ob (q ++ [t]) qv' w' := by
  obtain ⟨i0, hi, hz0, hz1, hz2⟩ := info_parts infoT
  have HNX := hid (next_cells W [.int .u8 (t : Int)] 27)
  have hal := (Below.refl W.heap.size W).alloc (Nat.le_refl _) (.cells #[.int .u8 (t : Int)] 27)
  have H := hid (h.keep hal)
  have HT : Hid (tyC (q ++ [t]) = tyC q ++ [.int .u8 (t : Int)]) := hid (by unfold tyC; rw [List.map_append]; rfl)
  have hsz := h.below.size
  have hne : ((t : Int) != 0) = !(t == 0) := by
    cases e : t == 0 with
    | true => rw [beq_iff_eq] at e; subst e; rfl
    | false => rw [beq_eq_false_iff_ne] at e; simp; omega
  obtain ⟨x0, x1, x2⟩ := h.cells
  obtain ⟨y0, y1, y2⟩ := H.out.cells
  generalize hr : (!(t == 0)) = r at *
  clear hr h hal
  go_enter Tryd.func41, Tryd.ntmps41
  go_wp2_with (at_builtin
               refine wpList_append_own_at _ rfl _ _ 60 rfl (w.heap.size + 1) 27 i0 (.int .u8 0) 1 1 Tryd.underlying60 hi hz0 hz1 hz2 rfl (by decide) _ _ _ rfl H.out.pile ⟨W.heap.size, 0, none⟩ 1 1 [.int .u8 (t : Int)] rfl rfl HNX.out (by simp [Value.oneCell']) (by unfold maxLen; omega) (by omega) (by simp; omega) ?_
               intro v' w8 hown' hgrow _ _
               obtain ⟨g', cap', rfl⟩ := ownsRow_succ hown'
               have hbx := (hgrow.block _ (Array.getElem?_eq_some_iff.1 H.out.box).1 (fun e => by have := H.out.pile.lt _ e.symm; omega)).trans H.out.box
               have hbl := H.out.below.grown hgrow H.out.below.size (fun j hj => by have := H.out.pile.lt _ hj; omega)
               have P8 : Hid (Pil w8 (w.heap.size + 1) (.slice (some ⟨g', 0, none⟩) (q ++ [t]).length cap') (q ++ [t])) := hid (by
                 unfold Pil
                 rw [HT.out, List.length_append, List.length_singleton]
                 exact hown')
               have B8 := hid hbx
               have L8 := hid hbl
               have z2 := (cell_of_row _ _ 2 _ 62 (0, 0) hbx).trans rfl
               have f2 : w8.frozen? ⟨w.heap.size, 2, none⟩ = false := frozen_of_row _ _ _ _ _ hbx
               clear hown' hgrow hbx hbl)
  have HL : Hid ((q ++ [t]).length = q.length + 1) := hid (by simp)
  go_ret
  have P9 := P8.out
  rw [HL.out] at P9
  exact ⟨rfl, _, CkS.put B8.out L8.out P9⟩
/-- What is answered: whether it may be, and what is on the pile then. -/
def StpP (w : World) (pv : Value) (ob : Nat) (o : Option (List Nat)) (e : Ending) (w' : World) : Prop := match o with
  | none => e = .returned (.bool false) ∧ Below w.heap.size w w'
  | some q => e = .returned (.bool true) ∧ ∃ qv, CkS w pv ob q qv w'
theorem wpList_look2 {P : Program} {w : World} {ops : Array Oper} {rest : List Oper} {o : Oper} {a : Act} {Q : Exit → Act → World → Prop} (hg : o.guard = none) (m x : Operand) (t : TypeId) (hop : o.op = Op.lookup t m x true) {M X V : Value} (hm : a.eval m = M) (hx : a.eval x = X)
    (hrun : (Instr.lookup t M X true).run P w = .ok V w) (h : wpList P ops Q rest (a.put o.dst V) w) : wpList P ops Q (o :: rest) a w := by
  refine wpList_plain hg fun K hK => ?_
  unfold Oper.wp
  simp [execOp, hop, hm, hx, hrun, Result.andThen]
  exact hK _ _ h
theorem wp_look2 {P : Program} {w : World} {o : Oper} {a : Act} {K : Act → World → Prop} {Q : Exit → Act → World → Prop} (m x : Operand) (t : TypeId) (hop : o.op = Op.lookup t m x true) {M X V : Value} (hm : a.eval m = M) (hx : a.eval x = X)
    (hrun : (Instr.lookup t M X true).run P w = .ok V w) (h : K (a.put o.dst V) w) : o.wp P a w K Q := by
  unfold Oper.wp
  simp [execOp, hop, hm, hx, hrun, Result.andThen]
  exact h
set_option maxRecDepth 100000 in
set_option maxHeartbeats 8000000 in
/-- One that takes nothing. -/
theorem step_atom (w : World) (pv : Value) (ps : List Plc) (ob : Nat) (q : List Nat) (qv : Value) (i : Cin) (W : World) (h : CkS w pv ob q qv W) (hP : PlR w pv ps) (hO : Ops w ob) (hq : q.length ≤ 100000) (h1 : ¬ (4 ≤ i.op ∧ i.op ≤ 18)) (h2 : i.op < 256) : Calls Tryd.prog 19 #[.pointer (some ⟨w.heap.size, 0, none⟩), insV i] W (StpP w pv ob (stepF ps i q)) := by
  have hal := (Below.refl W.heap.size W).alloc (Nat.le_refl _) (.cells #[.int .u8 (i.op : Int), .int .i64 i.n, .int .i64 i.ago] 38)
  have hV : Hid (stepF ps i q = if atF ps i = 0 then none else some (q ++ [atF ps i])) := hid (by unfold stepF; rw [if_neg h1])
  generalize stepF ps i q = R at *
  obtain ⟨V1, hV1⟩ : ∃ V, V = W.alloc (.cells #[.int .u8 (i.op : Int), .int .i64 i.n, .int .i64 i.ago] 38) := ⟨_, rfl⟩
  have hb1 : V1.heap[W.heap.size]? = some (.cells #[.int .u8 (i.op : Int), .int .i64 i.n, .int .i64 i.ago] 38 (0, 0)) := by rw [hV1]; exact heap_alloc_new _ _
  rw [← hV1] at hal
  have S1 := hid (h.keep hal)
  obtain ⟨y0, y1, y2⟩ := S1.out.cells
  have x0 := (cell_of_row _ _ 0 _ 38 (0, 0) hb1).trans rfl
  have x1 := (cell_of_row _ _ 1 _ 38 (0, 0) hb1).trans rfl
  have x2 := (cell_of_row _ _ 2 _ 38 (0, 0) hb1).trans rfl
  have hS : ∀ V', Below V1.heap.size V1 V' → V'.cell? ⟨w.heap.size, 1, none⟩ = some (.map (some ob)) ∧ V'.cell? ⟨W.heap.size, 0, none⟩ = some (.int .u8 (i.op : Int)) ∧ (Instr.lookup 58 (.map (some ob)) (.int .u8 (i.op : Int)) true).run Tryd.prog V' = .ok (.tuple #[opZ, .bool false]) V' := fun V' hb => ⟨cell_kept y1 hb, cell_kept x0 hb, (hO.keep (S1.out.below.trans (hb.mono S1.out.below.size))).no h1 h2⟩
  have HB1 := hid hb1
  have hs1 : V1.heap.size = W.heap.size + 1 := by rw [hV1]; simp
  clear hb1 h
  go_enter Tryd.func19, Tryd.ntmps19
  go_wp2_with (first | (rw [← hV1]; clear hV1))
  refine wp_region_held_drew (S := fun V => V.cell? ⟨w.heap.size, 1, none⟩ = some (.map (some ob)) ∧ V.cell? ⟨W.heap.size, 0, none⟩ = some (.int .u8 (i.op : Int)) ∧ (Instr.lookup 58 (.map (some ob)) (.int .u8 (i.op : Int)) true).run Tryd.prog V = .ok (.tuple #[opZ, .bool false]) V) (by kernel_rfl) ?_ (fun hHeld => ?_)
  · exact hS _ (Below.refl _ _).drew
  refine wpAnyH_take (i := 0) (oi := { dst := some 10, op := Go.Op.move (Go.Operand.tmp 0), type := 98, pos := _, after := #[], guard := none }) (v := ?_) rfl (by kernel_rfl) (by kernel_rfl) (by kernel_rfl) (fun _ _ _ h => h) (Or.inl ⟨by rfl, ?_⟩) (by assumption) ?_
  rotate_left
  · intro w hSw; (try dsimp only at hSw); go_simp <;> first | with_reducible rfl | (rw [if_neg (by first | omega | (simp only [ByteArray.size_append] at *; omega))])
  simp only [Act.put, List.setIfInBounds_toArray, List.set_cons_zero, List.set_cons_succ]
  refine wpAnyH_take (i := 1) (oi := { dst := some 11, op := Go.Op.nilCheck (Go.Operand.tmp 10), type := 0, pos := _, after := #[{ on := 0, ground := Go.Ground.data }], guard := none }) (v := ?_) rfl (by kernel_rfl) (by kernel_rfl) (by kernel_rfl) (fun _ _ _ h => h) (Or.inl ⟨by rfl, ?_⟩) (by assumption) ?_
  rotate_left
  · intro w hSw; (try dsimp only at hSw); go_simp <;> first | with_reducible rfl | (rw [if_neg (by first | omega | (simp only [ByteArray.size_append] at *; omega))])
  simp only [Act.put, List.setIfInBounds_toArray, List.set_cons_zero, List.set_cons_succ]
  refine wpAnyH_take (i := 2) (oi := { dst := some 12, op := Go.Op.fieldAddr 62 (Go.Operand.tmp 11) 1, type := 0, pos := _, after := #[{ on := 1, ground := Go.Ground.data }], guard := none }) (v := ?_) rfl (by kernel_rfl) (by kernel_rfl) (by kernel_rfl) (fun _ _ _ h => h) (Or.inl ⟨by rfl, ?_⟩) (by assumption) ?_
  rotate_left
  · intro w hSw; (try dsimp only at hSw); go_simp <;> first | with_reducible rfl | (rw [if_neg (by first | omega | (simp only [ByteArray.size_append] at *; omega))])
  simp only [Act.put, List.setIfInBounds_toArray, List.set_cons_zero, List.set_cons_succ]
  refine wpAnyH_take (i := 3) (oi := { dst := some 13, op := Go.Op.load 58 (Go.Operand.tmp 12), type := 58, pos := _, after := #[{ on := 2, ground := Go.Ground.data }], guard := none }) (v := ?_) rfl (by kernel_rfl) (by kernel_rfl) (by kernel_rfl) (fun _ _ _ h => h) (Or.inl ⟨by rfl, ?_⟩) (by assumption) ?_
  rotate_left
  · intro w hSw; (try dsimp only at hSw); go_simp <;> first | with_reducible rfl | (rw [if_neg (by first | omega | (simp only [ByteArray.size_append] at *; omega))])
  simp only [Act.put, List.setIfInBounds_toArray, List.set_cons_zero, List.set_cons_succ]
  refine wpAnyH_take (i := 4) (oi := { dst := some 14, op := Go.Op.fieldAddr 38 (Go.Operand.tmp 3) 0, type := 0, pos := _, after := #[], guard := none }) (v := ?_) rfl (by kernel_rfl) (by kernel_rfl) (by kernel_rfl) (fun _ _ _ h => h) (Or.inl ⟨by rfl, ?_⟩) (by assumption) ?_
  rotate_left
  · intro w hSw; (try dsimp only at hSw); go_simp <;> first | with_reducible rfl | (rw [if_neg (by first | omega | (simp only [ByteArray.size_append] at *; omega))])
  simp only [Act.put, List.setIfInBounds_toArray, List.set_cons_zero, List.set_cons_succ]
  refine wpAnyH_take (i := 5) (oi := { dst := some 15, op := Go.Op.load 36 (Go.Operand.tmp 14), type := 36, pos := _, after := #[{ on := 4, ground := Go.Ground.data }], guard := none }) (v := ?_) rfl (by kernel_rfl) (by kernel_rfl) (by kernel_rfl) (fun _ _ _ h => h) (Or.inl ⟨by rfl, ?_⟩) (by assumption) ?_
  rotate_left
  · intro w hSw; (try dsimp only at hSw); go_simp <;> first | with_reducible rfl | (rw [if_neg (by first | omega | (simp only [ByteArray.size_append] at *; omega))])
  simp only [Act.put, List.setIfInBounds_toArray, List.set_cons_zero, List.set_cons_succ]
  refine wpAnyH_take (i := 6) (oi := { dst := some 16, op := Go.Op.lookup 58 (Go.Operand.tmp 13) (Go.Operand.tmp 15) true, type := 99, pos := _, after := #[{ on := 3, ground := Go.Ground.data }, { on := 5, ground := Go.Ground.data }], guard := none }) (v := ?_) rfl (by kernel_rfl) (by kernel_rfl) (by kernel_rfl) (fun _ _ _ h => h) (Or.inl ⟨by rfl, ?_⟩) (by assumption) ?_
  rotate_left
  · intro w hSw; (try dsimp only at hSw); go_simp <;> first | with_reducible rfl | (rw [if_neg (by first | omega | (simp only [ByteArray.size_append] at *; omega))])
  simp only [Act.put, List.setIfInBounds_toArray, List.set_cons_zero, List.set_cons_succ]
  refine wpAnyH_take (i := 7) (oi := { dst := some 9, op := Go.Op.move (Go.Operand.tmp 16), type := 99, pos := _, after := #[{ on := 6, ground := Go.Ground.data }], guard := none }) (v := ?_) rfl (by kernel_rfl) (by kernel_rfl) (by kernel_rfl) (fun _ _ _ h => h) (Or.inl ⟨by rfl, ?_⟩) (by assumption) ?_
  rotate_left
  · intro w hSw; (try dsimp only at hSw); go_simp <;> first | with_reducible rfl | (rw [if_neg (by first | omega | (simp only [ByteArray.size_append] at *; omega))])
  simp only [Act.put, List.setIfInBounds_toArray, List.set_cons_zero, List.set_cons_succ]
  refine wpAnyH_take (i := 8) (oi := { dst := some 17, op := Go.Op.extract (Go.Operand.tmp 9) 0, type := 97, pos := _, after := #[{ on := 7, ground := Go.Ground.data }], guard := none }) (v := ?_) rfl (by kernel_rfl) (by kernel_rfl) (by kernel_rfl) (fun _ _ _ h => h) (Or.inl ⟨by rfl, ?_⟩) (by assumption) ?_
  rotate_left
  · intro w hSw; (try dsimp only at hSw); go_simp <;> first | with_reducible rfl | (rw [if_neg (by first | omega | (simp only [ByteArray.size_append] at *; omega))])
  simp only [Act.put, List.setIfInBounds_toArray, List.set_cons_zero, List.set_cons_succ]
  refine wpAnyH_take (i := 9) (oi := { dst := some 18, op := Go.Op.extract (Go.Operand.tmp 9) 1, type := 4, pos := _, after := #[{ on := 7, ground := Go.Ground.data }, { on := 11, ground := Go.Ground.gcOnly Go.Departure.lateStores }], guard := none }) (v := ?_) rfl (by kernel_rfl) (by kernel_rfl) (by kernel_rfl) (fun _ _ _ h => h) (Or.inl ⟨by rfl, ?_⟩) (by assumption) ?_
  rotate_left
  · intro w hSw; (try dsimp only at hSw); go_simp <;> first | with_reducible rfl | (rw [if_neg (by first | omega | (simp only [ByteArray.size_append] at *; omega))])
  simp only [Act.put, List.setIfInBounds_toArray, List.set_cons_zero, List.set_cons_succ]
  refine wpAnyH_ready (rs := [10]) (by kernel_rfl) (by simp) ?_
  refine AllReadyH.cons (o := { dst := some 5, op := Go.Op.alloc 97, type := 0, pos := _, after := #[], guard := none }) rfl (fun K hK => ?_) AllReadyH.nil
  go_simp
  refine hK.out _ _ ?_ (fun hHeldB1 => ?_)
  · exact hS _ ((Below.refl _ _).drew.alloc (Nat.le_refl _) _)
  clear hK K
  refine wpAnyH_ready (rs := [11]) (by kernel_rfl) (by simp) ?_
  refine AllReadyH.cons (o := { dst := none, op := Go.Op.store 97 (Go.Operand.tmp 5) (Go.Operand.tmp 17), type := 0, pos := _, after := #[{ on := 10, ground := Go.Ground.data }, { on := 8, ground := Go.Ground.data }, { on := 0, ground := Go.Ground.phase }, { on := 1, ground := Go.Ground.phase }, { on := 2, ground := Go.Ground.phase }, { on := 3, ground := Go.Ground.phase }, { on := 4, ground := Go.Ground.phase }, { on := 5, ground := Go.Ground.phase }, { on := 6, ground := Go.Ground.phase }, { on := 7, ground := Go.Ground.phase }, { on := 8, ground := Go.Ground.phase }, { on := 9, ground := Go.Ground.textOnly Go.Departure.lateStores }, { on := 10, ground := Go.Ground.phase }], guard := none }) rfl (fun K hK => ?_) AllReadyH.nil
  go_simp
  refine hK.out _ _ ?_ (fun hHeldB2 => ?_)
  · exact hS _ ((Below.refl _ _).alloc (Nat.le_refl _) _).drew
  clear hK K
  refine wpAnyH_take (i := 12) (oi := { dst := some 6, op := Go.Op.assign (Go.Operand.tmp 18), type := 4, pos := _, after := #[{ on := 9, ground := Go.Ground.data }, { on := 11, ground := Go.Ground.chain }, { on := 0, ground := Go.Ground.phase }, { on := 1, ground := Go.Ground.phase }, { on := 2, ground := Go.Ground.phase }, { on := 3, ground := Go.Ground.phase }, { on := 4, ground := Go.Ground.phase }, { on := 5, ground := Go.Ground.phase }, { on := 6, ground := Go.Ground.phase }, { on := 7, ground := Go.Ground.phase }, { on := 8, ground := Go.Ground.phase }, { on := 9, ground := Go.Ground.phase }, { on := 10, ground := Go.Ground.phase }, { on := 11, ground := Go.Ground.phase }], guard := none }) (v := ?_) rfl (by kernel_rfl) (by kernel_rfl) (by kernel_rfl) (fun _ _ _ h => h) (Or.inl ⟨by rfl, ?_⟩) (by assumption) ?_
  rotate_left
  · intro w hSw; (try dsimp only at hSw); go_simp <;> first | with_reducible rfl | (rw [if_neg (by first | omega | (simp only [ByteArray.size_append] at *; omega))])
  simp only [Act.put, List.setIfInBounds_toArray, List.set_cons_zero, List.set_cons_succ]
  refine wpAnyH_done (by kernel_rfl) ?_ _
  have hb2 : Below V1.heap.size V1 (V1.alloc (.cells #[.int .i64 0, .int .i64 0, .nilFunc] 97)).drew := ((Below.refl _ _).alloc (Nat.le_refl _) _).drew
  generalize (V1.alloc (.cells #[.int .i64 0, .int .i64 0, .nilFunc] 97)).drew = V2 at *
  have S2 := hid (S1.out.keep hb2)
  have z0 := cell_kept x0 hb2
  have z1 := cell_kept x1 hb2
  have z2 := cell_kept x2 hb2
  have c42 := atom_ ps i w.heap.size pv V2 (hP.keep S2.out.below) S2.out.cells.1
  clear hHeld hHeldB1 hHeldB2 hS hb2 x0 x1 x2 y0 y1 y2 hal S1
  generalize atF ps i = T at *
  go_wp2_with (fail)
  refine c42.mono ?_
  rintro e w3 ⟨rfl, hb3⟩
  have S3 := hid (S2.out.keep hb3)
  have c41 := push_ w pv ob q qv T w3 S3.out hq
  clear hb3 z0 z1 z2 c42
  go_wp2_with (fail)
  refine c41.mono ?_
  rintro e w4 ⟨rfl, qv', S4⟩
  have H4 := hid S4
  clear S4 c41
  have HT : Hid (StpP w pv ob R (.returned (.bool (!(T == 0)))) w4) := hid (by
    rw [hV.out]
    split
    · rename_i h0
      rw [h0]
      exact ⟨rfl, H4.out.below⟩
    · rename_i h0
      rw [show (T == 0) = false from beq_eq_false_iff_ne.2 h0]
      exact ⟨rfl, _, H4.out⟩)
  go_wp2_with (fail)
  go_ret
  exact HT.out
end Go.Proofs.YtdenddknbmiboaaDoor.Lex
namespace Go.Proofs.YtdenddknbmiboaaDoor.Lex
open Go.ChangeShapes Go.WideShapes Go.ChangeAt Go.RowKit Go.Joins
set_option maxRecDepth 100000 in
set_option maxHeartbeats 16000000 in
/-- An operator. -/
theorem step_op (w : World) (pv : Value) (ps : List Plc) (ob : Nat) (q : List Nat) (qv : Value) (i : Cin) (W : World) (h : CkS w pv ob q qv W) (hO : Ops w ob) (hq : q.length ≤ 100000) (h1 : 4 ≤ i.op ∧ i.op ≤ 18) : Calls Tryd.prog 19 #[.pointer (some ⟨w.heap.size, 0, none⟩), insV i] W (StpP w pv ob (stepF ps i q)) := by
  have hal := (Below.refl W.heap.size W).alloc (Nat.le_refl _) (.cells #[.int .u8 (i.op : Int), .int .i64 i.n, .int .i64 i.ago] 38)
  obtain ⟨x, hxt, hxa, hX⟩ := hO.yesU h1
  have hV : Hid (stepF ps i q = if q.length < tkF i.op ∨ i.n ≠ 0 ∨ i.ago < 0 ∨ i.ago > agF i.op then none else if lvF i.op (q.drop (q.length - tkF i.op)) = 0 then none else some (q.take (q.length - tkF i.op) ++ [lvF i.op (q.drop (q.length - tkF i.op))])) := hid (by unfold stepF; rw [if_pos h1])
  rw [← hxa] at hV
  generalize stepF ps i q = R at *
  have htk : 1 ≤ tkF i.op ∧ tkF i.op ≤ 3 := by unfold tkF; split <;> (try split) <;> omega
  obtain ⟨tk, htk2⟩ : ∃ tk, tk = tkF i.op := ⟨_, rfl⟩
  rw [← htk2] at htk hxt hV
  obtain ⟨V1, hV1⟩ : ∃ V, V = W.alloc (.cells #[.int .u8 (i.op : Int), .int .i64 i.n, .int .i64 i.ago] 38) := ⟨_, rfl⟩
  have hb1 : V1.heap[W.heap.size]? = some (.cells #[.int .u8 (i.op : Int), .int .i64 i.n, .int .i64 i.ago] 38 (0, 0)) := by rw [hV1]; exact heap_alloc_new _ _
  rw [← hV1] at hal
  have S1 := hid (h.keep hal)
  have hs1 : V1.heap.size = W.heap.size + 1 := by rw [hV1]; simp
  obtain ⟨y0, y1, y2⟩ := S1.out.cells
  have x0 := (cell_of_row _ _ 0 _ 38 (0, 0) hb1).trans rfl
  have x1 := (cell_of_row _ _ 1 _ 38 (0, 0) hb1).trans rfl
  have x2 := (cell_of_row _ _ 2 _ 38 (0, 0) hb1).trans rfl
  have hS : ∀ V', Below V1.heap.size V1 V' → V'.cell? ⟨w.heap.size, 1, none⟩ = some (.map (some ob)) ∧ V'.cell? ⟨W.heap.size, 0, none⟩ = some (.int .u8 (i.op : Int)) ∧ (Instr.lookup 58 (.map (some ob)) (.int .u8 (i.op : Int)) true).run Tryd.prog V' = .ok (.tuple #[opV x, .bool true]) V' := fun V' hb => ⟨cell_kept y1 hb, cell_kept x0 hb, (hX V' (S1.out.below.trans (hb.mono S1.out.below.size))).1⟩
  have HX : Hid (∀ W', Below w.heap.size w W' → FnK W' i.op x) := hid (fun W' hb => (hX W' hb).2)
  have HT := hid htk2
  have HWW := hid h.below.size
  have HXT := hid hxt
  have HXA := hid hxa
  have HH1 := hid h1
  clear hb1 h htk2 hX hxa h1 hO
  obtain ⟨xt, xa, xf, xb⟩ := x
  dsimp only at hxt
  subst hxt
  go_enter Tryd.func19, Tryd.ntmps19
  go_wp2_with (first | (rw [← hV1]; clear hV1))
  refine wp_region_held_drew (S := fun V => V.cell? ⟨w.heap.size, 1, none⟩ = some (.map (some ob)) ∧ V.cell? ⟨W.heap.size, 0, none⟩ = some (.int .u8 (i.op : Int)) ∧ (Instr.lookup 58 (.map (some ob)) (.int .u8 (i.op : Int)) true).run Tryd.prog V = .ok (.tuple #[opV ⟨(tk : Int), xa, xf, xb⟩, .bool true]) V) (by kernel_rfl) ?_ (fun hHeld => ?_)
  · exact hS _ (Below.refl _ _).drew
  refine wpAnyH_take (i := 0) (oi := { dst := some 10, op := Go.Op.move (Go.Operand.tmp 0), type := 98, pos := _, after := #[], guard := none }) (v := ?_) rfl (by kernel_rfl) (by kernel_rfl) (by kernel_rfl) (fun _ _ _ h => h) (Or.inl ⟨by rfl, ?_⟩) (by assumption) ?_
  rotate_left
  · intro w hSw; (try dsimp only at hSw); go_simp <;> first | with_reducible rfl | (rw [if_neg (by first | omega | (simp only [ByteArray.size_append] at *; omega))])
  simp only [Act.put, List.setIfInBounds_toArray, List.set_cons_zero, List.set_cons_succ]
  refine wpAnyH_take (i := 1) (oi := { dst := some 11, op := Go.Op.nilCheck (Go.Operand.tmp 10), type := 0, pos := _, after := #[{ on := 0, ground := Go.Ground.data }], guard := none }) (v := ?_) rfl (by kernel_rfl) (by kernel_rfl) (by kernel_rfl) (fun _ _ _ h => h) (Or.inl ⟨by rfl, ?_⟩) (by assumption) ?_
  rotate_left
  · intro w hSw; (try dsimp only at hSw); go_simp <;> first | with_reducible rfl | (rw [if_neg (by first | omega | (simp only [ByteArray.size_append] at *; omega))])
  simp only [Act.put, List.setIfInBounds_toArray, List.set_cons_zero, List.set_cons_succ]
  refine wpAnyH_take (i := 2) (oi := { dst := some 12, op := Go.Op.fieldAddr 62 (Go.Operand.tmp 11) 1, type := 0, pos := _, after := #[{ on := 1, ground := Go.Ground.data }], guard := none }) (v := ?_) rfl (by kernel_rfl) (by kernel_rfl) (by kernel_rfl) (fun _ _ _ h => h) (Or.inl ⟨by rfl, ?_⟩) (by assumption) ?_
  rotate_left
  · intro w hSw; (try dsimp only at hSw); go_simp <;> first | with_reducible rfl | (rw [if_neg (by first | omega | (simp only [ByteArray.size_append] at *; omega))])
  simp only [Act.put, List.setIfInBounds_toArray, List.set_cons_zero, List.set_cons_succ]
  refine wpAnyH_take (i := 3) (oi := { dst := some 13, op := Go.Op.load 58 (Go.Operand.tmp 12), type := 58, pos := _, after := #[{ on := 2, ground := Go.Ground.data }], guard := none }) (v := ?_) rfl (by kernel_rfl) (by kernel_rfl) (by kernel_rfl) (fun _ _ _ h => h) (Or.inl ⟨by rfl, ?_⟩) (by assumption) ?_
  rotate_left
  · intro w hSw; (try dsimp only at hSw); go_simp <;> first | with_reducible rfl | (rw [if_neg (by first | omega | (simp only [ByteArray.size_append] at *; omega))])
  simp only [Act.put, List.setIfInBounds_toArray, List.set_cons_zero, List.set_cons_succ]
  refine wpAnyH_take (i := 4) (oi := { dst := some 14, op := Go.Op.fieldAddr 38 (Go.Operand.tmp 3) 0, type := 0, pos := _, after := #[], guard := none }) (v := ?_) rfl (by kernel_rfl) (by kernel_rfl) (by kernel_rfl) (fun _ _ _ h => h) (Or.inl ⟨by rfl, ?_⟩) (by assumption) ?_
  rotate_left
  · intro w hSw; (try dsimp only at hSw); go_simp <;> first | with_reducible rfl | (rw [if_neg (by first | omega | (simp only [ByteArray.size_append] at *; omega))])
  simp only [Act.put, List.setIfInBounds_toArray, List.set_cons_zero, List.set_cons_succ]
  refine wpAnyH_take (i := 5) (oi := { dst := some 15, op := Go.Op.load 36 (Go.Operand.tmp 14), type := 36, pos := _, after := #[{ on := 4, ground := Go.Ground.data }], guard := none }) (v := ?_) rfl (by kernel_rfl) (by kernel_rfl) (by kernel_rfl) (fun _ _ _ h => h) (Or.inl ⟨by rfl, ?_⟩) (by assumption) ?_
  rotate_left
  · intro w hSw; (try dsimp only at hSw); go_simp <;> first | with_reducible rfl | (rw [if_neg (by first | omega | (simp only [ByteArray.size_append] at *; omega))])
  simp only [Act.put, List.setIfInBounds_toArray, List.set_cons_zero, List.set_cons_succ]
  refine wpAnyH_take (i := 6) (oi := { dst := some 16, op := Go.Op.lookup 58 (Go.Operand.tmp 13) (Go.Operand.tmp 15) true, type := 99, pos := _, after := #[{ on := 3, ground := Go.Ground.data }, { on := 5, ground := Go.Ground.data }], guard := none }) (v := ?_) rfl (by kernel_rfl) (by kernel_rfl) (by kernel_rfl) (fun _ _ _ h => h) (Or.inl ⟨by rfl, ?_⟩) (by assumption) ?_
  rotate_left
  · intro w hSw; (try dsimp only at hSw); go_simp <;> first | with_reducible rfl | (rw [if_neg (by first | omega | (simp only [ByteArray.size_append] at *; omega))])
  simp only [Act.put, List.setIfInBounds_toArray, List.set_cons_zero, List.set_cons_succ]
  refine wpAnyH_take (i := 7) (oi := { dst := some 9, op := Go.Op.move (Go.Operand.tmp 16), type := 99, pos := _, after := #[{ on := 6, ground := Go.Ground.data }], guard := none }) (v := ?_) rfl (by kernel_rfl) (by kernel_rfl) (by kernel_rfl) (fun _ _ _ h => h) (Or.inl ⟨by rfl, ?_⟩) (by assumption) ?_
  rotate_left
  · intro w hSw; (try dsimp only at hSw); go_simp <;> first | with_reducible rfl | (rw [if_neg (by first | omega | (simp only [ByteArray.size_append] at *; omega))])
  simp only [Act.put, List.setIfInBounds_toArray, List.set_cons_zero, List.set_cons_succ]
  refine wpAnyH_take (i := 8) (oi := { dst := some 17, op := Go.Op.extract (Go.Operand.tmp 9) 0, type := 97, pos := _, after := #[{ on := 7, ground := Go.Ground.data }], guard := none }) (v := ?_) rfl (by kernel_rfl) (by kernel_rfl) (by kernel_rfl) (fun _ _ _ h => h) (Or.inl ⟨by rfl, ?_⟩) (by assumption) ?_
  rotate_left
  · intro w hSw; (try dsimp only at hSw); go_simp <;> first | with_reducible rfl | (rw [if_neg (by first | omega | (simp only [ByteArray.size_append] at *; omega))])
  simp only [Act.put, List.setIfInBounds_toArray, List.set_cons_zero, List.set_cons_succ]
  refine wpAnyH_take (i := 9) (oi := { dst := some 18, op := Go.Op.extract (Go.Operand.tmp 9) 1, type := 4, pos := _, after := #[{ on := 7, ground := Go.Ground.data }, { on := 11, ground := Go.Ground.gcOnly Go.Departure.lateStores }], guard := none }) (v := ?_) rfl (by kernel_rfl) (by kernel_rfl) (by kernel_rfl) (fun _ _ _ h => h) (Or.inl ⟨by rfl, ?_⟩) (by assumption) ?_
  rotate_left
  · intro w hSw; (try dsimp only at hSw); go_simp <;> first | with_reducible rfl | (rw [if_neg (by first | omega | (simp only [ByteArray.size_append] at *; omega))])
  simp only [Act.put, List.setIfInBounds_toArray, List.set_cons_zero, List.set_cons_succ]
  refine wpAnyH_ready (rs := [10]) (by kernel_rfl) (by simp) ?_
  refine AllReadyH.cons (o := { dst := some 5, op := Go.Op.alloc 97, type := 0, pos := _, after := #[], guard := none }) rfl (fun K hK => ?_) AllReadyH.nil
  go_simp
  refine hK.out _ _ ?_ (fun hHeldB1 => ?_)
  · exact hS _ ((Below.refl _ _).drew.alloc (Nat.le_refl _) _)
  clear hK K
  refine wpAnyH_ready (rs := [11]) (by kernel_rfl) (by simp) ?_
  refine AllReadyH.cons (o := { dst := none, op := Go.Op.store 97 (Go.Operand.tmp 5) (Go.Operand.tmp 17), type := 0, pos := _, after := #[{ on := 10, ground := Go.Ground.data }, { on := 8, ground := Go.Ground.data }, { on := 0, ground := Go.Ground.phase }, { on := 1, ground := Go.Ground.phase }, { on := 2, ground := Go.Ground.phase }, { on := 3, ground := Go.Ground.phase }, { on := 4, ground := Go.Ground.phase }, { on := 5, ground := Go.Ground.phase }, { on := 6, ground := Go.Ground.phase }, { on := 7, ground := Go.Ground.phase }, { on := 8, ground := Go.Ground.phase }, { on := 9, ground := Go.Ground.textOnly Go.Departure.lateStores }, { on := 10, ground := Go.Ground.phase }], guard := none }) rfl (fun K hK => ?_) AllReadyH.nil
  go_simp
  refine hK.out _ _ ?_ (fun hHeldB2 => ?_)
  · exact hS _ ((Below.refl _ _).alloc (Nat.le_refl _) _).drew
  clear hK K
  refine wpAnyH_take (i := 12) (oi := { dst := some 6, op := Go.Op.assign (Go.Operand.tmp 18), type := 4, pos := _, after := #[{ on := 9, ground := Go.Ground.data }, { on := 11, ground := Go.Ground.chain }, { on := 0, ground := Go.Ground.phase }, { on := 1, ground := Go.Ground.phase }, { on := 2, ground := Go.Ground.phase }, { on := 3, ground := Go.Ground.phase }, { on := 4, ground := Go.Ground.phase }, { on := 5, ground := Go.Ground.phase }, { on := 6, ground := Go.Ground.phase }, { on := 7, ground := Go.Ground.phase }, { on := 8, ground := Go.Ground.phase }, { on := 9, ground := Go.Ground.phase }, { on := 10, ground := Go.Ground.phase }, { on := 11, ground := Go.Ground.phase }], guard := none }) (v := ?_) rfl (by kernel_rfl) (by kernel_rfl) (by kernel_rfl) (fun _ _ _ h => h) (Or.inl ⟨by rfl, ?_⟩) (by assumption) ?_
  rotate_left
  · intro w hSw; (try dsimp only at hSw); go_simp <;> first | with_reducible rfl | (rw [if_neg (by first | omega | (simp only [ByteArray.size_append] at *; omega))])
  simp only [Act.put, List.setIfInBounds_toArray, List.set_cons_zero, List.set_cons_succ]
  refine wpAnyH_done (by kernel_rfl) ?_ _
  have hb2 : Below V1.heap.size V1 (V1.alloc (.cells #[.int .i64 (tk : Int), .int .i64 xa, .func (.func xf) #[] (capV xb)] 97)).drew := ((Below.refl _ _).alloc (Nat.le_refl _) _).drew
  have hr2 : (V1.alloc (.cells #[.int .i64 (tk : Int), .int .i64 xa, .func (.func xf) #[] (capV xb)] 97)).drew.heap[V1.heap.size]? = some (.cells #[.int .i64 (tk : Int), .int .i64 xa, .func (.func xf) #[] (capV xb)] 97 (0, 0)) := heap_alloc_new V1 _
  generalize (V1.alloc (.cells #[.int .i64 (tk : Int), .int .i64 xa, .func (.func xf) #[] (capV xb)] 97)).drew = V2 at *
  have S2 := hid (S1.out.keep hb2)
  have z0 := cell_kept x0 hb2
  have z1 := cell_kept x1 hb2
  have z2 := cell_kept x2 hb2
  have w0 := (cell_of_row _ _ 0 _ 97 (0, 0) hr2).trans rfl
  have w1 := (cell_of_row _ _ 1 _ 97 (0, 0) hr2).trans rfl
  have w2 := (cell_of_row _ _ 2 _ 97 (0, 0) hr2).trans rfl
  rw [hs1] at w0 w1 w2
  have HB2 := hid (Below.refl V2.heap.size V2)
  clear hHeld hHeldB1 hHeldB2 hS hb2 x0 x1 x2 y0 y1 y2 hal S1 hr2
  obtain ⟨qa, qc, rfl⟩ : ∃ a c, qv = .slice a q.length c := by
    rcases S2.out.pile.2 with ⟨h, h0⟩ | ⟨g, cap, cur, h, _⟩
    · exact ⟨none, 0, by rw [h, h0]⟩
    · exact ⟨_, _, h⟩
  have hpile := S2.out.pile
  have u2 := S2.out.cells.2.2
  by_cases c1 : q.length < tk
  · have HN : Hid (StpP w pv ob R (.returned (.bool false)) V2.drew) := hid (by
      rw [hV.out, if_pos (.inl c1)]
      exact ⟨rfl, S2.out.below.drew⟩)
    have c1' : (q.length : Int) < (tk : Int) := by omega
    have c1s : (q.length : Int) - (tk : Int) < 0 := by omega
    clear hpile
    go_wp2_with (fail)
    refine wp_region_held_drew (S := fun V => V.cell? ⟨w.heap.size, 2, none⟩ = some (.slice qa q.length qc) ∧ V.cell? ⟨W.heap.size + 1, 0, none⟩ = some (.int .i64 (tk : Int))) (by kernel_rfl) ?_ (fun hHeld => ?_)
    · exact ⟨u2, w0⟩
    refine wpAnyH_take (i := 0) (oi := { dst := some 26, op := Go.Op.move (Go.Operand.tmp 0), type := 98, pos := _, after := #[], guard := none }) (v := ?_) rfl (by kernel_rfl) (by kernel_rfl) (by kernel_rfl) (fun _ _ _ h => h) (Or.inl ⟨by rfl, ?_⟩) (by assumption) ?_
    rotate_left
    · intro w hSw; (try dsimp only at hSw); go_simp <;> first | with_reducible rfl | (rw [if_neg (by first | omega | (simp only [ByteArray.size_append] at *; omega))])
    simp only [Act.put, List.setIfInBounds_toArray, List.set_cons_zero, List.set_cons_succ]
    refine wpAnyH_take (i := 1) (oi := { dst := some 27, op := Go.Op.nilCheck (Go.Operand.tmp 26), type := 0, pos := _, after := #[{ on := 0, ground := Go.Ground.data }], guard := none }) (v := ?_) rfl (by kernel_rfl) (by kernel_rfl) (by kernel_rfl) (fun _ _ _ h => h) (Or.inl ⟨by rfl, ?_⟩) (by assumption) ?_
    rotate_left
    · intro w hSw; (try dsimp only at hSw); go_simp <;> first | with_reducible rfl | (rw [if_neg (by first | omega | (simp only [ByteArray.size_append] at *; omega))])
    simp only [Act.put, List.setIfInBounds_toArray, List.set_cons_zero, List.set_cons_succ]
    refine wpAnyH_take (i := 2) (oi := { dst := some 28, op := Go.Op.fieldAddr 62 (Go.Operand.tmp 27) 2, type := 0, pos := _, after := #[{ on := 1, ground := Go.Ground.data }], guard := none }) (v := ?_) rfl (by kernel_rfl) (by kernel_rfl) (by kernel_rfl) (fun _ _ _ h => h) (Or.inl ⟨by rfl, ?_⟩) (by assumption) ?_
    rotate_left
    · intro w hSw; (try dsimp only at hSw); go_simp <;> first | with_reducible rfl | (rw [if_neg (by first | omega | (simp only [ByteArray.size_append] at *; omega))])
    simp only [Act.put, List.setIfInBounds_toArray, List.set_cons_zero, List.set_cons_succ]
    refine wpAnyH_take (i := 3) (oi := { dst := some 29, op := Go.Op.load 60 (Go.Operand.tmp 28), type := 60, pos := _, after := #[{ on := 2, ground := Go.Ground.data }], guard := none }) (v := ?_) rfl (by kernel_rfl) (by kernel_rfl) (by kernel_rfl) (fun _ _ _ h => h) (Or.inl ⟨by rfl, ?_⟩) (by assumption) ?_
    rotate_left
    · intro w hSw; (try dsimp only at hSw); go_simp <;> first | with_reducible rfl | (rw [if_neg (by first | omega | (simp only [ByteArray.size_append] at *; omega))])
    simp only [Act.put, List.setIfInBounds_toArray, List.set_cons_zero, List.set_cons_succ]
    refine wpAnyH_take (i := 4) (oi := { dst := some 30, op := Go.Op.call { callee := Go.Callee.builtin Go.Builtin.len, args := #[Go.Operand.tmp 29], argTypes := #[60] }, type := 3, pos := _, after := #[{ on := 3, ground := Go.Ground.data }], guard := none }) (v := ?_) rfl (by kernel_rfl) (by kernel_rfl) (by kernel_rfl) (fun _ _ _ h => h) (Or.inl ⟨by rfl, ?_⟩) (by assumption) ?_
    rotate_left
    · intro w hSw; (try dsimp only at hSw); go_simp <;> first | with_reducible rfl | (rw [if_neg (by first | omega | (simp only [ByteArray.size_append] at *; omega))])
    simp only [Act.put, List.setIfInBounds_toArray, List.set_cons_zero, List.set_cons_succ]
    refine wpAnyH_take (i := 5) (oi := { dst := some 31, op := Go.Op.fieldAddr 97 (Go.Operand.tmp 5) 0, type := 0, pos := _, after := #[], guard := none }) (v := ?_) rfl (by kernel_rfl) (by kernel_rfl) (by kernel_rfl) (fun _ _ _ h => h) (Or.inl ⟨by rfl, ?_⟩) (by assumption) ?_
    rotate_left
    · intro w hSw; (try dsimp only at hSw); go_simp <;> first | with_reducible rfl | (rw [if_neg (by first | omega | (simp only [ByteArray.size_append] at *; omega))])
    simp only [Act.put, List.setIfInBounds_toArray, List.set_cons_zero, List.set_cons_succ]
    refine wpAnyH_take (i := 6) (oi := { dst := some 32, op := Go.Op.load 3 (Go.Operand.tmp 31), type := 3, pos := _, after := #[{ on := 5, ground := Go.Ground.data }], guard := none }) (v := ?_) rfl (by kernel_rfl) (by kernel_rfl) (by kernel_rfl) (fun _ _ _ h => h) (Or.inl ⟨by rfl, ?_⟩) (by assumption) ?_
    rotate_left
    · intro w hSw; (try dsimp only at hSw); go_simp <;> first | with_reducible rfl | (rw [if_neg (by first | omega | (simp only [ByteArray.size_append] at *; omega))])
    simp only [Act.put, List.setIfInBounds_toArray, List.set_cons_zero, List.set_cons_succ]
    refine wpAnyH_take (i := 7) (oi := { dst := some 33, op := Go.Op.binOp Go.BinOp.sub 3 (Go.Operand.tmp 30) (Go.Operand.tmp 32) 3, type := 3, pos := _, after := #[{ on := 4, ground := Go.Ground.data }, { on := 6, ground := Go.Ground.data }], guard := none }) (v := ?_) rfl (by kernel_rfl) (by kernel_rfl) (by kernel_rfl) (fun _ _ _ h => h) (Or.inl ⟨by rfl, ?_⟩) (by assumption) ?_
    rotate_left
    · intro w hSw; (try dsimp only at hSw); go_simp <;> first | with_reducible rfl | (rw [if_neg (by first | omega | (simp only [ByteArray.size_append] at *; omega))])
    simp only [Act.put, List.setIfInBounds_toArray, List.set_cons_zero, List.set_cons_succ]
    refine wpAnyH_take (i := 8) (oi := { dst := some 7, op := Go.Op.assign (Go.Operand.tmp 33), type := 3, pos := _, after := #[{ on := 7, ground := Go.Ground.data }, { on := 0, ground := Go.Ground.phase }, { on := 1, ground := Go.Ground.phase }, { on := 2, ground := Go.Ground.phase }, { on := 3, ground := Go.Ground.phase }, { on := 4, ground := Go.Ground.phase }, { on := 5, ground := Go.Ground.phase }, { on := 6, ground := Go.Ground.phase }, { on := 7, ground := Go.Ground.phase }], guard := none }) (v := ?_) rfl (by kernel_rfl) (by kernel_rfl) (by kernel_rfl) (fun _ _ _ h => h) (Or.inl ⟨by rfl, ?_⟩) (by assumption) ?_
    rotate_left
    · intro w hSw; (try dsimp only at hSw); go_simp <;> first | with_reducible rfl | (rw [if_neg (by first | omega | (simp only [ByteArray.size_append] at *; omega))])
    simp only [Act.put, List.setIfInBounds_toArray, List.set_cons_zero, List.set_cons_succ]
    refine wpAnyH_done (by kernel_rfl) ?_ _
    go_wp2_with (fail)
    go_ret
    exact HN.out
  · obtain ⟨m, hm⟩ : ∃ m, q.length = m + tk := ⟨q.length - tk, by omega⟩
    have hsub : (q.length : Int) - (tk : Int) = (m : Int) := by omega
    have hm0 : ¬ (m : Int) < 0 := by omega
    have hmh : m ≤ 100000 := by omega
    by_cases c2 : i.n = 0
    · by_cases c3 : i.ago < 0
      · have HN : Hid (StpP w pv ob R (.returned (.bool false)) V2.drew) := hid (by
          rw [hV.out, if_pos (.inr (.inr (.inl c3)))]
          exact ⟨rfl, S2.out.below.drew⟩)
        have n0 : (i.n != 0) = false := by rw [c2]; rfl
        clear hpile c2 hm
        go_wp2_with (fail)
        refine wp_region_held_drew (S := fun V => V.cell? ⟨w.heap.size, 2, none⟩ = some (.slice qa q.length qc) ∧ V.cell? ⟨W.heap.size + 1, 0, none⟩ = some (.int .i64 (tk : Int))) (by kernel_rfl) ?_ (fun hHeld => ?_)
        · exact ⟨u2, w0⟩
        refine wpAnyH_take (i := 0) (oi := { dst := some 26, op := Go.Op.move (Go.Operand.tmp 0), type := 98, pos := _, after := #[], guard := none }) (v := ?_) rfl (by kernel_rfl) (by kernel_rfl) (by kernel_rfl) (fun _ _ _ h => h) (Or.inl ⟨by rfl, ?_⟩) (by assumption) ?_
        rotate_left
        · intro w hSw; (try dsimp only at hSw); go_simp <;> first | with_reducible rfl | (rw [if_neg (by first | omega | (simp only [ByteArray.size_append] at *; omega))])
        simp only [Act.put, List.setIfInBounds_toArray, List.set_cons_zero, List.set_cons_succ]
        refine wpAnyH_take (i := 1) (oi := { dst := some 27, op := Go.Op.nilCheck (Go.Operand.tmp 26), type := 0, pos := _, after := #[{ on := 0, ground := Go.Ground.data }], guard := none }) (v := ?_) rfl (by kernel_rfl) (by kernel_rfl) (by kernel_rfl) (fun _ _ _ h => h) (Or.inl ⟨by rfl, ?_⟩) (by assumption) ?_
        rotate_left
        · intro w hSw; (try dsimp only at hSw); go_simp <;> first | with_reducible rfl | (rw [if_neg (by first | omega | (simp only [ByteArray.size_append] at *; omega))])
        simp only [Act.put, List.setIfInBounds_toArray, List.set_cons_zero, List.set_cons_succ]
        refine wpAnyH_take (i := 2) (oi := { dst := some 28, op := Go.Op.fieldAddr 62 (Go.Operand.tmp 27) 2, type := 0, pos := _, after := #[{ on := 1, ground := Go.Ground.data }], guard := none }) (v := ?_) rfl (by kernel_rfl) (by kernel_rfl) (by kernel_rfl) (fun _ _ _ h => h) (Or.inl ⟨by rfl, ?_⟩) (by assumption) ?_
        rotate_left
        · intro w hSw; (try dsimp only at hSw); go_simp <;> first | with_reducible rfl | (rw [if_neg (by first | omega | (simp only [ByteArray.size_append] at *; omega))])
        simp only [Act.put, List.setIfInBounds_toArray, List.set_cons_zero, List.set_cons_succ]
        refine wpAnyH_take (i := 3) (oi := { dst := some 29, op := Go.Op.load 60 (Go.Operand.tmp 28), type := 60, pos := _, after := #[{ on := 2, ground := Go.Ground.data }], guard := none }) (v := ?_) rfl (by kernel_rfl) (by kernel_rfl) (by kernel_rfl) (fun _ _ _ h => h) (Or.inl ⟨by rfl, ?_⟩) (by assumption) ?_
        rotate_left
        · intro w hSw; (try dsimp only at hSw); go_simp <;> first | with_reducible rfl | (rw [if_neg (by first | omega | (simp only [ByteArray.size_append] at *; omega))])
        simp only [Act.put, List.setIfInBounds_toArray, List.set_cons_zero, List.set_cons_succ]
        refine wpAnyH_take (i := 4) (oi := { dst := some 30, op := Go.Op.call { callee := Go.Callee.builtin Go.Builtin.len, args := #[Go.Operand.tmp 29], argTypes := #[60] }, type := 3, pos := _, after := #[{ on := 3, ground := Go.Ground.data }], guard := none }) (v := ?_) rfl (by kernel_rfl) (by kernel_rfl) (by kernel_rfl) (fun _ _ _ h => h) (Or.inl ⟨by rfl, ?_⟩) (by assumption) ?_
        rotate_left
        · intro w hSw; (try dsimp only at hSw); go_simp <;> first | with_reducible rfl | (rw [if_neg (by first | omega | (simp only [ByteArray.size_append] at *; omega))])
        simp only [Act.put, List.setIfInBounds_toArray, List.set_cons_zero, List.set_cons_succ]
        refine wpAnyH_take (i := 5) (oi := { dst := some 31, op := Go.Op.fieldAddr 97 (Go.Operand.tmp 5) 0, type := 0, pos := _, after := #[], guard := none }) (v := ?_) rfl (by kernel_rfl) (by kernel_rfl) (by kernel_rfl) (fun _ _ _ h => h) (Or.inl ⟨by rfl, ?_⟩) (by assumption) ?_
        rotate_left
        · intro w hSw; (try dsimp only at hSw); go_simp <;> first | with_reducible rfl | (rw [if_neg (by first | omega | (simp only [ByteArray.size_append] at *; omega))])
        simp only [Act.put, List.setIfInBounds_toArray, List.set_cons_zero, List.set_cons_succ]
        refine wpAnyH_take (i := 6) (oi := { dst := some 32, op := Go.Op.load 3 (Go.Operand.tmp 31), type := 3, pos := _, after := #[{ on := 5, ground := Go.Ground.data }], guard := none }) (v := ?_) rfl (by kernel_rfl) (by kernel_rfl) (by kernel_rfl) (fun _ _ _ h => h) (Or.inl ⟨by rfl, ?_⟩) (by assumption) ?_
        rotate_left
        · intro w hSw; (try dsimp only at hSw); go_simp <;> first | with_reducible rfl | (rw [if_neg (by first | omega | (simp only [ByteArray.size_append] at *; omega))])
        simp only [Act.put, List.setIfInBounds_toArray, List.set_cons_zero, List.set_cons_succ]
        refine wpAnyH_take (i := 7) (oi := { dst := some 33, op := Go.Op.binOp Go.BinOp.sub 3 (Go.Operand.tmp 30) (Go.Operand.tmp 32) 3, type := 3, pos := _, after := #[{ on := 4, ground := Go.Ground.data }, { on := 6, ground := Go.Ground.data }], guard := none }) (v := ?_) rfl (by kernel_rfl) (by kernel_rfl) (by kernel_rfl) (fun _ _ _ h => h) (Or.inl ⟨by rfl, ?_⟩) (by assumption) ?_
        rotate_left
        · intro w hSw; (try dsimp only at hSw); go_simp <;> first | with_reducible rfl | (rw [if_neg (by first | omega | (simp only [ByteArray.size_append] at *; omega))])
        simp only [Act.put, List.setIfInBounds_toArray, List.set_cons_zero, List.set_cons_succ]
        refine wpAnyH_take (i := 8) (oi := { dst := some 7, op := Go.Op.assign (Go.Operand.tmp 33), type := 3, pos := _, after := #[{ on := 7, ground := Go.Ground.data }, { on := 0, ground := Go.Ground.phase }, { on := 1, ground := Go.Ground.phase }, { on := 2, ground := Go.Ground.phase }, { on := 3, ground := Go.Ground.phase }, { on := 4, ground := Go.Ground.phase }, { on := 5, ground := Go.Ground.phase }, { on := 6, ground := Go.Ground.phase }, { on := 7, ground := Go.Ground.phase }], guard := none }) (v := ?_) rfl (by kernel_rfl) (by kernel_rfl) (by kernel_rfl) (fun _ _ _ h => h) (Or.inl ⟨by rfl, ?_⟩) (by assumption) ?_
        rotate_left
        · intro w hSw; (try dsimp only at hSw); go_simp <;> first | with_reducible rfl | (rw [if_neg (by first | omega | (simp only [ByteArray.size_append] at *; omega))])
        simp only [Act.put, List.setIfInBounds_toArray, List.set_cons_zero, List.set_cons_succ]
        refine wpAnyH_done (by kernel_rfl) ?_ _
        go_wp2_with (fail)
        go_ret
        exact HN.out
      · by_cases c4 : xa < i.ago
        · have HN : Hid (StpP w pv ob R (.returned (.bool false)) V2.drew) := hid (by
            rw [hV.out, if_pos (.inr (.inr (.inr c4)))]
            exact ⟨rfl, S2.out.below.drew⟩)
          have n0 : (i.n != 0) = false := by rw [c2]; rfl
          clear hpile c2 hm
          go_wp2_with (fail)
          refine wp_region_held_drew (S := fun V => V.cell? ⟨w.heap.size, 2, none⟩ = some (.slice qa q.length qc) ∧ V.cell? ⟨W.heap.size + 1, 0, none⟩ = some (.int .i64 (tk : Int))) (by kernel_rfl) ?_ (fun hHeld => ?_)
          · exact ⟨u2, w0⟩
          refine wpAnyH_take (i := 0) (oi := { dst := some 26, op := Go.Op.move (Go.Operand.tmp 0), type := 98, pos := _, after := #[], guard := none }) (v := ?_) rfl (by kernel_rfl) (by kernel_rfl) (by kernel_rfl) (fun _ _ _ h => h) (Or.inl ⟨by rfl, ?_⟩) (by assumption) ?_
          rotate_left
          · intro w hSw; (try dsimp only at hSw); go_simp <;> first | with_reducible rfl | (rw [if_neg (by first | omega | (simp only [ByteArray.size_append] at *; omega))])
          simp only [Act.put, List.setIfInBounds_toArray, List.set_cons_zero, List.set_cons_succ]
          refine wpAnyH_take (i := 1) (oi := { dst := some 27, op := Go.Op.nilCheck (Go.Operand.tmp 26), type := 0, pos := _, after := #[{ on := 0, ground := Go.Ground.data }], guard := none }) (v := ?_) rfl (by kernel_rfl) (by kernel_rfl) (by kernel_rfl) (fun _ _ _ h => h) (Or.inl ⟨by rfl, ?_⟩) (by assumption) ?_
          rotate_left
          · intro w hSw; (try dsimp only at hSw); go_simp <;> first | with_reducible rfl | (rw [if_neg (by first | omega | (simp only [ByteArray.size_append] at *; omega))])
          simp only [Act.put, List.setIfInBounds_toArray, List.set_cons_zero, List.set_cons_succ]
          refine wpAnyH_take (i := 2) (oi := { dst := some 28, op := Go.Op.fieldAddr 62 (Go.Operand.tmp 27) 2, type := 0, pos := _, after := #[{ on := 1, ground := Go.Ground.data }], guard := none }) (v := ?_) rfl (by kernel_rfl) (by kernel_rfl) (by kernel_rfl) (fun _ _ _ h => h) (Or.inl ⟨by rfl, ?_⟩) (by assumption) ?_
          rotate_left
          · intro w hSw; (try dsimp only at hSw); go_simp <;> first | with_reducible rfl | (rw [if_neg (by first | omega | (simp only [ByteArray.size_append] at *; omega))])
          simp only [Act.put, List.setIfInBounds_toArray, List.set_cons_zero, List.set_cons_succ]
          refine wpAnyH_take (i := 3) (oi := { dst := some 29, op := Go.Op.load 60 (Go.Operand.tmp 28), type := 60, pos := _, after := #[{ on := 2, ground := Go.Ground.data }], guard := none }) (v := ?_) rfl (by kernel_rfl) (by kernel_rfl) (by kernel_rfl) (fun _ _ _ h => h) (Or.inl ⟨by rfl, ?_⟩) (by assumption) ?_
          rotate_left
          · intro w hSw; (try dsimp only at hSw); go_simp <;> first | with_reducible rfl | (rw [if_neg (by first | omega | (simp only [ByteArray.size_append] at *; omega))])
          simp only [Act.put, List.setIfInBounds_toArray, List.set_cons_zero, List.set_cons_succ]
          refine wpAnyH_take (i := 4) (oi := { dst := some 30, op := Go.Op.call { callee := Go.Callee.builtin Go.Builtin.len, args := #[Go.Operand.tmp 29], argTypes := #[60] }, type := 3, pos := _, after := #[{ on := 3, ground := Go.Ground.data }], guard := none }) (v := ?_) rfl (by kernel_rfl) (by kernel_rfl) (by kernel_rfl) (fun _ _ _ h => h) (Or.inl ⟨by rfl, ?_⟩) (by assumption) ?_
          rotate_left
          · intro w hSw; (try dsimp only at hSw); go_simp <;> first | with_reducible rfl | (rw [if_neg (by first | omega | (simp only [ByteArray.size_append] at *; omega))])
          simp only [Act.put, List.setIfInBounds_toArray, List.set_cons_zero, List.set_cons_succ]
          refine wpAnyH_take (i := 5) (oi := { dst := some 31, op := Go.Op.fieldAddr 97 (Go.Operand.tmp 5) 0, type := 0, pos := _, after := #[], guard := none }) (v := ?_) rfl (by kernel_rfl) (by kernel_rfl) (by kernel_rfl) (fun _ _ _ h => h) (Or.inl ⟨by rfl, ?_⟩) (by assumption) ?_
          rotate_left
          · intro w hSw; (try dsimp only at hSw); go_simp <;> first | with_reducible rfl | (rw [if_neg (by first | omega | (simp only [ByteArray.size_append] at *; omega))])
          simp only [Act.put, List.setIfInBounds_toArray, List.set_cons_zero, List.set_cons_succ]
          refine wpAnyH_take (i := 6) (oi := { dst := some 32, op := Go.Op.load 3 (Go.Operand.tmp 31), type := 3, pos := _, after := #[{ on := 5, ground := Go.Ground.data }], guard := none }) (v := ?_) rfl (by kernel_rfl) (by kernel_rfl) (by kernel_rfl) (fun _ _ _ h => h) (Or.inl ⟨by rfl, ?_⟩) (by assumption) ?_
          rotate_left
          · intro w hSw; (try dsimp only at hSw); go_simp <;> first | with_reducible rfl | (rw [if_neg (by first | omega | (simp only [ByteArray.size_append] at *; omega))])
          simp only [Act.put, List.setIfInBounds_toArray, List.set_cons_zero, List.set_cons_succ]
          refine wpAnyH_take (i := 7) (oi := { dst := some 33, op := Go.Op.binOp Go.BinOp.sub 3 (Go.Operand.tmp 30) (Go.Operand.tmp 32) 3, type := 3, pos := _, after := #[{ on := 4, ground := Go.Ground.data }, { on := 6, ground := Go.Ground.data }], guard := none }) (v := ?_) rfl (by kernel_rfl) (by kernel_rfl) (by kernel_rfl) (fun _ _ _ h => h) (Or.inl ⟨by rfl, ?_⟩) (by assumption) ?_
          rotate_left
          · intro w hSw; (try dsimp only at hSw); go_simp <;> first | with_reducible rfl | (rw [if_neg (by first | omega | (simp only [ByteArray.size_append] at *; omega))])
          simp only [Act.put, List.setIfInBounds_toArray, List.set_cons_zero, List.set_cons_succ]
          refine wpAnyH_take (i := 8) (oi := { dst := some 7, op := Go.Op.assign (Go.Operand.tmp 33), type := 3, pos := _, after := #[{ on := 7, ground := Go.Ground.data }, { on := 0, ground := Go.Ground.phase }, { on := 1, ground := Go.Ground.phase }, { on := 2, ground := Go.Ground.phase }, { on := 3, ground := Go.Ground.phase }, { on := 4, ground := Go.Ground.phase }, { on := 5, ground := Go.Ground.phase }, { on := 6, ground := Go.Ground.phase }, { on := 7, ground := Go.Ground.phase }], guard := none }) (v := ?_) rfl (by kernel_rfl) (by kernel_rfl) (by kernel_rfl) (fun _ _ _ h => h) (Or.inl ⟨by rfl, ?_⟩) (by assumption) ?_
          rotate_left
          · intro w hSw; (try dsimp only at hSw); go_simp <;> first | with_reducible rfl | (rw [if_neg (by first | omega | (simp only [ByteArray.size_append] at *; omega))])
          simp only [Act.put, List.setIfInBounds_toArray, List.set_cons_zero, List.set_cons_succ]
          refine wpAnyH_done (by kernel_rfl) ?_ _
          go_wp2_with (fail)
          go_ret
          exact HN.out
        · have HN : Hid (R = if lvF i.op (q.drop m) = 0 then none else some (q.take m ++ [lvF i.op (q.drop m)])) := hid (by
            rw [hV.out, if_neg (by omega), show q.length - tk = m by omega])
          have n0 : (i.n != 0) = false := by rw [c2]; rfl
          obtain ⟨g, c, he, hqc, hg, hgl, hty⟩ := hpile.some (by omega)
          injection he with e1 _ e3
          subst e1 e3
          have HTY := hid (hty.drop m)
          have HPT := hid (hpile.take m (by omega))
          have HDL : Hid ((q.drop m).length = tk) := hid (by rw [List.length_drop]; omega)
          have HM := hid hm
          have hws := S2.out.below.size
          have hwW : w.heap.size ≤ W.heap.size := HWW.out
          have hne1 : ¬ W.heap.size + 1 = w.heap.size := by omega
          have hne2 : ¬ w.heap.size = W.heap.size + 1 := by omega
          have f2 : V2.frozen? ⟨w.heap.size, 2, none⟩ = false := frozen_of_row _ _ _ _ _ S2.out.box
          have hs2 : q.length - m = tk := by omega
          have hmq : (m : Int) ≤ (q.length : Int) := by omega
          have hmc : (m : Int) ≤ (qc : Int) := by omega
          have hqcc : (q.length : Int) ≤ (qc : Int) := by omega
          clear hpile c2 hm hty
          go_wp2_with (fail)
          refine wp_region_held_drew (S := fun V => V.cell? ⟨w.heap.size, 2, none⟩ = some (.slice (some ⟨g, 0, none⟩) q.length qc) ∧ V.cell? ⟨W.heap.size + 1, 0, none⟩ = some (.int .i64 (tk : Int))) (by kernel_rfl) ?_ (fun hHeld => ?_)
          · exact ⟨u2, w0⟩
          refine wpAnyH_take (i := 0) (oi := { dst := some 26, op := Go.Op.move (Go.Operand.tmp 0), type := 98, pos := _, after := #[], guard := none }) (v := ?_) rfl (by kernel_rfl) (by kernel_rfl) (by kernel_rfl) (fun _ _ _ h => h) (Or.inl ⟨by rfl, ?_⟩) (by assumption) ?_
          rotate_left
          · intro w hSw; (try dsimp only at hSw); go_simp <;> first | with_reducible rfl | (rw [if_neg (by first | omega | (simp only [ByteArray.size_append] at *; omega))])
          simp only [Act.put, List.setIfInBounds_toArray, List.set_cons_zero, List.set_cons_succ]
          refine wpAnyH_take (i := 1) (oi := { dst := some 27, op := Go.Op.nilCheck (Go.Operand.tmp 26), type := 0, pos := _, after := #[{ on := 0, ground := Go.Ground.data }], guard := none }) (v := ?_) rfl (by kernel_rfl) (by kernel_rfl) (by kernel_rfl) (fun _ _ _ h => h) (Or.inl ⟨by rfl, ?_⟩) (by assumption) ?_
          rotate_left
          · intro w hSw; (try dsimp only at hSw); go_simp <;> first | with_reducible rfl | (rw [if_neg (by first | omega | (simp only [ByteArray.size_append] at *; omega))])
          simp only [Act.put, List.setIfInBounds_toArray, List.set_cons_zero, List.set_cons_succ]
          refine wpAnyH_take (i := 2) (oi := { dst := some 28, op := Go.Op.fieldAddr 62 (Go.Operand.tmp 27) 2, type := 0, pos := _, after := #[{ on := 1, ground := Go.Ground.data }], guard := none }) (v := ?_) rfl (by kernel_rfl) (by kernel_rfl) (by kernel_rfl) (fun _ _ _ h => h) (Or.inl ⟨by rfl, ?_⟩) (by assumption) ?_
          rotate_left
          · intro w hSw; (try dsimp only at hSw); go_simp <;> first | with_reducible rfl | (rw [if_neg (by first | omega | (simp only [ByteArray.size_append] at *; omega))])
          simp only [Act.put, List.setIfInBounds_toArray, List.set_cons_zero, List.set_cons_succ]
          refine wpAnyH_take (i := 3) (oi := { dst := some 29, op := Go.Op.load 60 (Go.Operand.tmp 28), type := 60, pos := _, after := #[{ on := 2, ground := Go.Ground.data }], guard := none }) (v := ?_) rfl (by kernel_rfl) (by kernel_rfl) (by kernel_rfl) (fun _ _ _ h => h) (Or.inl ⟨by rfl, ?_⟩) (by assumption) ?_
          rotate_left
          · intro w hSw; (try dsimp only at hSw); go_simp <;> first | with_reducible rfl | (rw [if_neg (by first | omega | (simp only [ByteArray.size_append] at *; omega))])
          simp only [Act.put, List.setIfInBounds_toArray, List.set_cons_zero, List.set_cons_succ]
          refine wpAnyH_take (i := 4) (oi := { dst := some 30, op := Go.Op.call { callee := Go.Callee.builtin Go.Builtin.len, args := #[Go.Operand.tmp 29], argTypes := #[60] }, type := 3, pos := _, after := #[{ on := 3, ground := Go.Ground.data }], guard := none }) (v := ?_) rfl (by kernel_rfl) (by kernel_rfl) (by kernel_rfl) (fun _ _ _ h => h) (Or.inl ⟨by rfl, ?_⟩) (by assumption) ?_
          rotate_left
          · intro w hSw; (try dsimp only at hSw); go_simp <;> first | with_reducible rfl | (rw [if_neg (by first | omega | (simp only [ByteArray.size_append] at *; omega))])
          simp only [Act.put, List.setIfInBounds_toArray, List.set_cons_zero, List.set_cons_succ]
          refine wpAnyH_take (i := 5) (oi := { dst := some 31, op := Go.Op.fieldAddr 97 (Go.Operand.tmp 5) 0, type := 0, pos := _, after := #[], guard := none }) (v := ?_) rfl (by kernel_rfl) (by kernel_rfl) (by kernel_rfl) (fun _ _ _ h => h) (Or.inl ⟨by rfl, ?_⟩) (by assumption) ?_
          rotate_left
          · intro w hSw; (try dsimp only at hSw); go_simp <;> first | with_reducible rfl | (rw [if_neg (by first | omega | (simp only [ByteArray.size_append] at *; omega))])
          simp only [Act.put, List.setIfInBounds_toArray, List.set_cons_zero, List.set_cons_succ]
          refine wpAnyH_take (i := 6) (oi := { dst := some 32, op := Go.Op.load 3 (Go.Operand.tmp 31), type := 3, pos := _, after := #[{ on := 5, ground := Go.Ground.data }], guard := none }) (v := ?_) rfl (by kernel_rfl) (by kernel_rfl) (by kernel_rfl) (fun _ _ _ h => h) (Or.inl ⟨by rfl, ?_⟩) (by assumption) ?_
          rotate_left
          · intro w hSw; (try dsimp only at hSw); go_simp <;> first | with_reducible rfl | (rw [if_neg (by first | omega | (simp only [ByteArray.size_append] at *; omega))])
          simp only [Act.put, List.setIfInBounds_toArray, List.set_cons_zero, List.set_cons_succ]
          refine wpAnyH_take (i := 7) (oi := { dst := some 33, op := Go.Op.binOp Go.BinOp.sub 3 (Go.Operand.tmp 30) (Go.Operand.tmp 32) 3, type := 3, pos := _, after := #[{ on := 4, ground := Go.Ground.data }, { on := 6, ground := Go.Ground.data }], guard := none }) (v := ?_) rfl (by kernel_rfl) (by kernel_rfl) (by kernel_rfl) (fun _ _ _ h => h) (Or.inl ⟨by rfl, ?_⟩) (by assumption) ?_
          rotate_left
          · intro w hSw; (try dsimp only at hSw); go_simp <;> first | with_reducible rfl | (rw [if_neg (by first | omega | (simp only [ByteArray.size_append] at *; omega))])
          simp only [Act.put, List.setIfInBounds_toArray, List.set_cons_zero, List.set_cons_succ]
          refine wpAnyH_take (i := 8) (oi := { dst := some 7, op := Go.Op.assign (Go.Operand.tmp 33), type := 3, pos := _, after := #[{ on := 7, ground := Go.Ground.data }, { on := 0, ground := Go.Ground.phase }, { on := 1, ground := Go.Ground.phase }, { on := 2, ground := Go.Ground.phase }, { on := 3, ground := Go.Ground.phase }, { on := 4, ground := Go.Ground.phase }, { on := 5, ground := Go.Ground.phase }, { on := 6, ground := Go.Ground.phase }, { on := 7, ground := Go.Ground.phase }], guard := none }) (v := ?_) rfl (by kernel_rfl) (by kernel_rfl) (by kernel_rfl) (fun _ _ _ h => h) (Or.inl ⟨by rfl, ?_⟩) (by assumption) ?_
          rotate_left
          · intro w hSw; (try dsimp only at hSw); go_simp <;> first | with_reducible rfl | (rw [if_neg (by first | omega | (simp only [ByteArray.size_append] at *; omega))])
          simp only [Act.put, List.setIfInBounds_toArray, List.set_cons_zero, List.set_cons_succ]
          refine wpAnyH_done (by kernel_rfl) ?_ _
          go_wp2_with (fail)
          have u3 : V2.drew.cell? ⟨w.heap.size, 2, none⟩ = some (.slice (some ⟨g, 0, none⟩) q.length qc) := u2
          refine wp_region_held_drew (S := fun V => V.cell? ⟨w.heap.size, 2, none⟩ = some (.slice (some ⟨g, 0, none⟩) q.length qc)) (by kernel_rfl) ?_ (fun hHeld => ?_)
          · exact u3
          refine wpAnyH_take (i := 0) (oi := { dst := some 53, op := Go.Op.move (Go.Operand.tmp 0), type := 98, pos := _, after := #[], guard := none }) (v := ?_) rfl (by kernel_rfl) (by kernel_rfl) (by kernel_rfl) (fun _ _ _ h => h) (Or.inl ⟨by rfl, ?_⟩) (by assumption) ?_
          rotate_left
          · intro w hSw; (try dsimp only at hSw); go_simp <;> first | with_reducible rfl | (rw [if_neg (by first | omega | (simp only [ByteArray.size_append] at *; omega))])
          simp only [Act.put, List.setIfInBounds_toArray, List.set_cons_zero, List.set_cons_succ]
          refine wpAnyH_take (i := 1) (oi := { dst := some 54, op := Go.Op.nilCheck (Go.Operand.tmp 53), type := 0, pos := _, after := #[{ on := 0, ground := Go.Ground.data }], guard := none }) (v := ?_) rfl (by kernel_rfl) (by kernel_rfl) (by kernel_rfl) (fun _ _ _ h => h) (Or.inl ⟨by rfl, ?_⟩) (by assumption) ?_
          rotate_left
          · intro w hSw; (try dsimp only at hSw); go_simp <;> first | with_reducible rfl | (rw [if_neg (by first | omega | (simp only [ByteArray.size_append] at *; omega))])
          simp only [Act.put, List.setIfInBounds_toArray, List.set_cons_zero, List.set_cons_succ]
          refine wpAnyH_take (i := 2) (oi := { dst := some 55, op := Go.Op.fieldAddr 62 (Go.Operand.tmp 54) 2, type := 0, pos := _, after := #[{ on := 1, ground := Go.Ground.data }], guard := none }) (v := ?_) rfl (by kernel_rfl) (by kernel_rfl) (by kernel_rfl) (fun _ _ _ h => h) (Or.inl ⟨by rfl, ?_⟩) (by assumption) ?_
          rotate_left
          · intro w hSw; (try dsimp only at hSw); go_simp <;> first | with_reducible rfl | (rw [if_neg (by first | omega | (simp only [ByteArray.size_append] at *; omega))])
          simp only [Act.put, List.setIfInBounds_toArray, List.set_cons_zero, List.set_cons_succ]
          refine wpAnyH_take (i := 3) (oi := { dst := some 56, op := Go.Op.load 60 (Go.Operand.tmp 55), type := 60, pos := _, after := #[{ on := 2, ground := Go.Ground.data }], guard := none }) (v := ?_) rfl (by kernel_rfl) (by kernel_rfl) (by kernel_rfl) (fun _ _ _ h => h) (Or.inl ⟨by rfl, ?_⟩) (by assumption) ?_
          rotate_left
          · intro w hSw; (try dsimp only at hSw); go_simp <;> first | with_reducible rfl | (rw [if_neg (by first | omega | (simp only [ByteArray.size_append] at *; omega))])
          simp only [Act.put, List.setIfInBounds_toArray, List.set_cons_zero, List.set_cons_succ]
          refine wpAnyH_take (i := 4) (oi := { dst := some 57, op := Go.Op.move (Go.Operand.tmp 7), type := 3, pos := _, after := #[], guard := none }) (v := ?_) rfl (by kernel_rfl) (by kernel_rfl) (by kernel_rfl) (fun _ _ _ h => h) (Or.inl ⟨by rfl, ?_⟩) (by assumption) ?_
          rotate_left
          · intro w hSw; (try dsimp only at hSw); go_simp <;> first | with_reducible rfl | (rw [if_neg (by first | omega | (simp only [ByteArray.size_append] at *; omega))])
          simp only [Act.put, List.setIfInBounds_toArray, List.set_cons_zero, List.set_cons_succ]
          refine wpAnyH_take (i := 5) (oi := { dst := some 58, op := Go.Op.move (Go.Operand.tmp 0), type := 98, pos := _, after := #[], guard := none }) (v := ?_) rfl (by kernel_rfl) (by kernel_rfl) (by kernel_rfl) (fun _ _ _ h => h) (Or.inl ⟨by rfl, ?_⟩) (by assumption) ?_
          rotate_left
          · intro w hSw; (try dsimp only at hSw); go_simp <;> first | with_reducible rfl | (rw [if_neg (by first | omega | (simp only [ByteArray.size_append] at *; omega))])
          simp only [Act.put, List.setIfInBounds_toArray, List.set_cons_zero, List.set_cons_succ]
          refine wpAnyH_take (i := 6) (oi := { dst := some 59, op := Go.Op.nilCheck (Go.Operand.tmp 58), type := 0, pos := _, after := #[{ on := 5, ground := Go.Ground.data }], guard := none }) (v := ?_) rfl (by kernel_rfl) (by kernel_rfl) (by kernel_rfl) (fun _ _ _ h => h) (Or.inl ⟨by rfl, ?_⟩) (by assumption) ?_
          rotate_left
          · intro w hSw; (try dsimp only at hSw); go_simp <;> first | with_reducible rfl | (rw [if_neg (by first | omega | (simp only [ByteArray.size_append] at *; omega))])
          simp only [Act.put, List.setIfInBounds_toArray, List.set_cons_zero, List.set_cons_succ]
          refine wpAnyH_take (i := 7) (oi := { dst := some 60, op := Go.Op.fieldAddr 62 (Go.Operand.tmp 59) 2, type := 0, pos := _, after := #[{ on := 6, ground := Go.Ground.data }], guard := none }) (v := ?_) rfl (by kernel_rfl) (by kernel_rfl) (by kernel_rfl) (fun _ _ _ h => h) (Or.inl ⟨by rfl, ?_⟩) (by assumption) ?_
          rotate_left
          · intro w hSw; (try dsimp only at hSw); go_simp <;> first | with_reducible rfl | (rw [if_neg (by first | omega | (simp only [ByteArray.size_append] at *; omega))])
          simp only [Act.put, List.setIfInBounds_toArray, List.set_cons_zero, List.set_cons_succ]
          refine wpAnyH_take (i := 8) (oi := { dst := some 61, op := Go.Op.load 60 (Go.Operand.tmp 60), type := 60, pos := _, after := #[{ on := 7, ground := Go.Ground.data }], guard := none }) (v := ?_) rfl (by kernel_rfl) (by kernel_rfl) (by kernel_rfl) (fun _ _ _ h => h) (Or.inl ⟨by rfl, ?_⟩) (by assumption) ?_
          rotate_left
          · intro w hSw; (try dsimp only at hSw); go_simp <;> first | with_reducible rfl | (rw [if_neg (by first | omega | (simp only [ByteArray.size_append] at *; omega))])
          simp only [Act.put, List.setIfInBounds_toArray, List.set_cons_zero, List.set_cons_succ]
          refine wpAnyH_take (i := 9) (oi := { dst := some 62, op := Go.Op.call { callee := Go.Callee.builtin Go.Builtin.len, args := #[Go.Operand.tmp 61], argTypes := #[60] }, type := 3, pos := _, after := #[{ on := 8, ground := Go.Ground.data }], guard := none }) (v := ?_) rfl (by kernel_rfl) (by kernel_rfl) (by kernel_rfl) (fun _ _ _ h => h) (Or.inl ⟨by rfl, ?_⟩) (by assumption) ?_
          rotate_left
          · intro w hSw; (try dsimp only at hSw); go_simp <;> first | with_reducible rfl | (rw [if_neg (by first | omega | (simp only [ByteArray.size_append] at *; omega))])
          simp only [Act.put, List.setIfInBounds_toArray, List.set_cons_zero, List.set_cons_succ]
          refine wpAnyH_take (i := 10) (oi := { dst := some 63, op := Go.Op.move (Go.Operand.tmp 0), type := 98, pos := _, after := #[], guard := none }) (v := ?_) rfl (by kernel_rfl) (by kernel_rfl) (by kernel_rfl) (fun _ _ _ h => h) (Or.inl ⟨by rfl, ?_⟩) (by assumption) ?_
          rotate_left
          · intro w hSw; (try dsimp only at hSw); go_simp <;> first | with_reducible rfl | (rw [if_neg (by first | omega | (simp only [ByteArray.size_append] at *; omega))])
          simp only [Act.put, List.setIfInBounds_toArray, List.set_cons_zero, List.set_cons_succ]
          refine wpAnyH_take (i := 11) (oi := { dst := some 64, op := Go.Op.nilCheck (Go.Operand.tmp 63), type := 0, pos := _, after := #[{ on := 10, ground := Go.Ground.data }], guard := none }) (v := ?_) rfl (by kernel_rfl) (by kernel_rfl) (by kernel_rfl) (fun _ _ _ h => h) (Or.inl ⟨by rfl, ?_⟩) (by assumption) ?_
          rotate_left
          · intro w hSw; (try dsimp only at hSw); go_simp <;> first | with_reducible rfl | (rw [if_neg (by first | omega | (simp only [ByteArray.size_append] at *; omega))])
          simp only [Act.put, List.setIfInBounds_toArray, List.set_cons_zero, List.set_cons_succ]
          refine wpAnyH_take (i := 12) (oi := { dst := some 65, op := Go.Op.fieldAddr 62 (Go.Operand.tmp 64) 2, type := 0, pos := _, after := #[{ on := 11, ground := Go.Ground.data }], guard := none }) (v := ?_) rfl (by kernel_rfl) (by kernel_rfl) (by kernel_rfl) (fun _ _ _ h => h) (Or.inl ⟨by rfl, ?_⟩) (by assumption) ?_
          rotate_left
          · intro w hSw; (try dsimp only at hSw); go_simp <;> first | with_reducible rfl | (rw [if_neg (by first | omega | (simp only [ByteArray.size_append] at *; omega))])
          simp only [Act.put, List.setIfInBounds_toArray, List.set_cons_zero, List.set_cons_succ]
          refine wpAnyH_take (i := 13) (oi := { dst := some 66, op := Go.Op.load 60 (Go.Operand.tmp 65), type := 60, pos := _, after := #[{ on := 12, ground := Go.Ground.data }], guard := none }) (v := ?_) rfl (by kernel_rfl) (by kernel_rfl) (by kernel_rfl) (fun _ _ _ h => h) (Or.inl ⟨by rfl, ?_⟩) (by assumption) ?_
          rotate_left
          · intro w hSw; (try dsimp only at hSw); go_simp <;> first | with_reducible rfl | (rw [if_neg (by first | omega | (simp only [ByteArray.size_append] at *; omega))])
          simp only [Act.put, List.setIfInBounds_toArray, List.set_cons_zero, List.set_cons_succ]
          refine wpAnyH_take (i := 14) (oi := { dst := some 67, op := Go.Op.call { callee := Go.Callee.builtin Go.Builtin.len, args := #[Go.Operand.tmp 66], argTypes := #[60] }, type := 3, pos := _, after := #[{ on := 13, ground := Go.Ground.data }], guard := none }) (v := ?_) rfl (by kernel_rfl) (by kernel_rfl) (by kernel_rfl) (fun _ _ _ h => h) (Or.inl ⟨by rfl, ?_⟩) (by assumption) ?_
          rotate_left
          · intro w hSw; (try dsimp only at hSw); go_simp <;> first | with_reducible rfl | (rw [if_neg (by first | omega | (simp only [ByteArray.size_append] at *; omega))])
          simp only [Act.put, List.setIfInBounds_toArray, List.set_cons_zero, List.set_cons_succ]
          refine wpAnyH_take (i := 15) (oi := { dst := some 68, op := Go.Op.slice 60 (Go.Operand.tmp 56) (some (Go.Operand.tmp 57)) (some (Go.Operand.tmp 62)) (some (Go.Operand.tmp 67)), type := 60, pos := _, after := #[{ on := 3, ground := Go.Ground.data }, { on := 4, ground := Go.Ground.data }, { on := 9, ground := Go.Ground.data }, { on := 14, ground := Go.Ground.data }], guard := none }) (v := ?_) rfl (by kernel_rfl) (by kernel_rfl) (by kernel_rfl) (fun _ _ _ h => h) (Or.inl ⟨by rfl, ?_⟩) (by assumption) ?_
          rotate_left
          · intro w hSw; (try dsimp only at hSw); go_simp <;> first | with_reducible rfl | (rw [if_neg (by first | omega | (simp only [ByteArray.size_append] at *; omega))])
          simp only [Act.put, List.setIfInBounds_toArray, List.set_cons_zero, List.set_cons_succ]
          refine wpAnyH_take (i := 16) (oi := { dst := some 8, op := Go.Op.assign (Go.Operand.tmp 68), type := 60, pos := _, after := #[{ on := 15, ground := Go.Ground.data }, { on := 0, ground := Go.Ground.phase }, { on := 1, ground := Go.Ground.phase }, { on := 2, ground := Go.Ground.phase }, { on := 3, ground := Go.Ground.phase }, { on := 4, ground := Go.Ground.phase }, { on := 5, ground := Go.Ground.phase }, { on := 6, ground := Go.Ground.phase }, { on := 7, ground := Go.Ground.phase }, { on := 8, ground := Go.Ground.phase }, { on := 9, ground := Go.Ground.phase }, { on := 10, ground := Go.Ground.phase }, { on := 11, ground := Go.Ground.phase }, { on := 12, ground := Go.Ground.phase }, { on := 13, ground := Go.Ground.phase }, { on := 14, ground := Go.Ground.phase }, { on := 15, ground := Go.Ground.phase }], guard := none }) (v := ?_) rfl (by kernel_rfl) (by kernel_rfl) (by kernel_rfl) (fun _ _ _ h => h) (Or.inl ⟨by rfl, ?_⟩) (by assumption) ?_
          rotate_left
          · intro w hSw; (try dsimp only at hSw); go_simp <;> first | with_reducible rfl | (rw [if_neg (by first | omega | (simp only [ByteArray.size_append] at *; omega))])
          simp only [Act.put, List.setIfInBounds_toArray, List.set_cons_zero, List.set_cons_succ]
          refine wpAnyH_done (by kernel_rfl) ?_ _
          have b3 : Below w.heap.size w (V2.setCell ⟨w.heap.size, 2, none⟩ (.slice (some ⟨g, 0, none⟩) m qc)).drew.drew := ((S2.out.below.setCell (p := ⟨w.heap.size, 2, none⟩) (by simp) _).drew).drew
          have S3 : Hid (CkS w pv ob (q.take m) (.slice (some ⟨g, 0, none⟩) m qc) (V2.setCell ⟨w.heap.size, 2, none⟩ (.slice (some ⟨g, 0, none⟩) m qc)).drew.drew) := hid ((S2.out.set HPT.out).keep ((Below.refl _ _).drew.drew))
          have hty3 : PTy (V2.setCell ⟨w.heap.size, 2, none⟩ (.slice (some ⟨g, 0, none⟩) m qc)).drew.drew g m (q.drop m) := fun j hj => by
            have h5 := HTY.out j hj
            rw [Nat.zero_add] at h5
            show (V2.setCell ⟨w.heap.size, 2, none⟩ (.slice (some ⟨g, 0, none⟩) m qc)).cell? ⟨g, m + j, none⟩ = _
            rw [World.cell?_of_block (w := V2) (a := ⟨g, m + j, none⟩) (Below.heap_setCell _ _ _ _ (by simp; omega))]
            exact h5
          have hfn := HX.out _ b3
          have c := fn_call hfn (q.drop m) g m tk hty3 (by rw [HDL.out]; exact HT.out) (by rw [HDL.out]; exact Nat.le_refl _) HH1.out
          rw [HDL.out] at c
          have HLT : Hid ((q.take m).length = m) := hid (by rw [List.length_take]; omega)
          generalize lvF i.op (q.drop m) = T at *
          clear hty3 b3 hV HTY HPT HDL HX
          dsimp only at c
          rcases hfn with ⟨e, b1, b2, one, left, e2, _⟩ | ⟨e, e2, _⟩ | ⟨e, e2, _⟩ | ⟨e, e2, _⟩
          · dsimp only at e e2
            subst e e2
            dsimp only [capV] at w2
            change Calls Tryd.prog 59 #[.slice (some ⟨g, m, none⟩) tk tk, .pointer (some ⟨b1, 0, none⟩), .pointer (some ⟨b2, 0, none⟩)] _ _ at c
            go_wp2_with (fail)
            refine c.mono ?_
            rintro e w4 ⟨rfl, hb4⟩
            have S4 := hid (S3.out.keep hb4)
            have c41 := push_ w pv ob _ _ T w4 S4.out (by rw [HLT.out]; exact hmh)
            clear hb4 c z0 z1 z2 w0 w1 w2 u2 u3
            go_wp2_with (fail)
            refine c41.mono ?_
            rintro e w5 ⟨rfl, qv', H5⟩
            have H5 := hid H5
            clear c41
            have HT : Hid (StpP w pv ob R (.returned (.bool (!(T == 0)))) w5) := hid (by
              rw [HN.out]
              split
              · rename_i h0
                rw [h0]
                exact ⟨rfl, H5.out.below⟩
              · rename_i h0
                rw [show (T == 0) = false from beq_eq_false_iff_ne.2 h0]
                exact ⟨rfl, _, H5.out⟩)
            go_wp2_with (fail)
            go_ret
            exact HT.out
          · dsimp only at e e2
            subst e e2
            dsimp only [capV] at w2
            change Calls Tryd.prog 38 #[.slice (some ⟨g, m, none⟩) tk tk] _ _ at c
            go_wp2_with (fail)
            refine c.mono ?_
            rintro e w4 ⟨rfl, hb4⟩
            have S4 := hid (S3.out.keep hb4)
            have c41 := push_ w pv ob _ _ T w4 S4.out (by rw [HLT.out]; exact hmh)
            clear hb4 c z0 z1 z2 w0 w1 w2 u2 u3
            go_wp2_with (fail)
            refine c41.mono ?_
            rintro e w5 ⟨rfl, qv', H5⟩
            have H5 := hid H5
            clear c41
            have HT : Hid (StpP w pv ob R (.returned (.bool (!(T == 0)))) w5) := hid (by
              rw [HN.out]
              split
              · rename_i h0
                rw [h0]
                exact ⟨rfl, H5.out.below⟩
              · rename_i h0
                rw [show (T == 0) = false from beq_eq_false_iff_ne.2 h0]
                exact ⟨rfl, _, H5.out⟩)
            go_wp2_with (fail)
            go_ret
            exact HT.out
          · dsimp only at e e2
            subst e e2
            dsimp only [capV] at w2
            change Calls Tryd.prog 39 #[.slice (some ⟨g, m, none⟩) tk tk] _ _ at c
            go_wp2_with (fail)
            refine c.mono ?_
            rintro e w4 ⟨rfl, hb4⟩
            have S4 := hid (S3.out.keep hb4)
            have c41 := push_ w pv ob _ _ T w4 S4.out (by rw [HLT.out]; exact hmh)
            clear hb4 c z0 z1 z2 w0 w1 w2 u2 u3
            go_wp2_with (fail)
            refine c41.mono ?_
            rintro e w5 ⟨rfl, qv', H5⟩
            have H5 := hid H5
            clear c41
            have HT : Hid (StpP w pv ob R (.returned (.bool (!(T == 0)))) w5) := hid (by
              rw [HN.out]
              split
              · rename_i h0
                rw [h0]
                exact ⟨rfl, H5.out.below⟩
              · rename_i h0
                rw [show (T == 0) = false from beq_eq_false_iff_ne.2 h0]
                exact ⟨rfl, _, H5.out⟩)
            go_wp2_with (fail)
            go_ret
            exact HT.out
          · dsimp only at e e2
            subst e e2
            dsimp only [capV] at w2
            change Calls Tryd.prog 40 #[.slice (some ⟨g, m, none⟩) tk tk] _ _ at c
            go_wp2_with (fail)
            refine c.mono ?_
            rintro e w4 ⟨rfl, hb4⟩
            have S4 := hid (S3.out.keep hb4)
            have c41 := push_ w pv ob _ _ T w4 S4.out (by rw [HLT.out]; exact hmh)
            clear hb4 c z0 z1 z2 w0 w1 w2 u2 u3
            go_wp2_with (fail)
            refine c41.mono ?_
            rintro e w5 ⟨rfl, qv', H5⟩
            have H5 := hid H5
            clear c41
            have HT : Hid (StpP w pv ob R (.returned (.bool (!(T == 0)))) w5) := hid (by
              rw [HN.out]
              split
              · rename_i h0
                rw [h0]
                exact ⟨rfl, H5.out.below⟩
              · rename_i h0
                rw [show (T == 0) = false from beq_eq_false_iff_ne.2 h0]
                exact ⟨rfl, _, H5.out⟩)
            go_wp2_with (fail)
            go_ret
            exact HT.out
    · have HN : Hid (StpP w pv ob R (.returned (.bool false)) V2.drew) := hid (by
        rw [hV.out, if_pos (.inr (.inl c2))]
        exact ⟨rfl, S2.out.below.drew⟩)
      have n0 : (i.n != 0) = true := by rw [bne_iff_ne]; exact c2
      clear hpile hm
      go_wp2_with (fail)
      refine wp_region_held_drew (S := fun V => V.cell? ⟨w.heap.size, 2, none⟩ = some (.slice qa q.length qc) ∧ V.cell? ⟨W.heap.size + 1, 0, none⟩ = some (.int .i64 (tk : Int))) (by kernel_rfl) ?_ (fun hHeld => ?_)
      · exact ⟨u2, w0⟩
      refine wpAnyH_take (i := 0) (oi := { dst := some 26, op := Go.Op.move (Go.Operand.tmp 0), type := 98, pos := _, after := #[], guard := none }) (v := ?_) rfl (by kernel_rfl) (by kernel_rfl) (by kernel_rfl) (fun _ _ _ h => h) (Or.inl ⟨by rfl, ?_⟩) (by assumption) ?_
      rotate_left
      · intro w hSw; (try dsimp only at hSw); go_simp <;> first | with_reducible rfl | (rw [if_neg (by first | omega | (simp only [ByteArray.size_append] at *; omega))])
      simp only [Act.put, List.setIfInBounds_toArray, List.set_cons_zero, List.set_cons_succ]
      refine wpAnyH_take (i := 1) (oi := { dst := some 27, op := Go.Op.nilCheck (Go.Operand.tmp 26), type := 0, pos := _, after := #[{ on := 0, ground := Go.Ground.data }], guard := none }) (v := ?_) rfl (by kernel_rfl) (by kernel_rfl) (by kernel_rfl) (fun _ _ _ h => h) (Or.inl ⟨by rfl, ?_⟩) (by assumption) ?_
      rotate_left
      · intro w hSw; (try dsimp only at hSw); go_simp <;> first | with_reducible rfl | (rw [if_neg (by first | omega | (simp only [ByteArray.size_append] at *; omega))])
      simp only [Act.put, List.setIfInBounds_toArray, List.set_cons_zero, List.set_cons_succ]
      refine wpAnyH_take (i := 2) (oi := { dst := some 28, op := Go.Op.fieldAddr 62 (Go.Operand.tmp 27) 2, type := 0, pos := _, after := #[{ on := 1, ground := Go.Ground.data }], guard := none }) (v := ?_) rfl (by kernel_rfl) (by kernel_rfl) (by kernel_rfl) (fun _ _ _ h => h) (Or.inl ⟨by rfl, ?_⟩) (by assumption) ?_
      rotate_left
      · intro w hSw; (try dsimp only at hSw); go_simp <;> first | with_reducible rfl | (rw [if_neg (by first | omega | (simp only [ByteArray.size_append] at *; omega))])
      simp only [Act.put, List.setIfInBounds_toArray, List.set_cons_zero, List.set_cons_succ]
      refine wpAnyH_take (i := 3) (oi := { dst := some 29, op := Go.Op.load 60 (Go.Operand.tmp 28), type := 60, pos := _, after := #[{ on := 2, ground := Go.Ground.data }], guard := none }) (v := ?_) rfl (by kernel_rfl) (by kernel_rfl) (by kernel_rfl) (fun _ _ _ h => h) (Or.inl ⟨by rfl, ?_⟩) (by assumption) ?_
      rotate_left
      · intro w hSw; (try dsimp only at hSw); go_simp <;> first | with_reducible rfl | (rw [if_neg (by first | omega | (simp only [ByteArray.size_append] at *; omega))])
      simp only [Act.put, List.setIfInBounds_toArray, List.set_cons_zero, List.set_cons_succ]
      refine wpAnyH_take (i := 4) (oi := { dst := some 30, op := Go.Op.call { callee := Go.Callee.builtin Go.Builtin.len, args := #[Go.Operand.tmp 29], argTypes := #[60] }, type := 3, pos := _, after := #[{ on := 3, ground := Go.Ground.data }], guard := none }) (v := ?_) rfl (by kernel_rfl) (by kernel_rfl) (by kernel_rfl) (fun _ _ _ h => h) (Or.inl ⟨by rfl, ?_⟩) (by assumption) ?_
      rotate_left
      · intro w hSw; (try dsimp only at hSw); go_simp <;> first | with_reducible rfl | (rw [if_neg (by first | omega | (simp only [ByteArray.size_append] at *; omega))])
      simp only [Act.put, List.setIfInBounds_toArray, List.set_cons_zero, List.set_cons_succ]
      refine wpAnyH_take (i := 5) (oi := { dst := some 31, op := Go.Op.fieldAddr 97 (Go.Operand.tmp 5) 0, type := 0, pos := _, after := #[], guard := none }) (v := ?_) rfl (by kernel_rfl) (by kernel_rfl) (by kernel_rfl) (fun _ _ _ h => h) (Or.inl ⟨by rfl, ?_⟩) (by assumption) ?_
      rotate_left
      · intro w hSw; (try dsimp only at hSw); go_simp <;> first | with_reducible rfl | (rw [if_neg (by first | omega | (simp only [ByteArray.size_append] at *; omega))])
      simp only [Act.put, List.setIfInBounds_toArray, List.set_cons_zero, List.set_cons_succ]
      refine wpAnyH_take (i := 6) (oi := { dst := some 32, op := Go.Op.load 3 (Go.Operand.tmp 31), type := 3, pos := _, after := #[{ on := 5, ground := Go.Ground.data }], guard := none }) (v := ?_) rfl (by kernel_rfl) (by kernel_rfl) (by kernel_rfl) (fun _ _ _ h => h) (Or.inl ⟨by rfl, ?_⟩) (by assumption) ?_
      rotate_left
      · intro w hSw; (try dsimp only at hSw); go_simp <;> first | with_reducible rfl | (rw [if_neg (by first | omega | (simp only [ByteArray.size_append] at *; omega))])
      simp only [Act.put, List.setIfInBounds_toArray, List.set_cons_zero, List.set_cons_succ]
      refine wpAnyH_take (i := 7) (oi := { dst := some 33, op := Go.Op.binOp Go.BinOp.sub 3 (Go.Operand.tmp 30) (Go.Operand.tmp 32) 3, type := 3, pos := _, after := #[{ on := 4, ground := Go.Ground.data }, { on := 6, ground := Go.Ground.data }], guard := none }) (v := ?_) rfl (by kernel_rfl) (by kernel_rfl) (by kernel_rfl) (fun _ _ _ h => h) (Or.inl ⟨by rfl, ?_⟩) (by assumption) ?_
      rotate_left
      · intro w hSw; (try dsimp only at hSw); go_simp <;> first | with_reducible rfl | (rw [if_neg (by first | omega | (simp only [ByteArray.size_append] at *; omega))])
      simp only [Act.put, List.setIfInBounds_toArray, List.set_cons_zero, List.set_cons_succ]
      refine wpAnyH_take (i := 8) (oi := { dst := some 7, op := Go.Op.assign (Go.Operand.tmp 33), type := 3, pos := _, after := #[{ on := 7, ground := Go.Ground.data }, { on := 0, ground := Go.Ground.phase }, { on := 1, ground := Go.Ground.phase }, { on := 2, ground := Go.Ground.phase }, { on := 3, ground := Go.Ground.phase }, { on := 4, ground := Go.Ground.phase }, { on := 5, ground := Go.Ground.phase }, { on := 6, ground := Go.Ground.phase }, { on := 7, ground := Go.Ground.phase }], guard := none }) (v := ?_) rfl (by kernel_rfl) (by kernel_rfl) (by kernel_rfl) (fun _ _ _ h => h) (Or.inl ⟨by rfl, ?_⟩) (by assumption) ?_
      rotate_left
      · intro w hSw; (try dsimp only at hSw); go_simp <;> first | with_reducible rfl | (rw [if_neg (by first | omega | (simp only [ByteArray.size_append] at *; omega))])
      simp only [Act.put, List.setIfInBounds_toArray, List.set_cons_zero, List.set_cons_succ]
      refine wpAnyH_done (by kernel_rfl) ?_ _
      go_wp2_with (fail)
      go_ret
      exact HN.out
end Go.Proofs.YtdenddknbmiboaaDoor.Lex
namespace Go.Proofs.YtdenddknbmiboaaDoor.Lex
open Go.ChangeShapes Go.WideShapes Go.ChangeAt Go.RowKit Go.Joins
set_option maxRecDepth 100000 in
set_option maxHeartbeats 2000000 in
theorem may_not (p : Plc) (W : World) : Calls Tryd.prog 17 #[plcV p] W fun e w' => e = .returned (.bool (!mayP p)) ∧ Below W.heap.size W w' := by
  have HB := hid ((Below.refl W.heap.size W).alloc (Nat.le_refl _) (.cells #[.string p.name, .int .u8 (p.ty : Int), .int .i64 p.keep, .bool p.far, .int .i64 p.frm, .int .i64 p.df] 55))
  have HV : Hid (mayP p = (((p.ty == 1) || (p.ty == 2)) && decide (0 ≤ p.keep) && decide (p.keep ≤ 4000))) := hid rfl
  have fin : ∀ (b : Bool), mayP p = !b → Hid ((!mayP p) = b) := fun b h => hid (by rw [h]; simp)
  by_cases t1 : p.ty = 1
  · have b1 : ((p.ty : Int) != 1) = false := by rw [bne_eq_false_iff_eq]; omega
    by_cases k0 : p.keep < 0
    · have HR := fin true (by rw [HV.out]; simp; omega)
      clear t1 fin
      go_enter Tryd.func17, Tryd.ntmps17
      go_wp2_with (fail)
      go_ret
      exact ⟨by rw [HR.out]; rfl, HB.out⟩
    · by_cases k4 : p.keep > 4000
      · have HR := fin true (by rw [HV.out]; simp; omega)
        clear t1 fin
        go_enter Tryd.func17, Tryd.ntmps17
        go_wp2_with (fail)
        go_ret
        exact ⟨by rw [HR.out]; rfl, HB.out⟩
      · have HR := fin false (by rw [HV.out, t1]; simp; omega)
        clear t1 fin
        go_enter Tryd.func17, Tryd.ntmps17
        go_wp2_with (fail)
        go_ret
        exact ⟨by rw [HR.out]; rfl, HB.out⟩
  · have b1 : ((p.ty : Int) != 1) = true := by rw [bne_iff_ne]; omega
    by_cases t2 : p.ty = 2
    · have b2 : ((p.ty : Int) != 2) = false := by rw [bne_eq_false_iff_eq]; omega
      by_cases k0 : p.keep < 0
      · have HR := fin true (by rw [HV.out]; simp; omega)
        clear t1 t2 fin
        go_enter Tryd.func17, Tryd.ntmps17
        go_wp2_with (fail)
        go_ret
        exact ⟨by rw [HR.out]; rfl, HB.out⟩
      · by_cases k4 : p.keep > 4000
        · have HR := fin true (by rw [HV.out]; simp; omega)
          clear t1 t2 fin
          go_enter Tryd.func17, Tryd.ntmps17
          go_wp2_with (fail)
          go_ret
          exact ⟨by rw [HR.out]; rfl, HB.out⟩
        · have HR := fin false (by rw [HV.out, t2]; simp; omega)
          clear t1 t2 fin
          go_enter Tryd.func17, Tryd.ntmps17
          go_wp2_with (fail)
          go_ret
          exact ⟨by rw [HR.out]; rfl, HB.out⟩
    · have b2 : ((p.ty : Int) != 2) = true := by rw [bne_iff_ne]; omega
      have HR := fin true (by rw [HV.out]; simp [t1, t2])
      clear t1 t2 fin
      go_enter Tryd.func17, Tryd.ntmps17
      go_wp2_with (fail)
      go_ret
      exact ⟨by rw [HR.out]; rfl, HB.out⟩
/-- Some place may not be. -/
def badP (ps : List Plc) : Bool := ps.any fun p => !mayP p
theorem badP_all (ps : List Plc) : badP ps = !(ps.all mayP) := by
  unfold badP
  induction ps with
  | nil => rfl
  | cons a l ih => rw [List.any_cons, List.all_cons, ih]; cases mayP a <;> simp
set_option maxRecDepth 100000 in
set_option maxHeartbeats 2000000 in
theorem index_bad (ps : List Plc) (v : Value) (w : World) (hP : PlR w v ps) : Calls Tryd.prog 36 #[v, .func (.func 17) #[] #[]] w fun e w' => (∃ i : Int, e = .returned (.int .i64 i) ∧ (badP ps = true → 0 ≤ i) ∧ (badP ps = false → i = -1)) ∧ Below w.heap.size w w' := by
  obtain ⟨ao, cap, rfl, ⟨hlc, hlm⟩, hc0⟩ := hP
  have HC := hid hc0
  clear hc0
  go_enter Tryd.func36, Tryd.ntmps36
  go_wp2
  go_loopw [8] (fun i wr => ∃ k : Nat, k ≤ ps.length ∧ i = .int .i64 (k : Int) ∧ Hid (badP (ps.take k) = false) ∧ Hid (Below w.heap.size w wr)) (fun i _ => ps.length - (intOf i).toNat)
  case atStart => exact ⟨0, Nat.zero_le _, rfl, hid rfl, hid (Below.refl _ _)⟩
  case round =>
    obtain ⟨k, hk, rfl, hF, HB⟩ := hrel
    by_cases hkl : k < ps.length
    · have hkl' : (k : Int) < (ps.length : Int) := by omega
      have hk0 : (0 : Int) ≤ (k : Int) := by omega
      obtain ⟨gg, o, rfl, hcc⟩ := HC.out.resolve_left (by intro e; rw [e] at hkl; simp at hkl)
      have y0 := cell_kept ((hcc k hkl 0 (by omega)).trans rfl) HB.out
      have y1 := cell_kept ((hcc k hkl 1 (by omega)).trans rfl) HB.out
      have y2 := cell_kept ((hcc k hkl 2 (by omega)).trans rfl) HB.out
      have y3 := cell_kept ((hcc k hkl 3 (by omega)).trans rfl) HB.out
      have y4 := cell_kept ((hcc k hkl 4 (by omega)).trans rfl) HB.out
      have y5 := cell_kept ((hcc k hkl 5 (by omega)).trans rfl) HB.out
      rw [Nat.add_zero] at y0
      clear hcc
      have HT : Hid (badP (ps.take (k + 1)) = !mayP ps[k]) := hid (by have := hF.out; unfold badP at this ⊢; rw [List.take_succ_eq_append_getElem hkl, List.any_append, this]; simp)
      have HA : Hid (mayP ps[k] = false → badP ps = true) := hid (fun h => List.any_eq_true.2 ⟨_, List.getElem_mem hkl, by rw [h]; rfl⟩)
      generalize ps[k] = y at *
      have co := may_not y wr
      cases hy : mayP y with
      | false =>
        have hY := hid (HA.out hy)
        rw [hy] at co
        clear hy
        go_wp2_with (go_at_call 17; refine co.mono ?_; rintro e w2 ⟨rfl, hb2⟩; have HB2 := hid hb2; clear hb2)
        go_ret
        exact ⟨⟨(k : Int), rfl, fun _ => by omega, fun h => by rw [hY.out] at h; cases h⟩, HB.out.trans (HB2.out.mono HB.out.size)⟩
      | true =>
        rw [hy] at co
        have hY := hid hy
        clear hy
        go_wp2_with (go_at_call 17; refine co.mono ?_; rintro e w2 ⟨rfl, hb2⟩; have HB2 := hid hb2; clear hb2)
        go_roundw
        case rel => exact ⟨k + 1, by omega, by go_num, hid (by rw [HT.out, hY.out]; rfl), hid (HB.out.trans (HB2.out.mono HB.out.size))⟩
        case measure => simp [intOf]; omega
    · have hkl' : ¬ (k : Int) < (ps.length : Int) := by omega
      have hA : Hid (badP ps = false) := hid (by have := hF.out; rw [List.take_of_length_le (by omega)] at this; exact this)
      go_wp2
      go_ret
      exact ⟨⟨-1, rfl, (fun h => by rw [hA.out] at h; cases h), (fun _ => rfl)⟩, HB.out⟩
theorem contains_bad (ps : List Plc) (v : Value) (w : World) (hP : PlR w v ps) : Calls Tryd.prog 16 #[v, .func (.func 17) #[] #[]] w fun e w' => e = .returned (.bool (badP ps)) ∧ Below w.heap.size w w' := by
  have c := index_bad ps v w hP
  obtain ⟨ao, cap, rfl, _⟩ := hP
  cases hA : badP ps with
  | true =>
    have HA := hid hA
    clear hA
    go_enter Tryd.func16, Tryd.ntmps16
    go_wp2_with (go_at_call 36; refine c.mono ?_; rintro e w2 ⟨⟨i, rfl, h1, h2⟩, hb2⟩; have HB2 := hid hb2; have h3 := h1 HA.out; clear h1 h2 c hb2)
    go_ret
    exact ⟨rfl, HB2.out⟩
  | false =>
    have HA := hid hA
    clear hA
    go_enter Tryd.func16, Tryd.ntmps16
    go_wp2_with (go_at_call 36; refine c.mono ?_; rintro e w2 ⟨⟨i, rfl, h1, h2⟩, hb2⟩; have HB2 := hid hb2; have h3 := h2 HA.out; subst h3; clear h1 h2 c hb2)
    go_ret
    exact ⟨rfl, HB2.out⟩
/-- One instruction, whatever it is. -/
theorem step_ (w : World) (pv : Value) (ps : List Plc) (ob : Nat) (q : List Nat) (qv : Value) (i : Cin) (W : World) (h : CkS w pv ob q qv W) (hP : PlR w pv ps) (hO : Ops w ob) (hq : q.length ≤ 100000) (h2 : i.op < 256) : Calls Tryd.prog 19 #[.pointer (some ⟨w.heap.size, 0, none⟩), insV i] W (StpP w pv ob (stepF ps i q)) := by
  by_cases h1 : 4 ≤ i.op ∧ i.op ≤ 18
  · exact step_op w pv ps ob q qv i W h hO hq h1
  · exact step_atom w pv ps ob q qv i W h hP hO hq h1 h2
theorem dlF_le (i : Cin) : dlF i ≤ 1 := by unfold dlF tkF; split <;> (try split) <;> (try split) <;> omega
theorem runF_le {ps : List Plc} {l : List Cin} {q r : List Nat} (h : runF ps q l = some r) : r.length ≤ q.length + l.length := by
  have h1 := runF_len h
  have h2 : ∀ l : List Cin, (l.map dlF).sum ≤ (l.length : Int) := fun l => by
    induction l with
    | nil => simp
    | cons a l ih => have := dlF_le a; simp only [List.map_cons, List.sum_cons, List.length_cons]; omega
  have := h2 l
  omega
/-- What is answered. -/
def CkP (w : World) (t : Nat) (e : Ending) (w' : World) : Prop := e = .returned (.tuple #[.int .u8 (t : Int), .bool (!(t == 0))]) ∧ Below w.heap.size w w'
set_option maxRecDepth 100000 in
set_option maxHeartbeats 8000000 in
theorem codecheck_ (ps : List Plc) (l : List Cin) (pv lv : Value) (w : World) (hP : PlR w pv ps) (hL : InR w lv l) : Calls Tryd.prog 9 #[pv, lv] w (CkP w (ckF ps l)) := by
  have RT := @results_two Tryd.f9 4 5 rfl
  have HP := hid hP
  obtain ⟨pa, pc, rfl, ⟨hpc, hpm⟩, _⟩ := hP
  obtain ⟨la, lc, rfl, ⟨hlc, hlm⟩, hl0⟩ := hL
  have HC := hid hl0
  clear hl0
  by_cases c8 : 800 < l.length
  · have HV : Hid (ckF ps l = 0) := hid (by unfold ckF; rw [if_pos (.inl c8)])
    rw [HV.out]
    have c8' : (l.length : Int) > 800 := by omega
    have HF : Hid (CkP w 0 (.returned (.tuple #[.int .u8 0, .bool false])) w) := hid ⟨rfl, Below.refl _ _⟩
    go_enter Tryd.func9, Tryd.ntmps9
    go_wp2_with (fail)
    (try simp only [Exit.inBlock, Exit.then])
    refine bodyPost_ret (RT _ _ _) rfl ?_
    exact HF.out
  · have c8' : ¬ (l.length : Int) > 800 := by omega
    have cc := contains_bad ps _ w HP.out
    cases hb : badP ps with
    | true =>
      have HV : Hid (ckF ps l = 0) := hid (by unfold ckF; rw [if_pos (.inr (by have h7 := badP_all ps; rw [hb] at h7; revert h7; cases ps.all mayP <;> intro h7 <;> first | rfl | cases h7))])
      rw [HV.out]
      rw [hb] at cc
      clear hb
      go_enter Tryd.func9, Tryd.ntmps9
      go_wp2_with (go_at_call 16; refine cc.mono ?_; rintro e w1 ⟨rfl, hb1⟩; have HB1 := hid hb1; clear hb1)
      (try simp only [Exit.inBlock, Exit.then])
      refine bodyPost_ret (RT _ _ _) rfl ?_
      exact ⟨rfl, HB1.out⟩
    | false =>
      have HG : Hid (ps.all mayP = true) := hid (by have h7 := badP_all ps; rw [hb] at h7; revert h7; cases ps.all mayP <;> intro h7 <;> first | rfl | cases h7)
      have HV : Hid (ckF ps l = match runF ps [] l with | some [t] => t | _ => 0) := hid (by unfold ckF; rw [if_neg (by rw [HG.out]; simp; omega)]; generalize runF ps [] l = z; rcases z with _ | (_ | ⟨a, _ | ⟨b, c⟩⟩) <;> rfl)
      rw [hb] at cc
      clear hb
      generalize ckF ps l = R at *
      go_enter Tryd.func9, Tryd.ntmps9
      go_wp2_with (go_at_call 16; refine cc.mono ?_; rintro e w1 ⟨rfl, hb1⟩; have HB1 := hid hb1; clear hb1)
      refine (operators_ _).mono ?_
      rintro e w2 ⟨ob, rfl, hO, hb2⟩
      have HB2 := hid (HB1.out.trans (hb2.mono HB1.out.size))
      have HO := hid hO
      clear hb2 hO cc
      go_wp2_with (fail)
      have HP2 := hid (HP.out.keep HB2.out)
      have S0 : Hid (CkS w2 (.slice pa ps.length pc) ob [] (.slice none 0 0) (w2.alloc (.cells #[.slice pa ps.length pc, .map (some ob), .slice none 0 0] 62))) := hid ⟨heap_alloc_new _ _, ⟨rfl, .inl ⟨rfl, rfl⟩⟩, (Below.refl _ _).alloc (Nat.le_refl _) _⟩
      go_loopw [21] (fun i wr => ∃ k : Nat, k ≤ l.length ∧ i = .int .i64 (k : Int) ∧ Hid (∃ q qv, runF ps [] (l.take k) = some q ∧ CkS w2 (.slice pa ps.length pc) ob q qv wr)) (fun i _ => l.length - (intOf i).toNat)
      case atStart => exact ⟨0, Nat.zero_le _, rfl, hid ⟨[], _, rfl, S0.out⟩⟩
      case round =>
        obtain ⟨k, hk, rfl, HS⟩ := hrel
        obtain ⟨q, qv, hrun, hS⟩ := HS.out
        have S1 := hid hS
        have HRN := hid hrun
        clear HS
        by_cases hkl : k < l.length
        · have hkl' : (k : Int) < (l.length : Int) := by omega
          have hk0 : (0 : Int) ≤ (k : Int) := by omega
          obtain ⟨gg, o, rfl, hcc⟩ := HC.out.resolve_left (by intro e; rw [e] at hkl; simp at hkl)
          obtain ⟨hop, hcc⟩ := hcc k hkl
          have hbw := HB2.out.trans (S1.out.below.mono HB2.out.size)
          have y0 := cell_kept ((hcc 0 (by omega)).trans rfl) hbw
          have y1 := cell_kept ((hcc 1 (by omega)).trans rfl) hbw
          have y2 := cell_kept ((hcc 2 (by omega)).trans rfl) hbw
          rw [Nat.add_zero] at y0
          clear hcc hbw
          have hql : q.length ≤ 100000 := by have := runF_le hrun; simp at this; omega
          have HT : Hid (runF ps [] (l.take (k + 1)) = stepF ps l[k] q) := hid (by
            rw [List.take_succ_eq_append_getElem hkl, runF_append, HRN.out]
            show (stepF ps l[k] q).bind (fun q => runF ps q []) = _
            cases stepF ps l[k] q <;> rfl)
          have HN : Hid (stepF ps l[k] q = none → R = 0) := hid (fun h => by
            rw [HV.out]
            have e : l = l.take k ++ l[k] :: l.drop (k + 1) := by rw [List.getElem_cons_drop, List.take_append_drop]
            have e2 : runF ps [] l = none := by
              rw [e, runF_append, HRN.out]
              show (stepF ps l[k] q).bind (fun q => runF ps q _) = none
              rw [h]
              rfl
            rw [e2])
          clear hrun hS
          generalize l[k] = y at *
          have hal := (Below.refl wr.heap.size wr).alloc (Nat.le_refl _) (.cells #[.int .u8 (y.op : Int), .int .i64 y.n, .int .i64 y.ago] 38)
          have c19 := step_ w2 _ ps ob q qv y _ (S1.out.keep hal) HP2.out HO.out hql hop
          cases hs : stepF ps y q with
          | none =>
            have HR := hid (HN.out hs)
            rw [hs] at c19
            clear hs hal
            go_wp2_with (go_at_call 19; refine c19.mono ?_; rintro e w4 ⟨rfl, hb4⟩; have HB4 := hid hb4; clear hb4)
            (try simp only [Exit.inBlock, Exit.then])
            refine bodyPost_ret (RT _ _ _) rfl ?_
            exact ⟨by rw [HR.out]; rfl, HB2.out.trans (HB4.out.mono HB2.out.size)⟩
          | some q2 =>
            have HQ := hid hs
            rw [hs] at c19
            clear hs hal
            go_wp2_with (go_at_call 19; refine c19.mono ?_; rintro e w4 ⟨rfl, qv4, hS4⟩; have S4 := hid hS4; clear hS4)
            go_roundw
            case rel => exact ⟨k + 1, by omega, by go_num, hid ⟨q2, _, by rw [HT.out, HQ.out], S4.out⟩⟩
            case measure => simp [intOf]; omega
        · have hkl' : ¬ (k : Int) < (l.length : Int) := by omega
          have HRL : Hid (runF ps [] l = some q) := hid (by rw [← HRN.out, List.take_of_length_le (by omega)])
          have HBB := hid (HB2.out.trans (S1.out.below.mono HB2.out.size))
          obtain ⟨u0, u1, u2⟩ := S1.out.cells
          clear hrun hS
          by_cases h1 : q.length = 1
          · obtain ⟨t, rfl⟩ : ∃ t, q = [t] := by
              match q, h1 with
              | [t], _ => exact ⟨t, rfl⟩
            have HRT : Hid (R = t) := hid (by rw [HV.out, HRL.out])
            have HTY : Hid (t ≠ 0) := hid (by
              have := runF_ty HG.out (q := []) (fun t ht => by cases ht) HRL.out t (by simp)
              omega)
            obtain ⟨gq, cq, rfl, hqc, _, _, hty⟩ := S1.out.pile.some (by simp)
            have v0 := hty.at0 (by simp)
            simp only [List.getElem_cons_zero] at v0
            clear hty
            simp only [List.length_singleton] at u2 hqc
            have HF : Hid (CkP w R (.returned (.tuple #[.int .u8 (t : Int), .bool true])) wr) := hid ⟨by rw [HRT.out, show (t == 0) = false from beq_eq_false_iff_ne.2 HTY.out]; rfl, HBB.out⟩
            clear h1
            go_wp2_with (fail)
            (try simp only [Exit.inBlock, Exit.then])
            refine bodyPost_ret (RT _ _ _) rfl ?_
            exact HF.out
          · obtain ⟨qa, qc, rfl⟩ : ∃ a c, qv = .slice a q.length c := by
              rcases S1.out.pile.2 with ⟨h, h0⟩ | ⟨gq, cap, cur, h, _⟩
              · exact ⟨none, 0, by rw [h, h0]⟩
              · exact ⟨_, _, h⟩
            have HR0 : Hid (R = 0) := hid (by
              rw [HV.out, HRL.out]
              match q, h1 with
              | [], _ => rfl
              | a :: b :: _, _ => rfl)
            have hne : ((q.length : Int) != 1) = true := by rw [bne_iff_ne]; omega
            have HF : Hid (CkP w R (.returned (.tuple #[.int .u8 0, .bool false])) wr) := hid ⟨by rw [HR0.out]; rfl, HBB.out⟩
            clear h1
            go_wp2_with (fail)
            (try simp only [Exit.inBlock, Exit.then])
            refine bodyPost_ret (RT _ _ _) rfl ?_
            exact HF.out
end Go.Proofs.YtdenddknbmiboaaDoor.Lex
namespace Go.Proofs.YtdenddknbmiboaaDoor.Lex
open Go.ChangeShapes Go.WideShapes Go.ChangeAt Go.RowKit Go.Joins
theorem info38 : (Tryd.prog.info? 38).map (·.size) = some 3 := by kernel_rfl
theorem zeroSrc (w : World) : (zeroValue 126).run Tryd.prog w = .ok (tlV (0, 0)) w := by kernel_rfl
theorem TMap.lookS {W : World} {b n : Nat} {T : List UInt8 → Int × Int} (h : TMap W b n T) {s : ByteArray} (hs : s.size ≤ 140737488355328) :
    (Instr.lookup 88 (.map (some b)) (.string s) false).run Tryd.prog W = .ok (tlV (T s.data.toList)) W := by
  obtain ⟨D, h1, h2⟩ := h
  obtain ⟨v, ps, hrun, hv⟩ := h1.lookup (Maps.string_keyed Tryd.underlying9) Tryd.underlying88 (zeroSrc W) (tlR_mk (0, 0)) (key9 hs)
  rw [h2] at hv
  rw [hrun, tlR_inv hv]
theorem TMap.updateS {W : World} {b n : Nat} {T : List UInt8 → Int × Int} (h : TMap W b n T) (hn : n < maxLen) {s : ByteArray} (hs : s.size ≤ 140737488355328) (t : Int × Int) :
    ∃ W', (Instr.mapUpdate 88 (.map (some b)) (.string s) (tlV t)).run Tryd.prog W = .ok () W' ∧ TMap W' b (n + 1) (fun u => if u = s.data.toList then t else T u) ∧ W.grownBy W' (some b) := by
  obtain ⟨D, h1, h2⟩ := h
  obtain ⟨W', hrun, r1, r2⟩ := h1.update (Maps.string_keyed Tryd.underlying9) Tryd.underlying88 hn (key9 hs) (tlR_mk t)
  refine ⟨W', hrun, ⟨_, r1, fun u => ?_⟩, r2⟩
  dsimp only
  by_cases e : u = s.data.toList
  · rw [if_pos e, e, Maps.atKey_put_same h1.isMap (by trivial)]
  · rw [if_neg e, Maps.atKey_put_other (by intro h; injection h with h; exact e h)]
    exact h2 u
def inssC (L : List Cin) : List Value := (L.map insC).flatten
theorem inssC_len (L : List Cin) : (inssC L).length = L.length * 3 := by
  induction L with
  | nil => rfl
  | cons a L ih =>
    show (insC a ++ inssC L).length = _
    rw [List.length_append, ih]
    simp
    omega
theorem inssC_append (L M : List Cin) : inssC (L ++ M) = inssC L ++ inssC M := by unfold inssC; rw [List.map_append, List.flatten_append]
theorem inssC_at (L : List Cin) : ∀ i (h : i < L.length) j, j < 3 → (inssC L)[i * 3 + j]? = (insC L[i])[j]? := by
  induction L with
  | nil => intro i h; cases h
  | cons a l ih =>
    intro i h j hj
    show (insC a ++ inssC l)[i * 3 + j]? = _
    cases i with
    | zero => rw [List.getElem?_append_left (by simp; omega)]; simp
    | succ i =>
      rw [List.getElem?_append_right (by simp; omega)]
      have : (i + 1) * 3 + j - (insC a).length = i * 3 + j := by simp; omega
      rw [this, ih i (by simpa using h) j hj]
      rfl
/-- Where a writer lies, and what it stands on. -/
structure Wp where
  w : World
  wb : Nat
  lo : Nat
  mb : Nat
  nT : Nat
  T : List UInt8 → Int × Int
  late : Int
/-- A writer in its variable. -/
structure WrS (c : Wp) (L : List Cin) (dv : Value) (W : World) : Prop where
  box : W.heap[c.wb]? = some (.cells #[.int .i64 c.late, .map (some c.mb), dv] 91 (0, 0))
  row : W.ownsRow c.lo 38 3 dv L.length (inssC L)
  map : TMap W c.mb c.nT c.T
  below : Below c.w.heap.size c.w W
  l1 : c.w.heap.size ≤ c.wb
  l2 : c.wb < c.lo
  l3 : c.mb < c.lo
  l4 : c.mb ≠ c.wb
  l5 : c.lo ≤ W.heap.size
theorem WrS.keep {c : Wp} {W W' : World} {L : List Cin} {dv : Value} (h : WrS c L dv W) (hb : Below W.heap.size W W') : WrS c L dv W' := ⟨keep_row h.box hb, own_same h.row (fun b e => hb.block b (h.row.lt b e).2), h.map.keep hb, h.below.trans (hb.mono h.below.size), h.l1, h.l2, h.l3, h.l4, Nat.le_trans h.l5 hb.size⟩
theorem WrS.cells {c : Wp} {W : World} {L : List Cin} {dv : Value} (h : WrS c L dv W) : W.cell? ⟨c.wb, 0, none⟩ = some (.int .i64 c.late) ∧ W.cell? ⟨c.wb, 1, none⟩ = some (.map (some c.mb)) ∧ W.cell? ⟨c.wb, 2, none⟩ = some dv :=
  ⟨(cell_of_row _ _ _ _ 91 (0, 0) h.box).trans rfl, (cell_of_row _ _ _ _ 91 (0, 0) h.box).trans rfl, (cell_of_row _ _ _ _ 91 (0, 0) h.box).trans rfl⟩
theorem WrS.put {c : Wp} {W : World} {L' : List Cin} {dv dv' : Value} (hb : W.heap[c.wb]? = some (.cells #[.int .i64 c.late, .map (some c.mb), dv] 91 (0, 0))) (hm : TMap W c.mb c.nT c.T) (hl : Below c.w.heap.size c.w W) (l1 : c.w.heap.size ≤ c.wb) (l2 : c.wb < c.lo) (l3 : c.mb < c.lo) (l4 : c.mb ≠ c.wb) (l5 : c.lo ≤ W.heap.size) (hq : W.ownsRow c.lo 38 3 dv' L'.length (inssC L')) : WrS c L' dv' (W.setCell ⟨c.wb, 2, none⟩ dv') := by
  refine ⟨?_, ?_, hm.block (Below.heap_setCell _ _ _ _ (by simp; exact l4)), hl.setCell (p := ⟨c.wb, 2, none⟩) (by simp; exact l1) _, l1, l2, l3, l4, by rw [World.size_setCell]; exact l5⟩
  · rw [setCell_eq_setRow W _ 2 _ 91 (0, 0) dv' hb]
    exact setRow_heap _ _ _ _ _ _ hb
  · exact own_same hq (fun b e => by
      have := (hq.lt b e).1
      exact Below.heap_setCell _ _ _ _ (by simp; omega))
/-- What has been turned meanwhile: the writer's variable and its row alone. -/
structure Mvd (wb : Nat) (dv dv' : Value) (W W' : World) : Prop where
  size : W.heap.size ≤ W'.heap.size
  old : ∀ b, b < W.heap.size → b ≠ wb → dv.ownBlock ≠ some b → W'.heap[b]? = W.heap[b]?
  own : ∀ b, dv'.ownBlock = some b → dv.ownBlock = some b ∨ W.heap.size ≤ b
theorem Mvd.refl (wb : Nat) (dv : Value) (W : World) : Mvd wb dv dv W W := ⟨Nat.le_refl _, fun _ _ _ _ => rfl, fun _ h => .inl h⟩
theorem Mvd.of_below {wb : Nat} {dv : Value} {W W' : World} (h : Below W.heap.size W W') : Mvd wb dv dv W W' := ⟨h.size, fun b hb _ _ => h.block b hb, fun _ h => .inl h⟩
theorem Mvd.trans {wb : Nat} {a b c : Value} {W W' W'' : World} (h : Mvd wb a b W W') (h' : Mvd wb b c W' W'') : Mvd wb a c W W'' := by
  refine ⟨Nat.le_trans h.size h'.size, fun k hk hne hno => ?_, fun k hk => ?_⟩
  · refine (h'.old k (Nat.lt_of_lt_of_le hk h.size) hne (fun e => ?_)).trans (h.old k hk hne hno)
    rcases h.own k e with e2 | e2
    · exact hno e2
    · omega
  · rcases h'.own k hk with e | e
    · exact h.own k e
    · exact .inr (Nat.le_trans h.size e)
set_option maxRecDepth 100000 in
set_option maxHeartbeats 4000000 in
theorem taken_ (c : Wp) (L : List Cin) (dv : Value) (nm : ByteArray) (ago : Int) (W : World) (h : WrS c L dv W) (hs : nm.size ≤ 140737488355328) (h1 : 0 ≤ c.late ∧ c.late ≤ 1000000) (h2 : 0 ≤ ago ∧ ago ≤ 1000000) (h3 : ∀ u, -1000000 ≤ (c.T u).2 ∧ (c.T u).2 ≤ 1000000) :
    Calls Tryd.prog 58 #[.pointer (some ⟨c.wb, 0, none⟩), .string nm, .int .i64 ago] W fun e w' => e = .returned (insV ⟨3, (c.T nm.data.toList).1, c.late + ago - (c.T nm.data.toList).2⟩) ∧ Below W.heap.size W w' := by
  have hb1 := (Below.refl W.heap.size W).alloc (Nat.le_refl _) (.cells #[.int .u8 0, .int .i64 0, .int .i64 0] 38)
  have S1 := h.keep hb1
  have hlk := S1.map.lookS hs
  have hb3 := h3 nm.data.toList
  generalize c.T nm.data.toList = t at *
  obtain ⟨t1, t2⟩ := t
  dsimp only at hb3 ⊢
  obtain ⟨y0, y1, y2⟩ := S1.cells
  have hb2 := hb1.alloc (by simp) (.cells #[.int .i64 t1, .int .i64 t2] 126)
  have S2 := hid (h.keep hb2)
  have HB2 := hid hb2
  have HBX := hid (Array.getElem?_eq_some_iff.1 h.box).1
  have hw1 : -1000000 ≤ c.late + ago ∧ c.late + ago ≤ 3000000 := by omega
  have hw2 : -3000000 ≤ c.late + ago - t2 ∧ c.late + ago - t2 ≤ 4000000 := by omega
  obtain ⟨zz, hzz⟩ : ∃ zz, zz = c.late + ago - t2 := ⟨_, rfl⟩
  obtain ⟨yy, hyy⟩ : ∃ yy, yy = c.late + ago := ⟨_, rfl⟩
  have hwr1 : IntKind.i64.wrap (c.late + ago) = yy := by rw [hyy, IntKind.wrap_i64]; omega
  have hwr2 : IntKind.i64.wrap (yy - t2) = zz := by rw [hzz, hyy, IntKind.wrap_i64]; omega
  have HZZ := hid hzz
  clear hb1 hb2 S1 h h3 hzz hyy
  go_enter Tryd.func58, Tryd.ntmps58
  go_wp2_with (fail)
  obtain ⟨y0, y1, y2⟩ := S2.out.cells
  have hrow : ((W.alloc (.cells #[.int .u8 0, .int .i64 0, .int .i64 0] 38)).alloc (.cells #[.int .i64 t1, .int .i64 t2] 126)).heap[W.heap.size + 1]? = some (.cells #[.int .i64 t1, .int .i64 t2] 126 (0, 0)) := by
    have h := heap_alloc_new (W.alloc (.cells #[.int .u8 0, .int .i64 0, .int .i64 0] 38)) (.cells #[.int .i64 t1, .int .i64 t2] 126)
    rwa [World.size_alloc] at h
  have hres : ((W.alloc (.cells #[.int .u8 0, .int .i64 0, .int .i64 0] 38)).alloc (.cells #[.int .i64 t1, .int .i64 t2] 126)).heap[W.heap.size]? = some (.cells #[.int .u8 0, .int .i64 0, .int .i64 0] 38 (0, 0)) := push_old (heap_alloc_new _ _)
  have x0 := (cell_of_row _ _ 0 _ 126 (0, 0) hrow).trans rfl
  have x1 := (cell_of_row _ _ 1 _ 126 (0, 0) hrow).trans rfl
  generalize ((W.alloc (.cells #[.int .u8 0, .int .i64 0, .int .i64 0] 38)).alloc (.cells #[.int .i64 t1, .int .i64 t2] 126)) = V at *
  have kk : ∀ (c o : Nat) (v : Value), c ≠ W.heap.size → V.cell? ⟨c, o, none⟩ = some v → (V.setRow W.heap.size #[.int .u8 3, .int .i64 t1, .int .i64 zz]).cell? ⟨c, o, none⟩ = some v := fun c o v hc h => by
    rw [World.cell?_of_block (w := V) (a := ⟨c, o, none⟩) (setRow_other _ _ _ _ hc)]
    exact h
  have k0 := kk _ _ _ (by omega) x0
  have k1 := kk _ _ _ (by omega) x1
  have k2 := kk _ _ _ (by have := HBX.out; omega) y0
  refine wp_region_held_drew (S := fun V => V.cell? ⟨W.heap.size + 1, 0, none⟩ = some (.int .i64 t1) ∧ V.cell? ⟨W.heap.size + 1, 1, none⟩ = some (.int .i64 t2) ∧ V.cell? ⟨c.wb, 0, none⟩ = some (.int .i64 c.late)) (by kernel_rfl) ?_ (fun hHeld => ?_)
  · exact ⟨x0, x1, y0⟩
  refine wpAnyH_take (i := 0) (oi := { dst := some 14, op := Go.Op.fieldAddr 126 (Go.Operand.tmp 7) 0, type := 0, pos := _, after := #[], guard := none }) (v := ?_) rfl (by kernel_rfl) (by kernel_rfl) (by kernel_rfl) (fun _ _ _ h => h) (Or.inl ⟨by rfl, ?_⟩) (by assumption) ?_
  rotate_left
  · intro w hSw; (try dsimp only at hSw); go_simp <;> first | with_reducible rfl | (rw [if_neg (by first | omega | (simp only [ByteArray.size_append] at *; omega))])
  simp only [Act.put, List.setIfInBounds_toArray, List.set_cons_zero, List.set_cons_succ]
  refine wpAnyH_take (i := 1) (oi := { dst := some 15, op := Go.Op.load 2 (Go.Operand.tmp 14), type := 2, pos := _, after := #[{ on := 0, ground := Go.Ground.data }], guard := none }) (v := ?_) rfl (by kernel_rfl) (by kernel_rfl) (by kernel_rfl) (fun _ _ _ h => h) (Or.inl ⟨by rfl, ?_⟩) (by assumption) ?_
  rotate_left
  · intro w hSw; (try dsimp only at hSw); go_simp <;> first | with_reducible rfl | (rw [if_neg (by first | omega | (simp only [ByteArray.size_append] at *; omega))])
  simp only [Act.put, List.setIfInBounds_toArray, List.set_cons_zero, List.set_cons_succ]
  refine wpAnyH_take (i := 2) (oi := { dst := some 16, op := Go.Op.move (Go.Operand.tmp 0), type := 127, pos := _, after := #[], guard := none }) (v := ?_) rfl (by kernel_rfl) (by kernel_rfl) (by kernel_rfl) (fun _ _ _ h => h) (Or.inl ⟨by rfl, ?_⟩) (by assumption) ?_
  rotate_left
  · intro w hSw; (try dsimp only at hSw); go_simp <;> first | with_reducible rfl | (rw [if_neg (by first | omega | (simp only [ByteArray.size_append] at *; omega))])
  simp only [Act.put, List.setIfInBounds_toArray, List.set_cons_zero, List.set_cons_succ]
  refine wpAnyH_take (i := 3) (oi := { dst := some 17, op := Go.Op.nilCheck (Go.Operand.tmp 16), type := 0, pos := _, after := #[{ on := 2, ground := Go.Ground.data }], guard := none }) (v := ?_) rfl (by kernel_rfl) (by kernel_rfl) (by kernel_rfl) (fun _ _ _ h => h) (Or.inl ⟨by rfl, ?_⟩) (by assumption) ?_
  rotate_left
  · intro w hSw; (try dsimp only at hSw); go_simp <;> first | with_reducible rfl | (rw [if_neg (by first | omega | (simp only [ByteArray.size_append] at *; omega))])
  simp only [Act.put, List.setIfInBounds_toArray, List.set_cons_zero, List.set_cons_succ]
  refine wpAnyH_take (i := 4) (oi := { dst := some 18, op := Go.Op.fieldAddr 91 (Go.Operand.tmp 17) 0, type := 0, pos := _, after := #[{ on := 3, ground := Go.Ground.data }], guard := none }) (v := ?_) rfl (by kernel_rfl) (by kernel_rfl) (by kernel_rfl) (fun _ _ _ h => h) (Or.inl ⟨by rfl, ?_⟩) (by assumption) ?_
  rotate_left
  · intro w hSw; (try dsimp only at hSw); go_simp <;> first | with_reducible rfl | (rw [if_neg (by first | omega | (simp only [ByteArray.size_append] at *; omega))])
  simp only [Act.put, List.setIfInBounds_toArray, List.set_cons_zero, List.set_cons_succ]
  refine wpAnyH_take (i := 5) (oi := { dst := some 19, op := Go.Op.load 3 (Go.Operand.tmp 18), type := 3, pos := _, after := #[{ on := 4, ground := Go.Ground.data }], guard := none }) (v := ?_) rfl (by kernel_rfl) (by kernel_rfl) (by kernel_rfl) (fun _ _ _ h => h) (Or.inl ⟨by rfl, ?_⟩) (by assumption) ?_
  rotate_left
  · intro w hSw; (try dsimp only at hSw); go_simp <;> first | with_reducible rfl | (rw [if_neg (by first | omega | (simp only [ByteArray.size_append] at *; omega))])
  simp only [Act.put, List.setIfInBounds_toArray, List.set_cons_zero, List.set_cons_succ]
  refine wpAnyH_take (i := 6) (oi := { dst := some 20, op := Go.Op.move (Go.Operand.tmp 2), type := 3, pos := _, after := #[], guard := none }) (v := ?_) rfl (by kernel_rfl) (by kernel_rfl) (by kernel_rfl) (fun _ _ _ h => h) (Or.inl ⟨by rfl, ?_⟩) (by assumption) ?_
  rotate_left
  · intro w hSw; (try dsimp only at hSw); go_simp <;> first | with_reducible rfl | (rw [if_neg (by first | omega | (simp only [ByteArray.size_append] at *; omega))])
  simp only [Act.put, List.setIfInBounds_toArray, List.set_cons_zero, List.set_cons_succ]
  refine wpAnyH_take (i := 7) (oi := { dst := some 21, op := Go.Op.binOp Go.BinOp.add 3 (Go.Operand.tmp 19) (Go.Operand.tmp 20) 3, type := 3, pos := _, after := #[{ on := 5, ground := Go.Ground.data }, { on := 6, ground := Go.Ground.data }], guard := none }) (v := ?_) rfl (by kernel_rfl) (by kernel_rfl) (by kernel_rfl) (fun _ _ _ h => h) (Or.inl ⟨by rfl, ?_⟩) (by assumption) ?_
  rotate_left
  · intro w hSw; (try dsimp only at hSw); go_simp <;> first | with_reducible rfl | (rw [if_neg (by first | omega | (simp only [ByteArray.size_append] at *; omega))])
  simp only [Act.put, List.setIfInBounds_toArray, List.set_cons_zero, List.set_cons_succ]
  refine wpAnyH_take (i := 8) (oi := { dst := some 22, op := Go.Op.fieldAddr 126 (Go.Operand.tmp 7) 1, type := 0, pos := _, after := #[], guard := none }) (v := ?_) rfl (by kernel_rfl) (by kernel_rfl) (by kernel_rfl) (fun _ _ _ h => h) (Or.inl ⟨by rfl, ?_⟩) (by assumption) ?_
  rotate_left
  · intro w hSw; (try dsimp only at hSw); go_simp <;> first | with_reducible rfl | (rw [if_neg (by first | omega | (simp only [ByteArray.size_append] at *; omega))])
  simp only [Act.put, List.setIfInBounds_toArray, List.set_cons_zero, List.set_cons_succ]
  refine wpAnyH_take (i := 9) (oi := { dst := some 23, op := Go.Op.load 3 (Go.Operand.tmp 22), type := 3, pos := _, after := #[{ on := 8, ground := Go.Ground.data }], guard := none }) (v := ?_) rfl (by kernel_rfl) (by kernel_rfl) (by kernel_rfl) (fun _ _ _ h => h) (Or.inl ⟨by rfl, ?_⟩) (by assumption) ?_
  rotate_left
  · intro w hSw; (try dsimp only at hSw); go_simp <;> first | with_reducible rfl | (rw [if_neg (by first | omega | (simp only [ByteArray.size_append] at *; omega))])
  simp only [Act.put, List.setIfInBounds_toArray, List.set_cons_zero, List.set_cons_succ]
  refine wpAnyH_take (i := 10) (oi := { dst := some 24, op := Go.Op.binOp Go.BinOp.sub 3 (Go.Operand.tmp 21) (Go.Operand.tmp 23) 3, type := 3, pos := _, after := #[{ on := 7, ground := Go.Ground.data }, { on := 9, ground := Go.Ground.data }], guard := none }) (v := ?_) rfl (by kernel_rfl) (by kernel_rfl) (by kernel_rfl) (fun _ _ _ h => h) (Or.inl ⟨by rfl, ?_⟩) (by assumption) ?_
  rotate_left
  · intro w hSw; (try dsimp only at hSw); go_simp <;> first | with_reducible rfl | (rw [if_neg (by first | omega | (simp only [ByteArray.size_append] at *; omega))])
  simp only [Act.put, List.setIfInBounds_toArray, List.set_cons_zero, List.set_cons_succ]
  refine wpAnyH_take (i := 11) (oi := { dst := some 25, op := Go.Op.build 38 #[(0, Go.Operand.const (Go.Value.int Go.IntKind.u8 3)), (1, Go.Operand.tmp 15), (2, Go.Operand.tmp 24)], type := 38, pos := _, after := #[{ on := 1, ground := Go.Ground.data }, { on := 10, ground := Go.Ground.data }], guard := none }) (v := ?_) rfl (by kernel_rfl) (by kernel_rfl) (by kernel_rfl) (fun _ _ _ h => h) (Or.inl ⟨by rfl, ?_⟩) (by assumption) ?_
  rotate_left
  · intro w hSw; (try dsimp only at hSw); go_simp <;> first | with_reducible rfl | (rw [if_neg (by first | omega | (simp only [ByteArray.size_append] at *; omega))])
  simp only [Act.put, List.setIfInBounds_toArray, List.set_cons_zero, List.set_cons_succ]
  refine wpAnyH_ready (rs := [12]) (by kernel_rfl) (by simp) ?_
  refine AllReadyH.cons (o := { dst := none, op := Go.Op.store 38 (Go.Operand.tmp 6) (Go.Operand.tmp 25), type := 0, pos := _, after := #[{ on := 11, ground := Go.Ground.data }, { on := 0, ground := Go.Ground.phase }, { on := 1, ground := Go.Ground.phase }, { on := 2, ground := Go.Ground.phase }, { on := 3, ground := Go.Ground.phase }, { on := 4, ground := Go.Ground.phase }, { on := 5, ground := Go.Ground.phase }, { on := 6, ground := Go.Ground.phase }, { on := 7, ground := Go.Ground.phase }, { on := 8, ground := Go.Ground.phase }, { on := 9, ground := Go.Ground.phase }, { on := 10, ground := Go.Ground.phase }, { on := 11, ground := Go.Ground.phase }], guard := none }) rfl (fun K hK => ?_) AllReadyH.nil
  refine if_take (by rfl) ?_
  refine wp_store_row 38 (.tmp 6) (.tmp 25) rfl W.heap.size #[.int .u8 3, .int .i64 t1, .int .i64 zz] rfl rfl 38 _ hres info38 rfl (by simp [Value.oneCell']) ?_
  refine hK.out _ _ ?_ (fun hHeld2 => ?_)
  · exact ⟨k0, k1, k2⟩
  clear hK K
  refine wpAnyH_done (by kernel_rfl) ?_ _
  go_wp2_with (fail)
  (try simp only [Exit.inBlock, Exit.then])
  exact bodyPost_ret (results_cell_row rfl _ _ W.heap.size 38 #[.int .u8 3, .int .i64 t1, .int .i64 zz] (0, 0) _ rfl (setRow_heap _ _ _ _ _ _ hres) Tryd.underlying38 rfl info38) rfl ⟨by rw [HZZ.out]; rfl, below_row HB2.out.drew HB2.out.size (Nat.le_refl _) _⟩
end Go.Proofs.YtdenddknbmiboaaDoor.Lex
