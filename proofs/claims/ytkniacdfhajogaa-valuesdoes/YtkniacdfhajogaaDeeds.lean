/-
  What the maps hold: a deed of one and of two numbers, made and done.
-/
import Derived.Test.YtkniacdfhajogaaNums
namespace Go.Proofs.Ytkniacdfhajogaa.Val
open Go.ChangeShapes Go.WideShapes Go.ChangeAt Go.RowKit Go.Joins
/-- A function value's call is a call of that function. -/
def Plain (F : FuncId) : Prop := ∀ (a : Array Value) (W : World), (callFunc F a).run Try.prog W = .ok (.enter F a) W
abbrev fV (f : Nat) : Value := .func (.func f) #[] #[]
abbrev ptr (b : Nat) : Value := .pointer (some ⟨b, 0, none⟩)
theorem if_take {c : Prop} [Decidable c] {p q : Prop} (hc : c) (h : p) : if c then p else q := by rw [if_pos hc]; exact h
theorem setRow_cell {w : World} {k b j : Nat} {v : Value} {cs : Array Value} (hne : b ≠ k) (h : w.cell? ⟨b, j, none⟩ = some v) : (w.setRow k cs).cell? ⟨b, j, none⟩ = some v := by
  rw [World.cell?_of_block (w := w) (a := ⟨b, j, none⟩) (setRow_other w _ _ _ hne)]
  exact h
set_option maxRecDepth 100000 in
set_option maxHeartbeats 1000000 in
theorem deed1n (fd : Nat) (hF : Plain fd) (G : Int → Int) (c : ∀ a w, Calls Try.prog fd #[.int .i64 a] w fun e w' => e = .returned (.int .i64 (G a)) ∧ w' = w) (b1 b2 g o cap : Nat) (a : Vl) (w : World) (h1 : w.cell? ⟨b1, 0, none⟩ = some (fV 23)) (h2 : w.cell? ⟨b2, 0, none⟩ = some (fV fd)) (hV : VAt w g o [a]) :
    Calls Try.prog 41 #[.slice (some ⟨g, o, none⟩) 1 cap, ptr b1, ptr b2] w fun e w' => e = .returned (vV (numV (G a.n))) ∧ Below w.heap.size w w' := by
  have y0 := (hV 0 (by simp)).2
  rw [Nat.zero_mul, Nat.add_zero] at y0
  simp only [List.getElem_cons_zero] at y0 
  have l1 := World.block_lt_of_cell? w _ h1
  have l2 := World.block_lt_of_cell? w _ h2
  have l3 := World.block_lt_of_cell? w _ y0
  simp only at l1 l2 l3
  have b0 := (Below.refl w.heap.size w).alloc (Nat.le_refl _) (.cells c24 28)
  have X0 := hid (heap_alloc_new w (.cells c24 28))
  have S0 : Hid ((w.alloc (.cells c24 28)).cell? ⟨b1, 0, none⟩ = some (fV 23) ∧ (w.alloc (.cells c24 28)).cell? ⟨b2, 0, none⟩ = some (fV fd) ∧ (w.alloc (.cells c24 28)).cell? ⟨g, o + 1, none⟩ = some (.int .i64 a.n)) := hid ⟨cell_kept h1 b0, cell_kept h2 b0, cell_kept y0 b0⟩
  have B0 := hid b0
  have LL := hid (And.intro l1 (And.intro l2 l3))
  clear hV h1 h2 y0 b0 l1 l2 l3
  go_enter Try.func41, Try.ntmps41
  go_wp2_with (fail)
  refine wp_region_held_drew (S := fun W => W.cell? ⟨b1, 0, none⟩ = some (fV 23) ∧ W.cell? ⟨b2, 0, none⟩ = some (fV fd) ∧ W.cell? ⟨g, o + 1, none⟩ = some (.int .i64 a.n)) (by kernel_rfl) ?_ (fun hHeld => ?_)
  · exact S0.out
  refine wpAnyH_take (i := 0) (oi := { dst := some 5, op := Go.Op.load 42 (Go.Operand.tmp 1), type := 42, pos := _, after := #[], guard := none }) (v := ?_) rfl (by kernel_rfl) (by kernel_rfl) (by kernel_rfl) (fun _ _ _ h => h) (Or.inl ⟨by rfl, ?_⟩) (by assumption) ?_
  rotate_left
  · intro w hSw; (try dsimp only at hSw); go_simp <;> first | with_reducible rfl | (rw [if_neg (by first | omega | (simp only [ByteArray.size_append] at *; omega))])
  simp only [Act.put, List.setIfInBounds_toArray, List.set_cons_zero, List.set_cons_succ]
  refine wpAnyH_take (i := 1) (oi := { dst := some 6, op := Go.Op.load 50 (Go.Operand.tmp 2), type := 50, pos := _, after := #[], guard := none }) (v := ?_) rfl (by kernel_rfl) (by kernel_rfl) (by kernel_rfl) (fun _ _ _ h => h) (Or.inl ⟨by rfl, ?_⟩) (by assumption) ?_
  rotate_left
  · intro w hSw; (try dsimp only at hSw); go_simp <;> first | with_reducible rfl | (rw [if_neg (by first | omega | (simp only [ByteArray.size_append] at *; omega))])
  simp only [Act.put, List.setIfInBounds_toArray, List.set_cons_zero, List.set_cons_succ]
  refine wpAnyH_take (i := 2) (oi := { dst := some 7, op := Go.Op.move (Go.Operand.tmp 0), type := 23, pos := _, after := #[], guard := none }) (v := ?_) rfl (by kernel_rfl) (by kernel_rfl) (by kernel_rfl) (fun _ _ _ h => h) (Or.inl ⟨by rfl, ?_⟩) (by assumption) ?_
  rotate_left
  · intro w hSw; (try dsimp only at hSw); go_simp <;> first | with_reducible rfl | (rw [if_neg (by first | omega | (simp only [ByteArray.size_append] at *; omega))])
  simp only [Act.put, List.setIfInBounds_toArray, List.set_cons_zero, List.set_cons_succ]
  refine wpAnyH_take (i := 3) (oi := { dst := some 8, op := Go.Op.indexAddr 23 (Go.Operand.tmp 7) (Go.Operand.const (Go.Value.int Go.IntKind.i64 0)), type := 0, pos := _, after := #[{ on := 2, ground := Go.Ground.data }], guard := none }) (v := ?_) rfl (by kernel_rfl) (by kernel_rfl) (by kernel_rfl) (fun _ _ _ h => h) (Or.inl ⟨by rfl, ?_⟩) (by assumption) ?_
  rotate_left
  · intro w hSw; (try dsimp only at hSw); go_simp <;> first | with_reducible rfl | (rw [if_neg (by first | omega | (simp only [ByteArray.size_append] at *; omega))])
  simp only [Act.put, List.setIfInBounds_toArray, List.set_cons_zero, List.set_cons_succ]
  refine wpAnyH_take (i := 4) (oi := { dst := some 9, op := Go.Op.fieldAddr 28 (Go.Operand.tmp 8) 1, type := 0, pos := _, after := #[{ on := 3, ground := Go.Ground.data }], guard := none }) (v := ?_) rfl (by kernel_rfl) (by kernel_rfl) (by kernel_rfl) (fun _ _ _ h => h) (Or.inl ⟨by rfl, ?_⟩) (by assumption) ?_
  rotate_left
  · intro w hSw; (try dsimp only at hSw); go_simp <;> first | with_reducible rfl | (rw [if_neg (by first | omega | (simp only [ByteArray.size_append] at *; omega))])
  simp only [Act.put, List.setIfInBounds_toArray, List.set_cons_zero, List.set_cons_succ]
  refine wpAnyH_take (i := 5) (oi := { dst := some 10, op := Go.Op.load 2 (Go.Operand.tmp 9), type := 2, pos := _, after := #[{ on := 4, ground := Go.Ground.data }], guard := none }) (v := ?_) rfl (by kernel_rfl) (by kernel_rfl) (by kernel_rfl) (fun _ _ _ h => h) (Or.inl ⟨by rfl, ?_⟩) (by assumption) ?_
  rotate_left
  · intro w hSw; (try dsimp only at hSw); go_simp <;> first | with_reducible rfl | (rw [if_neg (by first | omega | (simp only [ByteArray.size_append] at *; omega))])
  simp only [Act.put, List.setIfInBounds_toArray, List.set_cons_zero, List.set_cons_succ]
  refine wpAnyH_ready (rs := [6]) (by kernel_rfl) (by simp) ?_
  refine AllReadyH.cons (o := { dst := some 11, op := Go.Op.call { callee := Go.Callee.value (Go.Operand.tmp 6), args := #[Go.Operand.tmp 10], argTypes := #[2] }, type := 2, pos := _, after := #[{ on := 1, ground := Go.Ground.data }, { on := 5, ground := Go.Ground.data }], guard := none }) rfl (fun K hK => ?_) AllReadyH.nil
  go_simp
  rw [hF, Oper.upon_enter]
  refine (c _ _).mono ?_
  rintro e w1 ⟨rfl, hw1⟩
  subst hw1
  go_wp2_with fail
  refine hK.out _ _ ?_ (fun hHeld1 => ?_)
  · exact S0.out
  clear hK K
  refine wpAnyH_ready (rs := [7]) (by kernel_rfl) (by simp) ?_
  refine AllReadyH.cons (o := { dst := some 12, op := Go.Op.call { callee := Go.Callee.value (Go.Operand.tmp 5), args := #[Go.Operand.tmp 11], argTypes := #[2] }, type := 28, pos := _, after := #[{ on := 0, ground := Go.Ground.data }, { on := 6, ground := Go.Ground.data }, { on := 6, ground := Go.Ground.chain }], guard := none }) rfl (fun K hK => ?_) AllReadyH.nil
  go_simp
  refine (number_at _ _).mono ?_
  rintro e w2 ⟨rfl, hb2⟩
  have H2 : Hid (Below (w.alloc (.cells c24 28)).heap.size (w.alloc (.cells c24 28)) w2) := hid ((Below.refl _ _).drew.trans (hb2.mono (by simp)))
  have S2 : Hid (w2.cell? ⟨b1, 0, none⟩ = some (fV 23) ∧ w2.cell? ⟨b2, 0, none⟩ = some (fV fd) ∧ w2.cell? ⟨g, o + 1, none⟩ = some (.int .i64 a.n)) := hid (by obtain ⟨s1, s2, s3⟩ := S0.out; exact ⟨cell_kept s1 H2.out, cell_kept s2 H2.out, cell_kept s3 H2.out⟩)
  clear hb2
  go_wp2_with fail
  refine hK.out _ _ ?_ (fun hHeld2 => ?_)
  · exact S2.out
  clear hK K
  refine wpAnyH_ready (rs := [8]) (by kernel_rfl) (by simp) ?_
  refine AllReadyH.cons (o := { dst := none, op := Go.Op.store 28 (Go.Operand.tmp 4) (Go.Operand.tmp 12), type := 0, pos := _, after := #[{ on := 7, ground := Go.Ground.data }, { on := 7, ground := Go.Ground.chain }, { on := 0, ground := Go.Ground.phase }, { on := 1, ground := Go.Ground.phase }, { on := 2, ground := Go.Ground.phase }, { on := 3, ground := Go.Ground.phase }, { on := 4, ground := Go.Ground.phase }, { on := 5, ground := Go.Ground.phase }, { on := 6, ground := Go.Ground.phase }, { on := 7, ground := Go.Ground.phase }], guard := none }) rfl (fun K hK => ?_) AllReadyH.nil
  refine if_take (by rfl) ?_
  have p3 := keep_row X0.out H2.out
  refine wp_store_row 28 _ _ rfl w.heap.size (vC (numV (G a.n))) rfl rfl 28 _ p3 info24 rfl (by simp [Value.oneCell']) ?_
  refine hK.out _ _ ?_ (fun _ => ?_)
  · obtain ⟨s1, s2, s3⟩ := S2.out
    exact ⟨setRow_cell (by have := LL.out; omega) s1, setRow_cell (by have := LL.out; omega) s2, setRow_cell (by have := LL.out; omega) s3⟩
  clear hK K
  refine wpAnyH_done (by kernel_rfl) ?_ _
  go_wp2
  exact bodyPost_ret (results_cell_row rfl _ _ w.heap.size 28 (vC (numV (G a.n))) (0, 0) _ rfl (setRow_heap _ _ _ _ _ _ p3) Try.underlying28 rfl info24) rfl ⟨rfl, below_row (B0.out.trans (H2.out.mono (by simp))) (B0.out.trans (H2.out.mono (by simp))).size (Nat.le_refl _) _⟩
set_option maxRecDepth 100000 in
set_option maxHeartbeats 1000000 in
theorem deed2n (fd : Nat) (hF : Plain fd) (G : Int → Int → Int) (c : ∀ a b w, Calls Try.prog fd #[.int .i64 a, .int .i64 b] w fun e w' => e = .returned (.int .i64 (G a b)) ∧ w' = w) (b1 b2 g o cap : Nat) (a b : Vl) (w : World) (h1 : w.cell? ⟨b1, 0, none⟩ = some (fV 23)) (h2 : w.cell? ⟨b2, 0, none⟩ = some (fV fd)) (hV : VAt w g o [a, b]) :
    Calls Try.prog 42 #[.slice (some ⟨g, o, none⟩) 2 cap, ptr b1, ptr b2] w fun e w' => e = .returned (vV (numV (G a.n b.n))) ∧ Below w.heap.size w w' := by
  have y0 := (hV 0 (by simp)).2
  rw [Nat.zero_mul, Nat.add_zero] at y0
  have y1 := (hV 1 (by simp)).2
  rw [Nat.one_mul] at y1
  simp only [List.getElem_cons_zero, List.getElem_cons_succ] at y0 y1
  have l1 := World.block_lt_of_cell? w _ h1
  have l2 := World.block_lt_of_cell? w _ h2
  have l3 := World.block_lt_of_cell? w _ y0
  simp only at l1 l2 l3
  have b0 := (Below.refl w.heap.size w).alloc (Nat.le_refl _) (.cells c24 28)
  have X0 := hid (heap_alloc_new w (.cells c24 28))
  have S0 : Hid ((w.alloc (.cells c24 28)).cell? ⟨b1, 0, none⟩ = some (fV 23) ∧ (w.alloc (.cells c24 28)).cell? ⟨b2, 0, none⟩ = some (fV fd) ∧ (w.alloc (.cells c24 28)).cell? ⟨g, o + 1, none⟩ = some (.int .i64 a.n) ∧ (w.alloc (.cells c24 28)).cell? ⟨g, o + 2 + 1, none⟩ = some (.int .i64 b.n)) := hid ⟨cell_kept h1 b0, cell_kept h2 b0, cell_kept y0 b0, cell_kept y1 b0⟩
  have B0 := hid b0
  have LL := hid (And.intro l1 (And.intro l2 l3))
  clear hV h1 h2 y0 y1 b0 l1 l2 l3
  go_enter Try.func42, Try.ntmps42
  go_wp2_with (fail)
  refine wp_region_held_drew (S := fun W => W.cell? ⟨b1, 0, none⟩ = some (fV 23) ∧ W.cell? ⟨b2, 0, none⟩ = some (fV fd) ∧ W.cell? ⟨g, o + 1, none⟩ = some (.int .i64 a.n) ∧ W.cell? ⟨g, o + 2 + 1, none⟩ = some (.int .i64 b.n)) (by kernel_rfl) ?_ (fun hHeld => ?_)
  · exact S0.out
  refine wpAnyH_take (i := 0) (oi := { dst := some 5, op := Go.Op.load 42 (Go.Operand.tmp 1), type := 42, pos := _, after := #[], guard := none }) (v := ?_) rfl (by kernel_rfl) (by kernel_rfl) (by kernel_rfl) (fun _ _ _ h => h) (Or.inl ⟨by rfl, ?_⟩) (by assumption) ?_
  rotate_left
  · intro w hSw; (try dsimp only at hSw); go_simp <;> first | with_reducible rfl | (rw [if_neg (by first | omega | (simp only [ByteArray.size_append] at *; omega))])
  simp only [Act.put, List.setIfInBounds_toArray, List.set_cons_zero, List.set_cons_succ]
  refine wpAnyH_take (i := 1) (oi := { dst := some 6, op := Go.Op.load 52 (Go.Operand.tmp 2), type := 52, pos := _, after := #[], guard := none }) (v := ?_) rfl (by kernel_rfl) (by kernel_rfl) (by kernel_rfl) (fun _ _ _ h => h) (Or.inl ⟨by rfl, ?_⟩) (by assumption) ?_
  rotate_left
  · intro w hSw; (try dsimp only at hSw); go_simp <;> first | with_reducible rfl | (rw [if_neg (by first | omega | (simp only [ByteArray.size_append] at *; omega))])
  simp only [Act.put, List.setIfInBounds_toArray, List.set_cons_zero, List.set_cons_succ]
  refine wpAnyH_take (i := 2) (oi := { dst := some 7, op := Go.Op.move (Go.Operand.tmp 0), type := 23, pos := _, after := #[], guard := none }) (v := ?_) rfl (by kernel_rfl) (by kernel_rfl) (by kernel_rfl) (fun _ _ _ h => h) (Or.inl ⟨by rfl, ?_⟩) (by assumption) ?_
  rotate_left
  · intro w hSw; (try dsimp only at hSw); go_simp <;> first | with_reducible rfl | (rw [if_neg (by first | omega | (simp only [ByteArray.size_append] at *; omega))])
  simp only [Act.put, List.setIfInBounds_toArray, List.set_cons_zero, List.set_cons_succ]
  refine wpAnyH_take (i := 3) (oi := { dst := some 8, op := Go.Op.indexAddr 23 (Go.Operand.tmp 7) (Go.Operand.const (Go.Value.int Go.IntKind.i64 0)), type := 0, pos := _, after := #[{ on := 2, ground := Go.Ground.data }], guard := none }) (v := ?_) rfl (by kernel_rfl) (by kernel_rfl) (by kernel_rfl) (fun _ _ _ h => h) (Or.inl ⟨by rfl, ?_⟩) (by assumption) ?_
  rotate_left
  · intro w hSw; (try dsimp only at hSw); go_simp <;> first | with_reducible rfl | (rw [if_neg (by first | omega | (simp only [ByteArray.size_append] at *; omega))])
  simp only [Act.put, List.setIfInBounds_toArray, List.set_cons_zero, List.set_cons_succ]
  refine wpAnyH_take (i := 4) (oi := { dst := some 9, op := Go.Op.fieldAddr 28 (Go.Operand.tmp 8) 1, type := 0, pos := _, after := #[{ on := 3, ground := Go.Ground.data }], guard := none }) (v := ?_) rfl (by kernel_rfl) (by kernel_rfl) (by kernel_rfl) (fun _ _ _ h => h) (Or.inl ⟨by rfl, ?_⟩) (by assumption) ?_
  rotate_left
  · intro w hSw; (try dsimp only at hSw); go_simp <;> first | with_reducible rfl | (rw [if_neg (by first | omega | (simp only [ByteArray.size_append] at *; omega))])
  simp only [Act.put, List.setIfInBounds_toArray, List.set_cons_zero, List.set_cons_succ]
  refine wpAnyH_take (i := 5) (oi := { dst := some 10, op := Go.Op.load 2 (Go.Operand.tmp 9), type := 2, pos := _, after := #[{ on := 4, ground := Go.Ground.data }], guard := none }) (v := ?_) rfl (by kernel_rfl) (by kernel_rfl) (by kernel_rfl) (fun _ _ _ h => h) (Or.inl ⟨by rfl, ?_⟩) (by assumption) ?_
  rotate_left
  · intro w hSw; (try dsimp only at hSw); go_simp <;> first | with_reducible rfl | (rw [if_neg (by first | omega | (simp only [ByteArray.size_append] at *; omega))])
  simp only [Act.put, List.setIfInBounds_toArray, List.set_cons_zero, List.set_cons_succ]
  refine wpAnyH_take (i := 6) (oi := { dst := some 11, op := Go.Op.move (Go.Operand.tmp 0), type := 23, pos := _, after := #[], guard := none }) (v := ?_) rfl (by kernel_rfl) (by kernel_rfl) (by kernel_rfl) (fun _ _ _ h => h) (Or.inl ⟨by rfl, ?_⟩) (by assumption) ?_
  rotate_left
  · intro w hSw; (try dsimp only at hSw); go_simp <;> first | with_reducible rfl | (rw [if_neg (by first | omega | (simp only [ByteArray.size_append] at *; omega))])
  simp only [Act.put, List.setIfInBounds_toArray, List.set_cons_zero, List.set_cons_succ]
  refine wpAnyH_take (i := 7) (oi := { dst := some 12, op := Go.Op.indexAddr 23 (Go.Operand.tmp 11) (Go.Operand.const (Go.Value.int Go.IntKind.i64 1)), type := 0, pos := _, after := #[{ on := 6, ground := Go.Ground.data }], guard := none }) (v := ?_) rfl (by kernel_rfl) (by kernel_rfl) (by kernel_rfl) (fun _ _ _ h => h) (Or.inl ⟨by rfl, ?_⟩) (by assumption) ?_
  rotate_left
  · intro w hSw; (try dsimp only at hSw); go_simp <;> first | with_reducible rfl | (rw [if_neg (by first | omega | (simp only [ByteArray.size_append] at *; omega))])
  simp only [Act.put, List.setIfInBounds_toArray, List.set_cons_zero, List.set_cons_succ]
  refine wpAnyH_take (i := 8) (oi := { dst := some 13, op := Go.Op.fieldAddr 28 (Go.Operand.tmp 12) 1, type := 0, pos := _, after := #[{ on := 7, ground := Go.Ground.data }], guard := none }) (v := ?_) rfl (by kernel_rfl) (by kernel_rfl) (by kernel_rfl) (fun _ _ _ h => h) (Or.inl ⟨by rfl, ?_⟩) (by assumption) ?_
  rotate_left
  · intro w hSw; (try dsimp only at hSw); go_simp <;> first | with_reducible rfl | (rw [if_neg (by first | omega | (simp only [ByteArray.size_append] at *; omega))])
  simp only [Act.put, List.setIfInBounds_toArray, List.set_cons_zero, List.set_cons_succ]
  refine wpAnyH_take (i := 9) (oi := { dst := some 14, op := Go.Op.load 2 (Go.Operand.tmp 13), type := 2, pos := _, after := #[{ on := 8, ground := Go.Ground.data }], guard := none }) (v := ?_) rfl (by kernel_rfl) (by kernel_rfl) (by kernel_rfl) (fun _ _ _ h => h) (Or.inl ⟨by rfl, ?_⟩) (by assumption) ?_
  rotate_left
  · intro w hSw; (try dsimp only at hSw); go_simp <;> first | with_reducible rfl | (rw [if_neg (by first | omega | (simp only [ByteArray.size_append] at *; omega))])
  simp only [Act.put, List.setIfInBounds_toArray, List.set_cons_zero, List.set_cons_succ]
  refine wpAnyH_ready (rs := [10]) (by kernel_rfl) (by simp) ?_
  refine AllReadyH.cons (o := { dst := some 15, op := Go.Op.call { callee := Go.Callee.value (Go.Operand.tmp 6), args := #[Go.Operand.tmp 10, Go.Operand.tmp 14], argTypes := #[2, 2] }, type := 2, pos := _, after := #[{ on := 1, ground := Go.Ground.data }, { on := 5, ground := Go.Ground.data }, { on := 9, ground := Go.Ground.data }], guard := none }) rfl (fun K hK => ?_) AllReadyH.nil
  go_simp
  rw [hF, Oper.upon_enter]
  refine (c _ _ _).mono ?_
  rintro e w1 ⟨rfl, hw1⟩
  subst hw1
  go_wp2_with fail
  refine hK.out _ _ ?_ (fun hHeld1 => ?_)
  · exact S0.out
  clear hK K
  refine wpAnyH_ready (rs := [11]) (by kernel_rfl) (by simp) ?_
  refine AllReadyH.cons (o := { dst := some 16, op := Go.Op.call { callee := Go.Callee.value (Go.Operand.tmp 5), args := #[Go.Operand.tmp 15], argTypes := #[2] }, type := 28, pos := _, after := #[{ on := 0, ground := Go.Ground.data }, { on := 10, ground := Go.Ground.data }, { on := 10, ground := Go.Ground.chain }], guard := none }) rfl (fun K hK => ?_) AllReadyH.nil
  go_simp
  refine (number_at _ _).mono ?_
  rintro e w2 ⟨rfl, hb2⟩
  have H2 : Hid (Below (w.alloc (.cells c24 28)).heap.size (w.alloc (.cells c24 28)) w2) := hid ((Below.refl _ _).drew.trans (hb2.mono (by simp)))
  have S2 : Hid (w2.cell? ⟨b1, 0, none⟩ = some (fV 23) ∧ w2.cell? ⟨b2, 0, none⟩ = some (fV fd) ∧ w2.cell? ⟨g, o + 1, none⟩ = some (.int .i64 a.n) ∧ w2.cell? ⟨g, o + 2 + 1, none⟩ = some (.int .i64 b.n)) := hid (by obtain ⟨s1, s2, s3, s4⟩ := S0.out; exact ⟨cell_kept s1 H2.out, cell_kept s2 H2.out, cell_kept s3 H2.out, cell_kept s4 H2.out⟩)
  clear hb2
  go_wp2_with fail
  refine hK.out _ _ ?_ (fun hHeld2 => ?_)
  · exact S2.out
  clear hK K
  refine wpAnyH_ready (rs := [12]) (by kernel_rfl) (by simp) ?_
  refine AllReadyH.cons (o := { dst := none, op := Go.Op.store 28 (Go.Operand.tmp 4) (Go.Operand.tmp 16), type := 0, pos := _, after := #[{ on := 11, ground := Go.Ground.data }, { on := 11, ground := Go.Ground.chain }, { on := 0, ground := Go.Ground.phase }, { on := 1, ground := Go.Ground.phase }, { on := 2, ground := Go.Ground.phase }, { on := 3, ground := Go.Ground.phase }, { on := 4, ground := Go.Ground.phase }, { on := 5, ground := Go.Ground.phase }, { on := 6, ground := Go.Ground.phase }, { on := 7, ground := Go.Ground.phase }, { on := 8, ground := Go.Ground.phase }, { on := 9, ground := Go.Ground.phase }, { on := 10, ground := Go.Ground.phase }, { on := 11, ground := Go.Ground.phase }], guard := none }) rfl (fun K hK => ?_) AllReadyH.nil
  refine if_take (by rfl) ?_
  have p3 := keep_row X0.out H2.out
  refine wp_store_row 28 _ _ rfl w.heap.size (vC (numV (G a.n b.n))) rfl rfl 28 _ p3 info24 rfl (by simp [Value.oneCell']) ?_
  refine hK.out _ _ ?_ (fun _ => ?_)
  · obtain ⟨s1, s2, s3, s4⟩ := S2.out
    exact ⟨setRow_cell (by have := LL.out; omega) s1, setRow_cell (by have := LL.out; omega) s2, setRow_cell (by have := LL.out; omega) s3, setRow_cell (by have := LL.out; omega) s4⟩
  clear hK K
  refine wpAnyH_done (by kernel_rfl) ?_ _
  go_wp2
  exact bodyPost_ret (results_cell_row rfl _ _ w.heap.size 28 (vC (numV (G a.n b.n))) (0, 0) _ rfl (setRow_heap _ _ _ _ _ _ p3) Try.underlying28 rfl info24) rfl ⟨rfl, below_row (B0.out.trans (H2.out.mono (by simp))) (B0.out.trans (H2.out.mono (by simp))).size (Nat.le_refl _) _⟩
set_option maxRecDepth 100000 in
set_option maxHeartbeats 1000000 in
theorem deed2b (fd : Nat) (hF : Plain fd) (G : Int → Int → Bool) (c : ∀ a b w, Calls Try.prog fd #[.int .i64 a, .int .i64 b] w fun e w' => e = .returned (.bool (G a b)) ∧ w' = w) (b1 b2 g o cap : Nat) (a b : Vl) (w : World) (h1 : w.cell? ⟨b1, 0, none⟩ = some (fV 32)) (h2 : w.cell? ⟨b2, 0, none⟩ = some (fV fd)) (hV : VAt w g o [a, b]) :
    Calls Try.prog 43 #[.slice (some ⟨g, o, none⟩) 2 cap, ptr b1, ptr b2] w fun e w' => e = .returned (vV (yesV (G a.n b.n))) ∧ Below w.heap.size w w' := by
  have y0 := (hV 0 (by simp)).2
  rw [Nat.zero_mul, Nat.add_zero] at y0
  have y1 := (hV 1 (by simp)).2
  rw [Nat.one_mul] at y1
  simp only [List.getElem_cons_zero, List.getElem_cons_succ] at y0 y1
  have l1 := World.block_lt_of_cell? w _ h1
  have l2 := World.block_lt_of_cell? w _ h2
  have l3 := World.block_lt_of_cell? w _ y0
  simp only at l1 l2 l3
  have b0 := (Below.refl w.heap.size w).alloc (Nat.le_refl _) (.cells c24 28)
  have X0 := hid (heap_alloc_new w (.cells c24 28))
  have S0 : Hid ((w.alloc (.cells c24 28)).cell? ⟨b1, 0, none⟩ = some (fV 32) ∧ (w.alloc (.cells c24 28)).cell? ⟨b2, 0, none⟩ = some (fV fd) ∧ (w.alloc (.cells c24 28)).cell? ⟨g, o + 1, none⟩ = some (.int .i64 a.n) ∧ (w.alloc (.cells c24 28)).cell? ⟨g, o + 2 + 1, none⟩ = some (.int .i64 b.n)) := hid ⟨cell_kept h1 b0, cell_kept h2 b0, cell_kept y0 b0, cell_kept y1 b0⟩
  have B0 := hid b0
  have LL := hid (And.intro l1 (And.intro l2 l3))
  clear hV h1 h2 y0 y1 b0 l1 l2 l3
  go_enter Try.func43, Try.ntmps43
  go_wp2_with (fail)
  refine wp_region_held_drew (S := fun W => W.cell? ⟨b1, 0, none⟩ = some (fV 32) ∧ W.cell? ⟨b2, 0, none⟩ = some (fV fd) ∧ W.cell? ⟨g, o + 1, none⟩ = some (.int .i64 a.n) ∧ W.cell? ⟨g, o + 2 + 1, none⟩ = some (.int .i64 b.n)) (by kernel_rfl) ?_ (fun hHeld => ?_)
  · exact S0.out
  refine wpAnyH_take (i := 0) (oi := { dst := some 5, op := Go.Op.load 43 (Go.Operand.tmp 1), type := 43, pos := _, after := #[], guard := none }) (v := ?_) rfl (by kernel_rfl) (by kernel_rfl) (by kernel_rfl) (fun _ _ _ h => h) (Or.inl ⟨by rfl, ?_⟩) (by assumption) ?_
  rotate_left
  · intro w hSw; (try dsimp only at hSw); go_simp <;> first | with_reducible rfl | (rw [if_neg (by first | omega | (simp only [ByteArray.size_append] at *; omega))])
  simp only [Act.put, List.setIfInBounds_toArray, List.set_cons_zero, List.set_cons_succ]
  refine wpAnyH_take (i := 1) (oi := { dst := some 6, op := Go.Op.load 54 (Go.Operand.tmp 2), type := 54, pos := _, after := #[], guard := none }) (v := ?_) rfl (by kernel_rfl) (by kernel_rfl) (by kernel_rfl) (fun _ _ _ h => h) (Or.inl ⟨by rfl, ?_⟩) (by assumption) ?_
  rotate_left
  · intro w hSw; (try dsimp only at hSw); go_simp <;> first | with_reducible rfl | (rw [if_neg (by first | omega | (simp only [ByteArray.size_append] at *; omega))])
  simp only [Act.put, List.setIfInBounds_toArray, List.set_cons_zero, List.set_cons_succ]
  refine wpAnyH_take (i := 2) (oi := { dst := some 7, op := Go.Op.move (Go.Operand.tmp 0), type := 23, pos := _, after := #[], guard := none }) (v := ?_) rfl (by kernel_rfl) (by kernel_rfl) (by kernel_rfl) (fun _ _ _ h => h) (Or.inl ⟨by rfl, ?_⟩) (by assumption) ?_
  rotate_left
  · intro w hSw; (try dsimp only at hSw); go_simp <;> first | with_reducible rfl | (rw [if_neg (by first | omega | (simp only [ByteArray.size_append] at *; omega))])
  simp only [Act.put, List.setIfInBounds_toArray, List.set_cons_zero, List.set_cons_succ]
  refine wpAnyH_take (i := 3) (oi := { dst := some 8, op := Go.Op.indexAddr 23 (Go.Operand.tmp 7) (Go.Operand.const (Go.Value.int Go.IntKind.i64 0)), type := 0, pos := _, after := #[{ on := 2, ground := Go.Ground.data }], guard := none }) (v := ?_) rfl (by kernel_rfl) (by kernel_rfl) (by kernel_rfl) (fun _ _ _ h => h) (Or.inl ⟨by rfl, ?_⟩) (by assumption) ?_
  rotate_left
  · intro w hSw; (try dsimp only at hSw); go_simp <;> first | with_reducible rfl | (rw [if_neg (by first | omega | (simp only [ByteArray.size_append] at *; omega))])
  simp only [Act.put, List.setIfInBounds_toArray, List.set_cons_zero, List.set_cons_succ]
  refine wpAnyH_take (i := 4) (oi := { dst := some 9, op := Go.Op.fieldAddr 28 (Go.Operand.tmp 8) 1, type := 0, pos := _, after := #[{ on := 3, ground := Go.Ground.data }], guard := none }) (v := ?_) rfl (by kernel_rfl) (by kernel_rfl) (by kernel_rfl) (fun _ _ _ h => h) (Or.inl ⟨by rfl, ?_⟩) (by assumption) ?_
  rotate_left
  · intro w hSw; (try dsimp only at hSw); go_simp <;> first | with_reducible rfl | (rw [if_neg (by first | omega | (simp only [ByteArray.size_append] at *; omega))])
  simp only [Act.put, List.setIfInBounds_toArray, List.set_cons_zero, List.set_cons_succ]
  refine wpAnyH_take (i := 5) (oi := { dst := some 10, op := Go.Op.load 2 (Go.Operand.tmp 9), type := 2, pos := _, after := #[{ on := 4, ground := Go.Ground.data }], guard := none }) (v := ?_) rfl (by kernel_rfl) (by kernel_rfl) (by kernel_rfl) (fun _ _ _ h => h) (Or.inl ⟨by rfl, ?_⟩) (by assumption) ?_
  rotate_left
  · intro w hSw; (try dsimp only at hSw); go_simp <;> first | with_reducible rfl | (rw [if_neg (by first | omega | (simp only [ByteArray.size_append] at *; omega))])
  simp only [Act.put, List.setIfInBounds_toArray, List.set_cons_zero, List.set_cons_succ]
  refine wpAnyH_take (i := 6) (oi := { dst := some 11, op := Go.Op.move (Go.Operand.tmp 0), type := 23, pos := _, after := #[], guard := none }) (v := ?_) rfl (by kernel_rfl) (by kernel_rfl) (by kernel_rfl) (fun _ _ _ h => h) (Or.inl ⟨by rfl, ?_⟩) (by assumption) ?_
  rotate_left
  · intro w hSw; (try dsimp only at hSw); go_simp <;> first | with_reducible rfl | (rw [if_neg (by first | omega | (simp only [ByteArray.size_append] at *; omega))])
  simp only [Act.put, List.setIfInBounds_toArray, List.set_cons_zero, List.set_cons_succ]
  refine wpAnyH_take (i := 7) (oi := { dst := some 12, op := Go.Op.indexAddr 23 (Go.Operand.tmp 11) (Go.Operand.const (Go.Value.int Go.IntKind.i64 1)), type := 0, pos := _, after := #[{ on := 6, ground := Go.Ground.data }], guard := none }) (v := ?_) rfl (by kernel_rfl) (by kernel_rfl) (by kernel_rfl) (fun _ _ _ h => h) (Or.inl ⟨by rfl, ?_⟩) (by assumption) ?_
  rotate_left
  · intro w hSw; (try dsimp only at hSw); go_simp <;> first | with_reducible rfl | (rw [if_neg (by first | omega | (simp only [ByteArray.size_append] at *; omega))])
  simp only [Act.put, List.setIfInBounds_toArray, List.set_cons_zero, List.set_cons_succ]
  refine wpAnyH_take (i := 8) (oi := { dst := some 13, op := Go.Op.fieldAddr 28 (Go.Operand.tmp 12) 1, type := 0, pos := _, after := #[{ on := 7, ground := Go.Ground.data }], guard := none }) (v := ?_) rfl (by kernel_rfl) (by kernel_rfl) (by kernel_rfl) (fun _ _ _ h => h) (Or.inl ⟨by rfl, ?_⟩) (by assumption) ?_
  rotate_left
  · intro w hSw; (try dsimp only at hSw); go_simp <;> first | with_reducible rfl | (rw [if_neg (by first | omega | (simp only [ByteArray.size_append] at *; omega))])
  simp only [Act.put, List.setIfInBounds_toArray, List.set_cons_zero, List.set_cons_succ]
  refine wpAnyH_take (i := 9) (oi := { dst := some 14, op := Go.Op.load 2 (Go.Operand.tmp 13), type := 2, pos := _, after := #[{ on := 8, ground := Go.Ground.data }], guard := none }) (v := ?_) rfl (by kernel_rfl) (by kernel_rfl) (by kernel_rfl) (fun _ _ _ h => h) (Or.inl ⟨by rfl, ?_⟩) (by assumption) ?_
  rotate_left
  · intro w hSw; (try dsimp only at hSw); go_simp <;> first | with_reducible rfl | (rw [if_neg (by first | omega | (simp only [ByteArray.size_append] at *; omega))])
  simp only [Act.put, List.setIfInBounds_toArray, List.set_cons_zero, List.set_cons_succ]
  refine wpAnyH_ready (rs := [10]) (by kernel_rfl) (by simp) ?_
  refine AllReadyH.cons (o := { dst := some 15, op := Go.Op.call { callee := Go.Callee.value (Go.Operand.tmp 6), args := #[Go.Operand.tmp 10, Go.Operand.tmp 14], argTypes := #[2, 2] }, type := 4, pos := _, after := #[{ on := 1, ground := Go.Ground.data }, { on := 5, ground := Go.Ground.data }, { on := 9, ground := Go.Ground.data }], guard := none }) rfl (fun K hK => ?_) AllReadyH.nil
  go_simp
  rw [hF, Oper.upon_enter]
  refine (c _ _ _).mono ?_
  rintro e w1 ⟨rfl, hw1⟩
  subst hw1
  go_wp2_with fail
  refine hK.out _ _ ?_ (fun hHeld1 => ?_)
  · exact S0.out
  clear hK K
  refine wpAnyH_ready (rs := [11]) (by kernel_rfl) (by simp) ?_
  refine AllReadyH.cons (o := { dst := some 16, op := Go.Op.call { callee := Go.Callee.value (Go.Operand.tmp 5), args := #[Go.Operand.tmp 15], argTypes := #[4] }, type := 28, pos := _, after := #[{ on := 0, ground := Go.Ground.data }, { on := 10, ground := Go.Ground.data }, { on := 10, ground := Go.Ground.chain }], guard := none }) rfl (fun K hK => ?_) AllReadyH.nil
  go_simp
  refine (truth_at _ _).mono ?_
  rintro e w2 ⟨rfl, hb2⟩
  have H2 : Hid (Below (w.alloc (.cells c24 28)).heap.size (w.alloc (.cells c24 28)) w2) := hid ((Below.refl _ _).drew.trans (hb2.mono (by simp)))
  have S2 : Hid (w2.cell? ⟨b1, 0, none⟩ = some (fV 32) ∧ w2.cell? ⟨b2, 0, none⟩ = some (fV fd) ∧ w2.cell? ⟨g, o + 1, none⟩ = some (.int .i64 a.n) ∧ w2.cell? ⟨g, o + 2 + 1, none⟩ = some (.int .i64 b.n)) := hid (by obtain ⟨s1, s2, s3, s4⟩ := S0.out; exact ⟨cell_kept s1 H2.out, cell_kept s2 H2.out, cell_kept s3 H2.out, cell_kept s4 H2.out⟩)
  clear hb2
  go_wp2_with fail
  refine hK.out _ _ ?_ (fun hHeld2 => ?_)
  · exact S2.out
  clear hK K
  refine wpAnyH_ready (rs := [12]) (by kernel_rfl) (by simp) ?_
  refine AllReadyH.cons (o := { dst := none, op := Go.Op.store 28 (Go.Operand.tmp 4) (Go.Operand.tmp 16), type := 0, pos := _, after := #[{ on := 11, ground := Go.Ground.data }, { on := 11, ground := Go.Ground.chain }, { on := 0, ground := Go.Ground.phase }, { on := 1, ground := Go.Ground.phase }, { on := 2, ground := Go.Ground.phase }, { on := 3, ground := Go.Ground.phase }, { on := 4, ground := Go.Ground.phase }, { on := 5, ground := Go.Ground.phase }, { on := 6, ground := Go.Ground.phase }, { on := 7, ground := Go.Ground.phase }, { on := 8, ground := Go.Ground.phase }, { on := 9, ground := Go.Ground.phase }, { on := 10, ground := Go.Ground.phase }, { on := 11, ground := Go.Ground.phase }], guard := none }) rfl (fun K hK => ?_) AllReadyH.nil
  refine if_take (by rfl) ?_
  have p3 := keep_row X0.out H2.out
  refine wp_store_row 28 _ _ rfl w.heap.size (vC (yesV (G a.n b.n))) rfl rfl 28 _ p3 info24 rfl (by simp [Value.oneCell']) ?_
  refine hK.out _ _ ?_ (fun _ => ?_)
  · obtain ⟨s1, s2, s3, s4⟩ := S2.out
    exact ⟨setRow_cell (by have := LL.out; omega) s1, setRow_cell (by have := LL.out; omega) s2, setRow_cell (by have := LL.out; omega) s3, setRow_cell (by have := LL.out; omega) s4⟩
  clear hK K
  refine wpAnyH_done (by kernel_rfl) ?_ _
  go_wp2
  exact bodyPost_ret (results_cell_row rfl _ _ w.heap.size 28 (vC (yesV (G a.n b.n))) (0, 0) _ rfl (setRow_heap _ _ _ _ _ _ p3) Try.underlying28 rfl info24) rfl ⟨rfl, below_row (B0.out.trans (H2.out.mono (by simp))) (B0.out.trans (H2.out.mono (by simp))).size (Nat.le_refl _) _⟩
set_option maxRecDepth 100000 in
set_option maxHeartbeats 1000000 in
theorem deed1b (fd : Nat) (hF : Plain fd) (G : Int → Bool) (c : ∀ a w, Calls Try.prog fd #[.int .i64 a] w fun e w' => e = .returned (.bool (G a)) ∧ w' = w) (b1 b2 g o cap : Nat) (a : Vl) (w : World) (h1 : w.cell? ⟨b1, 0, none⟩ = some (fV 32)) (h2 : w.cell? ⟨b2, 0, none⟩ = some (fV fd)) (hV : VAt w g o [a]) :
    Calls Try.prog 44 #[.slice (some ⟨g, o, none⟩) 1 cap, ptr b1, ptr b2] w fun e w' => e = .returned (vV (yesV (G a.n))) ∧ Below w.heap.size w w' := by
  have y0 := (hV 0 (by simp)).2
  rw [Nat.zero_mul, Nat.add_zero] at y0
  simp only [List.getElem_cons_zero] at y0 
  have l1 := World.block_lt_of_cell? w _ h1
  have l2 := World.block_lt_of_cell? w _ h2
  have l3 := World.block_lt_of_cell? w _ y0
  simp only at l1 l2 l3
  have b0 := (Below.refl w.heap.size w).alloc (Nat.le_refl _) (.cells c24 28)
  have X0 := hid (heap_alloc_new w (.cells c24 28))
  have S0 : Hid ((w.alloc (.cells c24 28)).cell? ⟨b1, 0, none⟩ = some (fV 32) ∧ (w.alloc (.cells c24 28)).cell? ⟨b2, 0, none⟩ = some (fV fd) ∧ (w.alloc (.cells c24 28)).cell? ⟨g, o + 1, none⟩ = some (.int .i64 a.n)) := hid ⟨cell_kept h1 b0, cell_kept h2 b0, cell_kept y0 b0⟩
  have B0 := hid b0
  have LL := hid (And.intro l1 (And.intro l2 l3))
  clear hV h1 h2 y0 b0 l1 l2 l3
  go_enter Try.func44, Try.ntmps44
  go_wp2_with (fail)
  refine wp_region_held_drew (S := fun W => W.cell? ⟨b1, 0, none⟩ = some (fV 32) ∧ W.cell? ⟨b2, 0, none⟩ = some (fV fd) ∧ W.cell? ⟨g, o + 1, none⟩ = some (.int .i64 a.n)) (by kernel_rfl) ?_ (fun hHeld => ?_)
  · exact S0.out
  refine wpAnyH_take (i := 0) (oi := { dst := some 5, op := Go.Op.load 43 (Go.Operand.tmp 1), type := 43, pos := _, after := #[], guard := none }) (v := ?_) rfl (by kernel_rfl) (by kernel_rfl) (by kernel_rfl) (fun _ _ _ h => h) (Or.inl ⟨by rfl, ?_⟩) (by assumption) ?_
  rotate_left
  · intro w hSw; (try dsimp only at hSw); go_simp <;> first | with_reducible rfl | (rw [if_neg (by first | omega | (simp only [ByteArray.size_append] at *; omega))])
  simp only [Act.put, List.setIfInBounds_toArray, List.set_cons_zero, List.set_cons_succ]
  refine wpAnyH_take (i := 1) (oi := { dst := some 6, op := Go.Op.load 56 (Go.Operand.tmp 2), type := 56, pos := _, after := #[], guard := none }) (v := ?_) rfl (by kernel_rfl) (by kernel_rfl) (by kernel_rfl) (fun _ _ _ h => h) (Or.inl ⟨by rfl, ?_⟩) (by assumption) ?_
  rotate_left
  · intro w hSw; (try dsimp only at hSw); go_simp <;> first | with_reducible rfl | (rw [if_neg (by first | omega | (simp only [ByteArray.size_append] at *; omega))])
  simp only [Act.put, List.setIfInBounds_toArray, List.set_cons_zero, List.set_cons_succ]
  refine wpAnyH_take (i := 2) (oi := { dst := some 7, op := Go.Op.move (Go.Operand.tmp 0), type := 23, pos := _, after := #[], guard := none }) (v := ?_) rfl (by kernel_rfl) (by kernel_rfl) (by kernel_rfl) (fun _ _ _ h => h) (Or.inl ⟨by rfl, ?_⟩) (by assumption) ?_
  rotate_left
  · intro w hSw; (try dsimp only at hSw); go_simp <;> first | with_reducible rfl | (rw [if_neg (by first | omega | (simp only [ByteArray.size_append] at *; omega))])
  simp only [Act.put, List.setIfInBounds_toArray, List.set_cons_zero, List.set_cons_succ]
  refine wpAnyH_take (i := 3) (oi := { dst := some 8, op := Go.Op.indexAddr 23 (Go.Operand.tmp 7) (Go.Operand.const (Go.Value.int Go.IntKind.i64 0)), type := 0, pos := _, after := #[{ on := 2, ground := Go.Ground.data }], guard := none }) (v := ?_) rfl (by kernel_rfl) (by kernel_rfl) (by kernel_rfl) (fun _ _ _ h => h) (Or.inl ⟨by rfl, ?_⟩) (by assumption) ?_
  rotate_left
  · intro w hSw; (try dsimp only at hSw); go_simp <;> first | with_reducible rfl | (rw [if_neg (by first | omega | (simp only [ByteArray.size_append] at *; omega))])
  simp only [Act.put, List.setIfInBounds_toArray, List.set_cons_zero, List.set_cons_succ]
  refine wpAnyH_take (i := 4) (oi := { dst := some 9, op := Go.Op.fieldAddr 28 (Go.Operand.tmp 8) 1, type := 0, pos := _, after := #[{ on := 3, ground := Go.Ground.data }], guard := none }) (v := ?_) rfl (by kernel_rfl) (by kernel_rfl) (by kernel_rfl) (fun _ _ _ h => h) (Or.inl ⟨by rfl, ?_⟩) (by assumption) ?_
  rotate_left
  · intro w hSw; (try dsimp only at hSw); go_simp <;> first | with_reducible rfl | (rw [if_neg (by first | omega | (simp only [ByteArray.size_append] at *; omega))])
  simp only [Act.put, List.setIfInBounds_toArray, List.set_cons_zero, List.set_cons_succ]
  refine wpAnyH_take (i := 5) (oi := { dst := some 10, op := Go.Op.load 2 (Go.Operand.tmp 9), type := 2, pos := _, after := #[{ on := 4, ground := Go.Ground.data }], guard := none }) (v := ?_) rfl (by kernel_rfl) (by kernel_rfl) (by kernel_rfl) (fun _ _ _ h => h) (Or.inl ⟨by rfl, ?_⟩) (by assumption) ?_
  rotate_left
  · intro w hSw; (try dsimp only at hSw); go_simp <;> first | with_reducible rfl | (rw [if_neg (by first | omega | (simp only [ByteArray.size_append] at *; omega))])
  simp only [Act.put, List.setIfInBounds_toArray, List.set_cons_zero, List.set_cons_succ]
  refine wpAnyH_ready (rs := [6]) (by kernel_rfl) (by simp) ?_
  refine AllReadyH.cons (o := { dst := some 11, op := Go.Op.call { callee := Go.Callee.value (Go.Operand.tmp 6), args := #[Go.Operand.tmp 10], argTypes := #[2] }, type := 4, pos := _, after := #[{ on := 1, ground := Go.Ground.data }, { on := 5, ground := Go.Ground.data }], guard := none }) rfl (fun K hK => ?_) AllReadyH.nil
  go_simp
  rw [hF, Oper.upon_enter]
  refine (c _ _).mono ?_
  rintro e w1 ⟨rfl, hw1⟩
  subst hw1
  go_wp2_with fail
  refine hK.out _ _ ?_ (fun hHeld1 => ?_)
  · exact S0.out
  clear hK K
  refine wpAnyH_ready (rs := [7]) (by kernel_rfl) (by simp) ?_
  refine AllReadyH.cons (o := { dst := some 12, op := Go.Op.call { callee := Go.Callee.value (Go.Operand.tmp 5), args := #[Go.Operand.tmp 11], argTypes := #[4] }, type := 28, pos := _, after := #[{ on := 0, ground := Go.Ground.data }, { on := 6, ground := Go.Ground.data }, { on := 6, ground := Go.Ground.chain }], guard := none }) rfl (fun K hK => ?_) AllReadyH.nil
  go_simp
  refine (truth_at _ _).mono ?_
  rintro e w2 ⟨rfl, hb2⟩
  have H2 : Hid (Below (w.alloc (.cells c24 28)).heap.size (w.alloc (.cells c24 28)) w2) := hid ((Below.refl _ _).drew.trans (hb2.mono (by simp)))
  have S2 : Hid (w2.cell? ⟨b1, 0, none⟩ = some (fV 32) ∧ w2.cell? ⟨b2, 0, none⟩ = some (fV fd) ∧ w2.cell? ⟨g, o + 1, none⟩ = some (.int .i64 a.n)) := hid (by obtain ⟨s1, s2, s3⟩ := S0.out; exact ⟨cell_kept s1 H2.out, cell_kept s2 H2.out, cell_kept s3 H2.out⟩)
  clear hb2
  go_wp2_with fail
  refine hK.out _ _ ?_ (fun hHeld2 => ?_)
  · exact S2.out
  clear hK K
  refine wpAnyH_ready (rs := [8]) (by kernel_rfl) (by simp) ?_
  refine AllReadyH.cons (o := { dst := none, op := Go.Op.store 28 (Go.Operand.tmp 4) (Go.Operand.tmp 12), type := 0, pos := _, after := #[{ on := 7, ground := Go.Ground.data }, { on := 7, ground := Go.Ground.chain }, { on := 0, ground := Go.Ground.phase }, { on := 1, ground := Go.Ground.phase }, { on := 2, ground := Go.Ground.phase }, { on := 3, ground := Go.Ground.phase }, { on := 4, ground := Go.Ground.phase }, { on := 5, ground := Go.Ground.phase }, { on := 6, ground := Go.Ground.phase }, { on := 7, ground := Go.Ground.phase }], guard := none }) rfl (fun K hK => ?_) AllReadyH.nil
  refine if_take (by rfl) ?_
  have p3 := keep_row X0.out H2.out
  refine wp_store_row 28 _ _ rfl w.heap.size (vC (yesV (G a.n))) rfl rfl 28 _ p3 info24 rfl (by simp [Value.oneCell']) ?_
  refine hK.out _ _ ?_ (fun _ => ?_)
  · obtain ⟨s1, s2, s3⟩ := S2.out
    exact ⟨setRow_cell (by have := LL.out; omega) s1, setRow_cell (by have := LL.out; omega) s2, setRow_cell (by have := LL.out; omega) s3⟩
  clear hK K
  refine wpAnyH_done (by kernel_rfl) ?_ _
  go_wp2
  exact bodyPost_ret (results_cell_row rfl _ _ w.heap.size 28 (vC (yesV (G a.n))) (0, 0) _ rfl (setRow_heap _ _ _ _ _ _ p3) Try.underlying28 rfl info24) rfl ⟨rfl, below_row (B0.out.trans (H2.out.mono (by simp))) (B0.out.trans (H2.out.mono (by simp))).size (Nat.le_refl _) _⟩
end Go.Proofs.Ytkniacdfhajogaa.Val
