/-
  Tables: the same slots, a table's twin, a table as it was.
-/
import Derived.Test.YtobmnndimlhfpaaGreatDoorLftInt
import Derived.Test.YtobmnndimlhfpaaGreatDoorLftSlot
namespace Go.Proofs.YtobmnndimlhfpaaGreatDoor.Slo
set_option linter.unusedVariables false
open Go.ChangeShapes Go.WideShapes Go.ChangeAt Go.RowKit Go.Joins
set_option maxRecDepth 100000 in
set_option maxHeartbeats 4000000 in
theorem same_slots (W : World) (u v : Value) (l : List Sl) (hu : SlR W W.heap.size u l) (hv : SlR W W.heap.size v l) : Calls Tryz.prog 27 #[u, v] W fun e w' => e = .returned (.bool true) ∧ Below W.heap.size W w' := by
  obtain ⟨ao, c, rfl, hle, hcc, hcs⟩ := hu
  obtain ⟨ao2, c2, rfl, hle2, hcc2, hcs2⟩ := hv
  have HC := hid hcs
  have HC2 := hid hcs2
  clear hcs hcs2
  go_enter Tryz.func27, Tryz.ntmps27
  go_wp2_with (fail)
  go_loopw [5] (fun s5 wr => ∃ k : Nat, k ≤ l.length ∧ s5 = .int .i64 (k : Int) ∧ Hid (Below W.heap.size W wr)) (fun s5 _ => l.length - (intOf s5).toNat)
  case atStart => exact ⟨0, by omega, rfl, hid (Below.refl _ _)⟩
  case round =>
    obtain ⟨k, hk, rfl, HB⟩ := hrel
    by_cases hlt : k < l.length
    · have hlt' : (k : Int) < (l.length : Int) := by omega
      have hk0 : (0 : Int) ≤ (k : Int) := by omega
      obtain ⟨b, o, rfl, hb, hc⟩ := HC.out.resolve_left (by intro e; rw [e] at hlt; simp at hlt)
      obtain ⟨b2, o2, rfl, hb2, hc2⟩ := HC2.out.resolve_left (by intro e; rw [e] at hlt; simp at hlt)
      obtain ⟨p0, p1, p2⟩ := hc k hlt
      obtain ⟨q0, q1, q2⟩ := hc2 k hlt
      have a0 := (HB.out.cell (p := ⟨b, _, none⟩) hb).trans p0
      have a1 := (HB.out.cell (p := ⟨b, _, none⟩) hb).trans p1
      have a2 := (HB.out.cell (p := ⟨b, _, none⟩) hb).trans p2
      have b0 := (HB.out.cell (p := ⟨b2, _, none⟩) hb2).trans q0
      have b1 := (HB.out.cell (p := ⟨b2, _, none⟩) hb2).trans q1
      have b2' := (HB.out.cell (p := ⟨b2, _, none⟩) hb2).trans q2
      clear hc hc2 p0 p1 p2 q0 q1 q2
      generalize sO l k = z0 at *
      generalize sS l k = z1 at *
      generalize sH l k = z2 at *
      go_wp2_with (fail)
      refine wp_region_held_drew (S := fun V => V.cell? ⟨b, o + k * 3, none⟩ = some (.int .i64 z0) ∧ V.cell? ⟨b, o + k * 3 + 1, none⟩ = some (.int .i64 z1) ∧ V.cell? ⟨b, o + k * 3 + 2, none⟩ = some (.int .i64 z2) ∧ V.cell? ⟨b2, o2 + k * 3, none⟩ = some (.int .i64 z0) ∧ V.cell? ⟨b2, o2 + k * 3 + 1, none⟩ = some (.int .i64 z1) ∧ V.cell? ⟨b2, o2 + k * 3 + 2, none⟩ = some (.int .i64 z2)) (by kernel_rfl) ?_ (fun hHeld => ?_)
      · exact ⟨a0, a1, a2, b0, b1, b2'⟩
      refine wpAnyH_take (i := 0) (oi := { dst := some 17, op := Go.Op.move (Go.Operand.tmp 0), type := 25, pos := _, after := #[], guard := none }) (v := ?_) rfl (by kernel_rfl) (by kernel_rfl) (by kernel_rfl) (fun _ _ _ h => h) (Or.inl ⟨by rfl, ?_⟩) (by assumption) ?_
      rotate_left
      · intro w hSw; (try dsimp only at hSw); go_simp <;> first | with_reducible rfl | (rw [if_neg (by first | omega | (simp only [ByteArray.size_append] at *; omega))])
      simp only [Act.put, List.setIfInBounds_toArray, List.set_cons_zero, List.set_cons_succ]
      refine wpAnyH_take (i := 1) (oi := { dst := some 18, op := Go.Op.move (Go.Operand.tmp 5), type := 3, pos := _, after := #[], guard := none }) (v := ?_) rfl (by kernel_rfl) (by kernel_rfl) (by kernel_rfl) (fun _ _ _ h => h) (Or.inl ⟨by rfl, ?_⟩) (by assumption) ?_
      rotate_left
      · intro w hSw; (try dsimp only at hSw); go_simp <;> first | with_reducible rfl | (rw [if_neg (by first | omega | (simp only [ByteArray.size_append] at *; omega))])
      simp only [Act.put, List.setIfInBounds_toArray, List.set_cons_zero, List.set_cons_succ]
      refine wpAnyH_take (i := 2) (oi := { dst := some 19, op := Go.Op.indexAddr 25 (Go.Operand.tmp 17) (Go.Operand.tmp 18), type := 0, pos := _, after := #[{ on := 0, ground := Go.Ground.data }, { on := 1, ground := Go.Ground.data }], guard := none }) (v := ?_) rfl (by kernel_rfl) (by kernel_rfl) (by kernel_rfl) (fun _ _ _ h => h) (Or.inl ⟨by rfl, ?_⟩) (by assumption) ?_
      rotate_left
      · intro w hSw; (try dsimp only at hSw); go_simp <;> first | with_reducible rfl | (rw [if_neg (by first | omega | (simp only [ByteArray.size_append] at *; omega))])
      simp only [Act.put, List.setIfInBounds_toArray, List.set_cons_zero, List.set_cons_succ]
      refine wpAnyH_take (i := 3) (oi := { dst := some 20, op := Go.Op.load 64 (Go.Operand.tmp 19), type := 64, pos := _, after := #[{ on := 2, ground := Go.Ground.data }], guard := none }) (v := ?_) rfl (by kernel_rfl) (by kernel_rfl) (by kernel_rfl) (fun _ _ _ h => h) (Or.inl ⟨by rfl, ?_⟩) (by assumption) ?_
      rotate_left
      · intro w hSw; (try dsimp only at hSw); go_simp <;> first | with_reducible rfl | (rw [if_neg (by first | omega | (simp only [ByteArray.size_append] at *; omega))])
      simp only [Act.put, List.setIfInBounds_toArray, List.set_cons_zero, List.set_cons_succ]
      refine wpAnyH_take (i := 4) (oi := { dst := some 21, op := Go.Op.move (Go.Operand.tmp 1), type := 25, pos := _, after := #[], guard := none }) (v := ?_) rfl (by kernel_rfl) (by kernel_rfl) (by kernel_rfl) (fun _ _ _ h => h) (Or.inl ⟨by rfl, ?_⟩) (by assumption) ?_
      rotate_left
      · intro w hSw; (try dsimp only at hSw); go_simp <;> first | with_reducible rfl | (rw [if_neg (by first | omega | (simp only [ByteArray.size_append] at *; omega))])
      simp only [Act.put, List.setIfInBounds_toArray, List.set_cons_zero, List.set_cons_succ]
      refine wpAnyH_take (i := 5) (oi := { dst := some 22, op := Go.Op.move (Go.Operand.tmp 5), type := 3, pos := _, after := #[], guard := none }) (v := ?_) rfl (by kernel_rfl) (by kernel_rfl) (by kernel_rfl) (fun _ _ _ h => h) (Or.inl ⟨by rfl, ?_⟩) (by assumption) ?_
      rotate_left
      · intro w hSw; (try dsimp only at hSw); go_simp <;> first | with_reducible rfl | (rw [if_neg (by first | omega | (simp only [ByteArray.size_append] at *; omega))])
      simp only [Act.put, List.setIfInBounds_toArray, List.set_cons_zero, List.set_cons_succ]
      refine wpAnyH_take (i := 6) (oi := { dst := some 23, op := Go.Op.indexAddr 25 (Go.Operand.tmp 21) (Go.Operand.tmp 22), type := 0, pos := _, after := #[{ on := 4, ground := Go.Ground.data }, { on := 5, ground := Go.Ground.data }], guard := none }) (v := ?_) rfl (by kernel_rfl) (by kernel_rfl) (by kernel_rfl) (fun _ _ _ h => h) (Or.inl ⟨by rfl, ?_⟩) (by assumption) ?_
      rotate_left
      · intro w hSw; (try dsimp only at hSw); go_simp <;> first | with_reducible rfl | (rw [if_neg (by first | omega | (simp only [ByteArray.size_append] at *; omega))])
      simp only [Act.put, List.setIfInBounds_toArray, List.set_cons_zero, List.set_cons_succ]
      refine wpAnyH_take (i := 7) (oi := { dst := some 24, op := Go.Op.load 64 (Go.Operand.tmp 23), type := 64, pos := _, after := #[{ on := 6, ground := Go.Ground.data }], guard := none }) (v := ?_) rfl (by kernel_rfl) (by kernel_rfl) (by kernel_rfl) (fun _ _ _ h => h) (Or.inl ⟨by rfl, ?_⟩) (by assumption) ?_
      rotate_left
      · intro w hSw; (try dsimp only at hSw); go_simp <;> first | with_reducible rfl | (rw [if_neg (by first | omega | (simp only [ByteArray.size_append] at *; omega))])
      simp only [Act.put, List.setIfInBounds_toArray, List.set_cons_zero, List.set_cons_succ]
      refine wpAnyH_take (i := 8) (oi := { dst := some 25, op := Go.Op.binOp Go.BinOp.neq 64 (Go.Operand.tmp 20) (Go.Operand.tmp 24) 64, type := 4, pos := _, after := #[{ on := 3, ground := Go.Ground.data }, { on := 7, ground := Go.Ground.data }], guard := none }) (v := ?_) rfl (by kernel_rfl) (by kernel_rfl) (by kernel_rfl) (fun _ _ _ h => h) (Or.inl ⟨by rfl, ?_⟩) (by assumption) ?_
      rotate_left
      · intro w hSw; (try dsimp only at hSw); go_simp <;> first | with_reducible rfl | (rw [if_neg (by first | omega | (simp only [ByteArray.size_append] at *; omega))])
      simp only [Act.put, List.setIfInBounds_toArray, List.set_cons_zero, List.set_cons_succ]
      refine wpAnyH_done (by kernel_rfl) ?_ _
      go_wp2_with (fail)
      go_roundw
      case rel => exact ⟨k + 1, by omega, by go_num, hid HB.out.drew⟩
      case measure => simp [intOf]; omega
    · have hlt' : ¬ (k : Int) < (l.length : Int) := by omega
      go_wp2_with (fail)
      go_ret
      exact ⟨rfl, HB.out⟩
set_option maxHeartbeats 4000000 in
theorem same_table (W : World) (u v : Value) (l : List Sl) (R G : Int) (hu : SlR W W.heap.size u l) (hv : SlR W W.heap.size v l) : Calls Tryz.prog 9 #[.agg (tbC u R G), .agg (tbC v R G)] W fun e w' => e = .returned (.bool true) ∧ Below W.heap.size W w' := by
  have HU := hid hu
  have HV := hid hv
  obtain ⟨ao, c, rfl, _⟩ := hu
  obtain ⟨ao2, c2, rfl, _⟩ := hv
  have H1 : Hid (((W.alloc (.cells (tbC (.slice ao l.length c) R G) 27)).alloc (.cells (tbC (.slice ao2 l.length c2) R G) 27)).heap[W.heap.size]? = some (.cells (tbC (.slice ao l.length c) R G) 27 (0, 0)) ∧ ((W.alloc (.cells (tbC (.slice ao l.length c) R G) 27)).alloc (.cells (tbC (.slice ao2 l.length c2) R G) 27)).heap[W.heap.size + 1]? = some (.cells (tbC (.slice ao2 l.length c2) R G) 27 (0, 0)) ∧ Below W.heap.size W ((W.alloc (.cells (tbC (.slice ao l.length c) R G) 27)).alloc (.cells (tbC (.slice ao2 l.length c2) R G) 27))) := hid ⟨push_old (push_new W _ _ rfl), push_new _ _ _ (by simp), bstep (balloc _ _) (balloc _ _)⟩
  go_enter Tryz.func9, Tryz.ntmps9
  go_wp2_with (fail)
  refine (same_slots _ _ _ l (HU.out.keepW H1.out.2.2) (HV.out.keepW H1.out.2.2)).mono ?_
  rintro e w2 ⟨rfl, hb⟩
  have H2 := hid (And.intro (keep_row H1.out.1 hb) (And.intro (keep_row H1.out.2.1 hb) (H1.out.2.2.trans (hb.mono H1.out.2.2.size))))
  clear hb H1
  obtain ⟨x0, x1, x2⟩ := tb_cells H2.out.1
  obtain ⟨y0, y1, y2⟩ := tb_cells H2.out.2.1
  go_wp2_with (fail)
  go_ret
  exact ⟨rfl, H2.out.2.2⟩
set_option maxHeartbeats 4000000 in
theorem left_table (W : World) (base : Nat) (u v : Value) (l : List Sl) (R G : Int) (hu : TwSlot W base u l) (hv : SlR W W.heap.size v l) (hl : l.length ≤ 1048576) : Calls Tryz.prog 17 #[.agg (tbC u R G), .agg (tbC v R G)] W fun e w' => e = .returned (.bool true) ∧ Below W.heap.size W w' := by
  have HV := hid hv
  obtain ⟨g, cap, rfl, hown⟩ := hu
  obtain ⟨ao2, c2, rfl, _⟩ := hv
  have HO := hid hown
  have H1 : Hid (((W.alloc (.cells (tbC (.slice (some ⟨g, 0, none⟩) l.length cap) R G) 27)).alloc (.cells (tbC (.slice ao2 l.length c2) R G) 27)).heap[W.heap.size]? = some (.cells (tbC (.slice (some ⟨g, 0, none⟩) l.length cap) R G) 27 (0, 0)) ∧ ((W.alloc (.cells (tbC (.slice (some ⟨g, 0, none⟩) l.length cap) R G) 27)).alloc (.cells (tbC (.slice ao2 l.length c2) R G) 27)).heap[W.heap.size + 1]? = some (.cells (tbC (.slice ao2 l.length c2) R G) 27 (0, 0)) ∧ Below W.heap.size W ((W.alloc (.cells (tbC (.slice (some ⟨g, 0, none⟩) l.length cap) R G) 27)).alloc (.cells (tbC (.slice ao2 l.length c2) R G) 27))) := hid ⟨push_old (push_new W _ _ rfl), push_new _ _ _ (by simp), bstep (balloc _ _) (balloc _ _)⟩
  go_enter Tryz.func17, Tryz.ntmps17
  go_wp2_with (fail)
  refine (left_Slot _ base _ _ l ⟨g, cap, rfl, own_carry HO.out (fun b e => H1.out.2.2.block b (own_lo HO.out b e).2)⟩ (HV.out.keepW H1.out.2.2) hl).mono ?_
  rintro e w2 ⟨rfl, hb⟩
  have H2 := hid (And.intro (keep_row H1.out.1 hb) (And.intro (keep_row H1.out.2.1 hb) (H1.out.2.2.trans (hb.mono H1.out.2.2.size))))
  clear hb H1 hown
  obtain ⟨x0, x1, x2⟩ := tb_cells H2.out.1
  obtain ⟨y0, y1, y2⟩ := tb_cells H2.out.2.1
  go_wp2_with (fail)
  go_ret
  exact ⟨rfl, H2.out.2.2⟩
set_option maxRecDepth 100000 in
set_option maxHeartbeats 4000000 in
theorem twin_table (W : World) (u : Value) (l : List Sl) (R G : Int) (hu : SlR W W.heap.size u l) (hl : l.length ≤ 1048576) : Calls Tryz.prog 6 #[.agg (tbC u R G)] W fun e w' => ∃ u2, e = .returned (.agg (tbC u2 R G)) ∧ TwSlot w' W.heap.size u2 l ∧ Below W.heap.size W w' := by
  have HL := hid hu
  obtain ⟨ao, c, rfl, _⟩ := hu
  have H1 : Hid (((W.alloc (.cells (tbC (.slice ao l.length c) R G) 27)).alloc (.cells tC0 27)).heap[W.heap.size]? = some (.cells (tbC (.slice ao l.length c) R G) 27 (0, 0)) ∧ ((W.alloc (.cells (tbC (.slice ao l.length c) R G) 27)).alloc (.cells tC0 27)).heap[W.heap.size + 1]? = some (.cells tC0 27 (0, 0)) ∧ Below W.heap.size W ((W.alloc (.cells (tbC (.slice ao l.length c) R G) 27)).alloc (.cells tC0 27))) := hid ⟨push_old (push_new W _ _ rfl), push_new _ _ _ (by simp), bstep (balloc _ _) (balloc _ _)⟩
  go_enter Tryz.func6, Tryz.ntmps6
  go_wp2_with (fail)
  generalize ((W.alloc (.cells (tbC (.slice ao l.length c) R G) 27)).alloc (.cells tC0 27)) = W1 at *
  obtain ⟨y0, y1, y2⟩ := tb_cells H1.out.1
  refine wp_region_held_drew (S := fun V => V.cell? ⟨W.heap.size, 0, none⟩ = some (.slice ao l.length c) ∧ V.cell? ⟨W.heap.size, 1, none⟩ = some (.int .i64 R) ∧ V.cell? ⟨W.heap.size, 2, none⟩ = some (.int .i64 G)) (by kernel_rfl) ?_ (fun hHeld => ?_)
  · exact ⟨y0, y1, y2⟩
  refine wpAnyH_take (i := 0) (oi := { dst := some 3, op := Go.Op.fieldAddr 27 (Go.Operand.tmp 1) 0, type := 0, pos := _, after := #[], guard := none }) (v := ?_) rfl (by kernel_rfl) (by kernel_rfl) (by kernel_rfl) (fun _ _ _ h => h) (Or.inl ⟨by rfl, ?_⟩) (by assumption) ?_
  rotate_left
  · intro w hSw; (try dsimp only at hSw); go_simp <;> first | with_reducible rfl | (rw [if_neg (by first | omega | (simp only [ByteArray.size_append] at *; omega))])
  simp only [Act.put, List.setIfInBounds_toArray, List.set_cons_zero, List.set_cons_succ]
  refine wpAnyH_take (i := 1) (oi := { dst := some 4, op := Go.Op.load 25 (Go.Operand.tmp 3), type := 25, pos := _, after := #[{ on := 0, ground := Go.Ground.data }], guard := none }) (v := ?_) rfl (by kernel_rfl) (by kernel_rfl) (by kernel_rfl) (fun _ _ _ h => h) (Or.inl ⟨by rfl, ?_⟩) (by assumption) ?_
  rotate_left
  · intro w hSw; (try dsimp only at hSw); go_simp <;> first | with_reducible rfl | (rw [if_neg (by first | omega | (simp only [ByteArray.size_append] at *; omega))])
  simp only [Act.put, List.setIfInBounds_toArray, List.set_cons_zero, List.set_cons_succ]
  refine wpAnyH_take (i := 3) (oi := { dst := some 6, op := Go.Op.fieldAddr 27 (Go.Operand.tmp 1) 1, type := 0, pos := _, after := #[], guard := none }) (v := ?_) rfl (by kernel_rfl) (by kernel_rfl) (by kernel_rfl) (fun _ _ _ h => h) (Or.inl ⟨by rfl, ?_⟩) (by assumption) ?_
  rotate_left
  · intro w hSw; (try dsimp only at hSw); go_simp <;> first | with_reducible rfl | (rw [if_neg (by first | omega | (simp only [ByteArray.size_append] at *; omega))])
  simp only [Act.put, List.setIfInBounds_toArray, List.set_cons_zero, List.set_cons_succ]
  refine wpAnyH_take (i := 4) (oi := { dst := some 7, op := Go.Op.load 3 (Go.Operand.tmp 6), type := 3, pos := _, after := #[{ on := 3, ground := Go.Ground.data }], guard := none }) (v := ?_) rfl (by kernel_rfl) (by kernel_rfl) (by kernel_rfl) (fun _ _ _ h => h) (Or.inl ⟨by rfl, ?_⟩) (by assumption) ?_
  rotate_left
  · intro w hSw; (try dsimp only at hSw); go_simp <;> first | with_reducible rfl | (rw [if_neg (by first | omega | (simp only [ByteArray.size_append] at *; omega))])
  simp only [Act.put, List.setIfInBounds_toArray, List.set_cons_zero, List.set_cons_succ]
  refine wpAnyH_take (i := 5) (oi := { dst := some 8, op := Go.Op.fieldAddr 27 (Go.Operand.tmp 1) 2, type := 0, pos := _, after := #[], guard := none }) (v := ?_) rfl (by kernel_rfl) (by kernel_rfl) (by kernel_rfl) (fun _ _ _ h => h) (Or.inl ⟨by rfl, ?_⟩) (by assumption) ?_
  rotate_left
  · intro w hSw; (try dsimp only at hSw); go_simp <;> first | with_reducible rfl | (rw [if_neg (by first | omega | (simp only [ByteArray.size_append] at *; omega))])
  simp only [Act.put, List.setIfInBounds_toArray, List.set_cons_zero, List.set_cons_succ]
  refine wpAnyH_take (i := 6) (oi := { dst := some 9, op := Go.Op.load 3 (Go.Operand.tmp 8), type := 3, pos := _, after := #[{ on := 5, ground := Go.Ground.data }], guard := none }) (v := ?_) rfl (by kernel_rfl) (by kernel_rfl) (by kernel_rfl) (fun _ _ _ h => h) (Or.inl ⟨by rfl, ?_⟩) (by assumption) ?_
  rotate_left
  · intro w hSw; (try dsimp only at hSw); go_simp <;> first | with_reducible rfl | (rw [if_neg (by first | omega | (simp only [ByteArray.size_append] at *; omega))])
  simp only [Act.put, List.setIfInBounds_toArray, List.set_cons_zero, List.set_cons_succ]
  refine wpAnyH_ready (rs := [2]) (by kernel_rfl) (by simp) ?_
  refine AllReadyH.cons (o := { dst := some 5, op := Go.Op.call { callee := Go.Callee.value (Go.Operand.func 21), args := #[Go.Operand.tmp 4], argTypes := #[25] }, type := 25, pos := _, after := #[{ on := 1, ground := Go.Ground.data }], guard := none }) rfl (fun K hK => ?_) AllReadyH.nil
  go_simp
  clear y0 y1 y2
  refine (twin_Slot _ _ l (HL.out.keepW H1.out.2.2.drew) (by omega)).mono ?_
  rintro e w5 ⟨u2, rfl, htw, hb⟩
  have hbox : w5.heap[W.heap.size]? = some (.cells (tbC (.slice ao l.length c) R G) 27 (0, 0)) := keep_row (W := W1.drew) H1.out.1 hb
  have hres : w5.heap[W.heap.size + 1]? = some (.cells tC0 27 (0, 0)) := keep_row (W := W1.drew) H1.out.2.1 hb
  have HBL : Hid (Below W.heap.size W w5) := hid (H1.out.2.2.drew.trans (hb.mono H1.out.2.2.drew.size))
  obtain ⟨y0, y1, y2⟩ := tb_cells hbox
  obtain ⟨r0, r1, r2⟩ := tb_cells hres
  have f0 := frozen_of_row _ _ 0 _ 27 hres
  have f1 := frozen_of_row _ _ 1 _ 27 hres
  have f2 := frozen_of_row _ _ 2 _ 27 hres
  obtain ⟨g2, cap2, rfl, hown2⟩ := htw
  have HO2 := hid hown2
  have HRS := hid hres
  have hs2 : W.heap.size + 2 ≤ W1.drew.heap.size := by have := (Array.getElem?_eq_some_iff.1 H1.out.2.1).1; show W.heap.size + 2 ≤ W1.heap.size; omega
  have HGB : Hid (W.heap.size + 2 ≤ g2) := hid (by have := (own_lo hown2 g2 rfl).1; omega)
  clear hbox hres hb hown2 hs2
  go_wp2_with fail
  refine hK.out _ _ ?_ (fun hHeld1 => ?_)
  · exact ⟨y0, y1, y2⟩
  clear hK K
  refine wpAnyH_take (i := 7) (oi := { dst := some 10, op := Go.Op.build 27 #[(0, Go.Operand.tmp 5), (1, Go.Operand.tmp 7), (2, Go.Operand.tmp 9)], type := 27, pos := _, after := #[{ on := 2, ground := Go.Ground.data }, { on := 4, ground := Go.Ground.data }, { on := 6, ground := Go.Ground.data }], guard := none }) (v := ?_) rfl (by kernel_rfl) (by kernel_rfl) (by kernel_rfl) (fun _ _ _ h => h) (Or.inl ⟨by rfl, ?_⟩) (by assumption) ?_
  rotate_left
  · intro w hSw; (try dsimp only at hSw); go_simp <;> first | with_reducible rfl | (rw [if_neg (by first | omega | (simp only [ByteArray.size_append] at *; omega))])
  simp only [Act.put, List.setIfInBounds_toArray, List.set_cons_zero, List.set_cons_succ]
  refine wpAnyH_ready (rs := [8]) (by kernel_rfl) (by simp) ?_
  refine AllReadyH.cons (o := { dst := none, op := Go.Op.store 27 (Go.Operand.tmp 2) (Go.Operand.tmp 10), type := 0, pos := _, after := #[{ on := 7, ground := Go.Ground.data }, { on := 2, ground := Go.Ground.chain }, { on := 0, ground := Go.Ground.phase }, { on := 1, ground := Go.Ground.phase }, { on := 2, ground := Go.Ground.phase }, { on := 3, ground := Go.Ground.phase }, { on := 4, ground := Go.Ground.phase }, { on := 5, ground := Go.Ground.phase }, { on := 6, ground := Go.Ground.phase }, { on := 7, ground := Go.Ground.phase }], guard := none }) rfl (fun K hK => ?_) AllReadyH.nil
  go_simp
  go_wp2_with fail
  refine hK.out _ _ ?_ (fun hHeld2 => ?_)
  · exact ⟨(by rw [World.cell?_setCell_far _ _ _ _ (by show W.heap.size + 1 ≠ W.heap.size; omega), World.cell?_setCell_far _ _ _ _ (by show W.heap.size + 1 ≠ W.heap.size; omega), World.cell?_setCell_far _ _ _ _ (by show W.heap.size + 1 ≠ W.heap.size; omega)]; exact y0), (by rw [World.cell?_setCell_far _ _ _ _ (by show W.heap.size + 1 ≠ W.heap.size; omega), World.cell?_setCell_far _ _ _ _ (by show W.heap.size + 1 ≠ W.heap.size; omega), World.cell?_setCell_far _ _ _ _ (by show W.heap.size + 1 ≠ W.heap.size; omega)]; exact y1), (by rw [World.cell?_setCell_far _ _ _ _ (by show W.heap.size + 1 ≠ W.heap.size; omega), World.cell?_setCell_far _ _ _ _ (by show W.heap.size + 1 ≠ W.heap.size; omega), World.cell?_setCell_far _ _ _ _ (by show W.heap.size + 1 ≠ W.heap.size; omega)]; exact y2)⟩
  clear hK K
  refine wpAnyH_done (by kernel_rfl) ?_ _
  go_wp2_with (fail)
  have hrow : (((w5.setCell ⟨W.heap.size + 1, 0, none⟩ (.slice (some ⟨g2, 0, none⟩) l.length cap2)).setCell ⟨W.heap.size + 1, 1, none⟩ (.int .i64 R)).setCell ⟨W.heap.size + 1, 2, none⟩ (.int .i64 G)).heap[W.heap.size + 1]? = some (.cells (tbC (.slice (some ⟨g2, 0, none⟩) l.length cap2) R G) 27 (0, 0)) := heap_setCell_same _ _ _ _ 27 _ (heap_setCell_same _ _ _ _ 27 _ (heap_setCell_same _ _ _ _ 27 _ HRS.out))
  have hoth : ∀ b, b ≠ W.heap.size + 1 → (((w5.setCell ⟨W.heap.size + 1, 0, none⟩ (.slice (some ⟨g2, 0, none⟩) l.length cap2)).setCell ⟨W.heap.size + 1, 1, none⟩ (.int .i64 R)).setCell ⟨W.heap.size + 1, 2, none⟩ (.int .i64 G)).heap[b]? = w5.heap[b]? := fun b hb => (heap_setCell_other _ _ _ _ hb).trans ((heap_setCell_other _ _ _ _ hb).trans (heap_setCell_other _ _ _ _ hb))
  refine bodyPost_ret (results_cell_row rfl _ _ (W.heap.size + 1) 27 (tbC (.slice (some ⟨g2, 0, none⟩) l.length cap2) R G) (0, 0) _ rfl hrow Tryz.underlying27 rfl (by kernel_rfl)) rfl ⟨_, rfl, ⟨g2, cap2, rfl, ?_⟩, ?_⟩
  · refine ownsRow_mono (own_carry HO2.out (fun b e => hoth b ?_)) (by have := H1.out.2.2.drew.size; exact this)
    have : g2 = b := Option.some.inj e
    have := HGB.out
    omega
  · exact ((HBL.out.setCell (by show W.heap.size ≤ W.heap.size + 1; omega) _).setCell (by show W.heap.size ≤ W.heap.size + 1; omega) _).setCell (by show W.heap.size ≤ W.heap.size + 1; omega) _
end Go.Proofs.YtobmnndimlhfpaaGreatDoor.Slo
