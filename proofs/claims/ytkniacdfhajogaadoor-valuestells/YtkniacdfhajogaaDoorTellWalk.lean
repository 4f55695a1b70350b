/-
  The document's Check and Text; the walk of the law ValuesTells.
-/
import Derived.Test.YtkniacdfhajogaaDoorDig
namespace Go.Proofs.YtkniacdfhajogaaDoor.Val
open Go.ChangeShapes Go.WideShapes Go.ChangeAt Go.RowKit Go.Joins
set_option maxHeartbeats 1000000 in
theorem rcheck_at (v : Vl) (w : World) : Calls Tryd.prog 9 #[vV v] w fun e w' => e = .returned (.bool (chkV v)) ∧ Below w.heap.size w w' := by
  obtain ⟨t, n⟩ := v
  have HV : Hid (chkV ⟨t, n⟩ = (decide (t = 1) || (decide (t = 2) && (decide (n = 0) || decide (n = 1))))) := hid rfl
  have B0 := hid ((Below.refl w.heap.size w).alloc (Nat.le_refl _) (.cells #[.int .u8 (t : Int), .int .i64 n] 24))
  by_cases h1 : t = 1
  · have e1 : ((t : Int) == 1) = true := by rw [beq_iff_eq]; omega
    have HR : Hid (chkV ⟨t, n⟩ = true) := hid (by rw [HV.out]; simp [h1])
    clear h1 HV
    go_enter Tryd.func9, Tryd.ntmps9
    go_wp2_with (fail)
    go_ret
    exact ⟨by rw [HR.out]; rfl, B0.out⟩
  · have e1 : ((t : Int) == 1) = false := by rw [beq_eq_false_iff_ne]; omega
    by_cases h2 : t = 2
    · have e2 : ((t : Int) == 2) = true := by rw [beq_iff_eq]; omega
      by_cases h3 : n = 0
      · have e3 : (n == 0) = true := by rw [beq_iff_eq]; omega
        have HR : Hid (chkV ⟨t, n⟩ = true) := hid (by rw [HV.out]; simp [h2, h3])
        clear h1 h2 h3 HV
        go_enter Tryd.func9, Tryd.ntmps9
        go_wp2_with (fail)
        go_ret
        exact ⟨by rw [HR.out]; rfl, B0.out⟩
      · have e3 : (n == 0) = false := by rw [beq_eq_false_iff_ne]; omega
        have HR : Hid (chkV ⟨t, n⟩ = (n == 1)) := hid (by rw [HV.out, Bool.eq_iff_iff]; simp [h2, h3])
        clear h1 h2 h3 HV
        go_enter Tryd.func9, Tryd.ntmps9
        go_wp2_with (fail)
        go_ret
        exact ⟨by rw [HR.out]; rfl, B0.out⟩
    · have e2 : ((t : Int) == 2) = false := by rw [beq_eq_false_iff_ne]; omega
      have HR : Hid (chkV ⟨t, n⟩ = false) := hid (by rw [HV.out]; simp [h1, h2])
      clear h1 h2 HV
      go_enter Tryd.func9, Tryd.ntmps9
      go_wp2_with (fail)
      go_ret
      exact ⟨by rw [HR.out]; rfl, B0.out⟩
set_option maxHeartbeats 1000000
theorem yes_txt : (⟨(Lib.formatBool true).toArray⟩ : ByteArray) = ⟨#[116, 114, 117, 101]⟩ := by kernel_rfl
theorem no_txt : (⟨(Lib.formatBool false).toArray⟩ : ByteArray) = ⟨#[102, 97, 108, 115, 101]⟩ := by kernel_rfl
set_option maxRecDepth 100000 in
theorem rtext_at (v : Vl) (hv : v.ok) (w : World) : Calls Tryd.prog 11 #[vV v] w fun e w' => e = .returned (.string (txtB v)) ∧ Below w.heap.size w w' := by
  have b0 := (Below.refl w.heap.size w).alloc (Nat.le_refl _) (.cells (vC v) 24)
  have B0 := hid b0
  have c := rcheck_at v
  have X0 := hid (heap_alloc_new w (.cells (vC v) 24))
  have HX : Hid (txt v = if chkV v = false then [] else if v.ty = 2 then Lib.formatBool (decide (v.n = 1)) else Lib.itoa v.n) := hid rfl
  have HK : Hid (chkV v = true → v.ty ≠ 2 → v.ty = 1) := hid (fun h h2 => by unfold chkV at h; simp [h2] at h; exact h)
  have HB := hid hv.2
  clear b0 hv
  unfold txtB
  generalize txt v = X at *
  go_enter Tryd.func11, Tryd.ntmps11
  go_wp2_with (fail)
  refine (c _).mono ?_
  rintro e w1 ⟨rfl, hb1⟩
  have B1 := hid (bstep B0.out hb1 B0.out.size)
  have X1 := hid (keep_row X0.out hb1)
  obtain ⟨y0, y1⟩ := row2 X1.out
  clear hb1 c
  cases hck : chkV v with
  | false =>
    have HD : Hid (X = []) := hid (by rw [HX.out, if_pos hck])
    clear hck
    go_wp2_with (fail)
    go_ret
    exact ⟨by rw [HD.out]; rfl, B1.out⟩
  | true =>
    have HD0 : Hid (X = if v.ty = 2 then Lib.formatBool (decide (v.n = 1)) else Lib.itoa v.n) := hid (by rw [HX.out, if_neg (by rw [hck]; simp)])
    have HK2 := hid (HK.out hck)
    clear hck
    by_cases h2 : v.ty = 2
    · have e2 : ((v.ty : Int) == 1) = false := by rw [beq_eq_false_iff_ne]; omega
      by_cases h3 : v.n = 1
      · have e3 : (v.n == 1) = true := by rw [beq_iff_eq]; exact h3
        have HD : Hid ((⟨X.toArray⟩ : ByteArray) = ⟨#[116, 114, 117, 101]⟩) := hid (by rw [HD0.out, if_pos h2, decide_eq_true h3, yes_txt])
        clear h2 h3
        go_wp2_with (fail)
        go_ret
        exact ⟨by rw [HD.out]; rfl, B1.out⟩
      · have e3 : (v.n == 1) = false := by rw [beq_eq_false_iff_ne]; exact h3
        have HD : Hid ((⟨X.toArray⟩ : ByteArray) = ⟨#[102, 97, 108, 115, 101]⟩) := hid (by rw [HD0.out, if_pos h2, decide_eq_false h3, no_txt])
        clear h2 h3
        go_wp2_with (fail)
        go_ret
        exact ⟨by rw [HD.out]; rfl, B1.out⟩
    · have e2 : ((v.ty : Int) == 1) = true := by rw [beq_iff_eq]; have := HK2.out h2; omega
      have HD : Hid (X = Lib.itoa v.n) := hid (by rw [HD0.out, if_neg h2])
      clear h2
      go_wp2_with (fail)
      refine (digits_at _ v.n (Nat.le_refl _) HB.out _).mono ?_
      rintro e w2 ⟨rfl, hb2⟩
      have B2 := hid (bstep B1.out hb2 B1.out.size)
      rw [← HD.out]
      clear hb2
      go_wp2_with (fail)
      go_ret
      exact ⟨rfl, B2.out⟩
set_option maxRecDepth 100000 in
theorem walk3 (v : Vl) (hv : v.ok) (w : World) (hT : TabP w) : Calls Tryd.prog 3 #[vV v] w fun e w' => e = .returned (.bool true) ∧ Below w.heap.size w w' := by
  have b0 := (Below.refl w.heap.size w).alloc (Nat.le_refl _) (.cells (vC v) 24)
  have Bd : Hid (Below w.heap.size w (w.alloc (.cells (vC v) 24)).drew) := hid b0.drew
  have Xd : Hid ((w.alloc (.cells (vC v) 24)).drew.heap[w.heap.size]? = some (.cells (vC v) 24 (0, 0))) := hid (heap_alloc_new w (.cells (vC v) 24))
  have Td : Hid (TabP (w.alloc (.cells (vC v) 24)).drew) := hid (hT.below b0.drew)
  have q1 : (chkV v == chkV v) = true := by simp
  clear b0 hT
  go_enter Tryd.func3, Tryd.ntmps3
  go_wp2_with (fail)
  refine wp_region_held_drew (S := fun V => V.cell? ⟨w.heap.size, 0, none⟩ = some (.int .u8 (v.ty : Int)) ∧ V.cell? ⟨w.heap.size, 1, none⟩ = some (.int .i64 v.n)) (by kernel_rfl) ?_ (fun hHeld => ?_)
  · exact row2 Xd.out
  refine wpAnyH_take (i := 0) (oi := { dst := some 3, op := Go.Op.load 24 (Go.Operand.tmp 1), type := 24, pos := _, after := #[], guard := none }) (v := ?_) rfl (by kernel_rfl) (by kernel_rfl) (by kernel_rfl) (fun _ _ _ h => h) (Or.inl ⟨by rfl, ?_⟩) (by assumption) ?_
  rotate_left
  · intro w hSw; (try dsimp only at hSw); go_simp <;> first | with_reducible rfl | (rw [if_neg (by first | omega | (simp only [ByteArray.size_append] at *; omega))])
  simp only [Act.put, List.setIfInBounds_toArray, List.set_cons_zero, List.set_cons_succ]
  refine wpAnyH_take (i := 2) (oi := { dst := some 5, op := Go.Op.load 24 (Go.Operand.tmp 1), type := 24, pos := _, after := #[], guard := none }) (v := ?_) rfl (by kernel_rfl) (by kernel_rfl) (by kernel_rfl) (fun _ _ _ h => h) (Or.inl ⟨by rfl, ?_⟩) (by assumption) ?_
  rotate_left
  · intro w hSw; (try dsimp only at hSw); go_simp <;> first | with_reducible rfl | (rw [if_neg (by first | omega | (simp only [ByteArray.size_append] at *; omega))])
  simp only [Act.put, List.setIfInBounds_toArray, List.set_cons_zero, List.set_cons_succ]
  refine wpAnyH_ready (rs := [1]) (by kernel_rfl) (by simp) ?_
  refine AllReadyH.cons (o := { dst := some 4, op := Go.Op.call { callee := Go.Callee.value (Go.Operand.func 8), args := #[Go.Operand.tmp 3], argTypes := #[24] }, type := 4, pos := _, after := #[{ on := 0, ground := Go.Ground.data }], guard := none }) rfl (fun K hK => ?_) AllReadyH.nil
  go_simp
  refine (check_at v _).mono ?_
  rintro e w1 ⟨rfl, hb⟩
  have B1 : Hid (Below w.heap.size w w1) := hid (bstep Bd.out hb Bd.out.size)
  have X1 := hid (keep_row Xd.out hb)
  have T1 := hid (Td.out.below hb)
  clear hb
  go_wp2_with fail
  refine hK.out _ _ ?_ (fun hHeld1 => ?_)
  · exact row2 X1.out
  clear hK K
  refine wpAnyH_ready (rs := [3]) (by kernel_rfl) (by simp) ?_
  refine AllReadyH.cons (o := { dst := some 6, op := Go.Op.call { callee := Go.Callee.value (Go.Operand.func 9), args := #[Go.Operand.tmp 5], argTypes := #[24] }, type := 4, pos := _, after := #[{ on := 2, ground := Go.Ground.data }, { on := 1, ground := Go.Ground.chain }], guard := none }) rfl (fun K hK => ?_) AllReadyH.nil
  go_simp
  refine (rcheck_at v _).mono ?_
  rintro e w2 ⟨rfl, hb⟩
  have B2 : Hid (Below w.heap.size w w2) := hid (bstep B1.out hb B1.out.size)
  have X2 := hid (keep_row X1.out hb)
  have T2 := hid (T1.out.below hb)
  clear hb
  go_wp2_with fail
  refine hK.out _ _ ?_ (fun hHeld2 => ?_)
  · exact row2 X2.out
  clear hK K
  refine wpAnyH_take (i := 4) (oi := { dst := some 7, op := Go.Op.binOp Go.BinOp.eql 4 (Go.Operand.tmp 4) (Go.Operand.tmp 6) 4, type := 4, pos := _, after := #[{ on := 1, ground := Go.Ground.data }, { on := 3, ground := Go.Ground.data }], guard := none }) (v := ?_) rfl (by kernel_rfl) (by kernel_rfl) (by kernel_rfl) (fun _ _ _ h => h) (Or.inl ⟨by rfl, ?_⟩) (by assumption) ?_
  rotate_left
  · intro w hSw; (try dsimp only at hSw); go_simp <;> first | with_reducible rfl | (rw [if_neg (by first | omega | (simp only [ByteArray.size_append] at *; omega))])
  simp only [Act.put, List.setIfInBounds_toArray, List.set_cons_zero, List.set_cons_succ]
  refine wpAnyH_take (i := 5) (oi := { dst := some 8, op := Go.Op.move (Go.Operand.tmp 7), type := 4, pos := _, after := #[{ on := 4, ground := Go.Ground.data }, { on := 3, ground := Go.Ground.chain }], guard := none }) (v := ?_) rfl (by kernel_rfl) (by kernel_rfl) (by kernel_rfl) (fun _ _ _ h => h) (Or.inl ⟨by rfl, ?_⟩) (by assumption) ?_
  rotate_left
  · intro w hSw; (try dsimp only at hSw); go_simp <;> first | with_reducible rfl | (rw [if_neg (by first | omega | (simp only [ByteArray.size_append] at *; omega))])
  simp only [Act.put, List.setIfInBounds_toArray, List.set_cons_zero, List.set_cons_succ]
  refine wpAnyH_take (i := 6) (oi := { dst := some 9, op := Go.Op.load 24 (Go.Operand.tmp 1), type := 24, pos := _, after := #[{ on := 5, ground := Go.Ground.guard }], guard := some (5, true) }) (v := ?_) rfl (by kernel_rfl) (by kernel_rfl) (by kernel_rfl) (fun _ _ _ h => h) (Or.inl ⟨by rfl, ?_⟩) (by assumption) ?_
  rotate_left
  · intro w hSw; (try dsimp only at hSw); go_simp <;> first | with_reducible rfl | (rw [if_neg (by first | omega | (simp only [ByteArray.size_append] at *; omega))])
  simp only [Act.put, List.setIfInBounds_toArray, List.set_cons_zero, List.set_cons_succ]
  refine wpAnyH_take (i := 8) (oi := { dst := some 11, op := Go.Op.load 24 (Go.Operand.tmp 1), type := 24, pos := _, after := #[{ on := 5, ground := Go.Ground.guard }], guard := some (5, true) }) (v := ?_) rfl (by kernel_rfl) (by kernel_rfl) (by kernel_rfl) (fun _ _ _ h => h) (Or.inl ⟨by rfl, ?_⟩) (by assumption) ?_
  rotate_left
  · intro w hSw; (try dsimp only at hSw); go_simp <;> first | with_reducible rfl | (rw [if_neg (by first | omega | (simp only [ByteArray.size_append] at *; omega))])
  simp only [Act.put, List.setIfInBounds_toArray, List.set_cons_zero, List.set_cons_succ]
  refine wpAnyH_ready (rs := [7]) (by kernel_rfl) (by simp) ?_
  refine AllReadyH.cons (o := { dst := some 10, op := Go.Op.call { callee := Go.Callee.value (Go.Operand.func 10), args := #[Go.Operand.tmp 9], argTypes := #[24] }, type := 9, pos := _, after := #[{ on := 6, ground := Go.Ground.data }, { on := 5, ground := Go.Ground.chain }, { on := 5, ground := Go.Ground.guard }], guard := some (5, true) }) rfl (fun K hK => ?_) AllReadyH.nil
  go_simp
  refine (text_at v hv _ T2.out).mono ?_
  rintro e w3 ⟨rfl, hb⟩
  have B3 : Hid (Below w.heap.size w w3) := hid (bstep B2.out hb B2.out.size)
  have X3 := hid (keep_row X2.out hb)
  have T3 := hid (T2.out.below hb)
  clear hb
  go_wp2_with fail
  refine hK.out _ _ ?_ (fun hHeld3 => ?_)
  · exact row2 X3.out
  clear hK K
  refine wpAnyH_ready (rs := [9]) (by kernel_rfl) (by simp) ?_
  refine AllReadyH.cons (o := { dst := some 12, op := Go.Op.call { callee := Go.Callee.value (Go.Operand.func 11), args := #[Go.Operand.tmp 11], argTypes := #[24] }, type := 9, pos := _, after := #[{ on := 8, ground := Go.Ground.data }, { on := 7, ground := Go.Ground.chain }, { on := 5, ground := Go.Ground.guard }], guard := some (5, true) }) rfl (fun K hK => ?_) AllReadyH.nil
  go_simp
  refine (rtext_at v hv _).mono ?_
  rintro e w4 ⟨rfl, hb⟩
  have B4 : Hid (Below w.heap.size w w4) := hid (bstep B3.out hb B3.out.size)
  have X4 := hid (keep_row X3.out hb)
  have T4 := hid (T3.out.below hb)
  clear hb
  go_wp2_with fail
  refine hK.out _ _ ?_ (fun hHeld4 => ?_)
  · exact row2 X4.out
  clear hK K
  refine wpAnyH_take (i := 10) (oi := { dst := some 13, op := Go.Op.binOp Go.BinOp.eql 9 (Go.Operand.tmp 10) (Go.Operand.tmp 12) 9, type := 4, pos := _, after := #[{ on := 7, ground := Go.Ground.data }, { on := 9, ground := Go.Ground.data }, { on := 5, ground := Go.Ground.guard }], guard := some (5, true) }) (v := ?_) rfl (by kernel_rfl) (by kernel_rfl) (by kernel_rfl) (fun _ _ _ h => h) (Or.inl ⟨by rfl, ?_⟩) (by assumption) ?_
  rotate_left
  · intro w hSw; (try dsimp only at hSw); go_simp <;> first | with_reducible rfl | (rw [if_neg (by first | omega | (simp only [ByteArray.size_append] at *; omega))])
  simp only [Act.put, List.setIfInBounds_toArray, List.set_cons_zero, List.set_cons_succ]
  refine wpAnyH_take (i := 11) (oi := { dst := some 14, op := Go.Op.pick (Go.Operand.tmp 8) (Go.Operand.tmp 13) (Go.Operand.const (Go.Value.bool false)), type := 4, pos := _, after := #[{ on := 5, ground := Go.Ground.data }, { on := 10, ground := Go.Ground.data }], guard := none }) (v := ?_) rfl (by kernel_rfl) (by kernel_rfl) (by kernel_rfl) (fun _ _ _ h => h) (Or.inl ⟨by rfl, ?_⟩) (by assumption) ?_
  rotate_left
  · intro w hSw; (try dsimp only at hSw); go_simp <;> first | with_reducible rfl | (rw [if_neg (by first | omega | (simp only [ByteArray.size_append] at *; omega))])
  simp only [Act.put, List.setIfInBounds_toArray, List.set_cons_zero, List.set_cons_succ]
  refine wpAnyH_take (i := 12) (oi := { dst := some 2, op := Go.Op.assign (Go.Operand.tmp 14), type := 4, pos := _, after := #[{ on := 11, ground := Go.Ground.data }, { on := 9, ground := Go.Ground.chain }, { on := 0, ground := Go.Ground.phase }, { on := 1, ground := Go.Ground.phase }, { on := 2, ground := Go.Ground.phase }, { on := 3, ground := Go.Ground.phase }, { on := 4, ground := Go.Ground.phase }, { on := 5, ground := Go.Ground.phase }, { on := 6, ground := Go.Ground.phase }, { on := 7, ground := Go.Ground.phase }, { on := 8, ground := Go.Ground.phase }, { on := 9, ground := Go.Ground.phase }, { on := 10, ground := Go.Ground.phase }, { on := 11, ground := Go.Ground.phase }], guard := none }) (v := ?_) rfl (by kernel_rfl) (by kernel_rfl) (by kernel_rfl) (fun _ _ _ h => h) (Or.inl ⟨by rfl, ?_⟩) (by assumption) ?_
  rotate_left
  · intro w hSw; (try dsimp only at hSw); go_simp <;> first | with_reducible rfl | (rw [if_neg (by first | omega | (simp only [ByteArray.size_append] at *; omega))])
  simp only [Act.put, List.setIfInBounds_toArray, List.set_cons_zero, List.set_cons_succ]
  refine wpAnyH_done (by kernel_rfl) ?_ _
  go_wp2_with (fail)
  go_ret
  exact ⟨rfl, B4.out⟩
end Go.Proofs.YtkniacdfhajogaaDoor.Val
