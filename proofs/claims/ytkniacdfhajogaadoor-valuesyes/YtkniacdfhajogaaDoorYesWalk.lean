/-
  The walk of the law ValuesYes.
-/
import Derived.Test.YtkniacdfhajogaaDoorRby
namespace Go.Proofs.YtkniacdfhajogaaDoor.Val
open Go.ChangeShapes Go.WideShapes Go.ChangeAt Go.RowKit Go.Joins
set_option maxHeartbeats 2000000
theorem info33 : (Tryd.prog.info? 33).map (·.size) = some 2 := by kernel_rfl
/-- What each slot holds behind its operation. -/
def yesttT (n0 n1 : Int) : List (Nat × (Value ⊕ List Vl)) := [(25, .inl (.bool true)), (26, .inl (.bool true)), (27, .inl (vV (yesV true))), (28, .inl (vV (yesV true))), (29, .inr [yesV true, yesV true]), (30, .inl (vV (yesV true))), (31, .inl (.bool true)), (32, .inl (.bool true)), (33, .inl (.bool true)), (34, .inl (.bool true)), (35, .inl (vV (yesV true))), (36, .inl (.bool true)), (37, .inl (.bool true)), (38, .inl (.bool true)), (39, .inl (vV (yesV true))), (40, .inl (vV (yesV true))), (41, .inr [yesV true, yesV true]), (42, .inl (vV (yesV true))), (43, .inl (.bool true)), (44, .inl (.bool true)), (45, .inl (undef)), (46, .inl (.bool true)), (47, .inl (vV (yesV true))), (48, .inl (.bool true)), (49, .inl (.bool true)), (50, .inl (.bool true)), (51, .inl (vV (yesV true))), (52, .inr [yesV true]), (53, .inl (vV (yesV false))), (54, .inl (.bool true)), (55, .inl (.bool false)), (56, .inl (vV (yesV false))), (57, .inl (.bool true)), (58, .inl (.bool true)), (59, .inl (.bool true)), (60, .inl (vV (yesV true))), (61, .inl (vV (yesV true))), (62, .inr [yesV true, yesV true]), (63, .inl (vV (yesV true))), (64, .inl (.bool true)), (65, .inl (.bool true)), (66, .inl (.bool true)), (67, .inl (vV (yesV true))), (68, .inl (.bool true)), (69, .inl (.bool true)), (70, .inl (.bool true)), (71, .inl (vV (yesV true))), (72, .inl (vV (numV n0))), (73, .inl (vV (numV n1))), (74, .inr [yesV true, numV n0, numV n1]), (75, .inl (vV (numV n0))), (76, .inl (vV (numV n0))), (77, .inl (.bool true)), (78, .inl (.bool true)), (79, .inl (.bool true)), (80, .inl (vV (yesV true))), (81, .inl (vV (yesV true))), (82, .inl (vV (yesV true))), (83, .inr [yesV true, yesV true, yesV true]), (84, .inl (vV (yesV true))), (85, .inl (vV (yesV true))), (86, .inl (vV (yesV true))), (87, .inr [yesV true, yesV true]), (88, .inl (vV (yesV true))), (89, .inl (.bool true)), (90, .inl (.bool true)), (91, .inl (.bool true)), (92, .inl (vV (yesV true))), (93, .inl (vV (yesV true))), (94, .inr [yesV true, yesV true]), (95, .inl (vV (yesV true))), (96, .inr [yesV true]), (97, .inl (vV (yesV false))), (98, .inl (vV (yesV true))), (99, .inr [yesV true]), (100, .inl (vV (yesV false))), (101, .inl (vV (yesV true))), (102, .inr [yesV true]), (103, .inl (vV (yesV false))), (104, .inr [yesV false, yesV false]), (105, .inl (vV (yesV false))), (106, .inl (.bool true)), (107, .inl (.bool true)), (6, .inl (.bool true))]
set_option maxRecDepth 100000 in
theorem walk6tt (n0 n1 : Int) (w : World) (hT : TabP w) : Calls Tryd.prog 6 #[.bool true, .bool true, .agg #[.int .i64 n0, .int .i64 n1]] w fun e w' => e = .returned (.bool true) ∧ Below w.heap.size w w' := by
  have R0 := hid (LV.start hT)
  have E0 : Hid (doE 15 [yesV true, yesV true] = yesV true) := hid rfl
  have E1 : Hid (doE 16 [yesV true, yesV true] = yesV true) := hid rfl
  have E2 : Hid (doE 5 [yesV true] = yesV false) := hid rfl
  have E3 : Hid (doE 11 [yesV true, yesV true] = yesV true) := hid rfl
  have E4 : Hid (doE 17 [yesV true, numV n0, numV n1] = numV n0) := hid rfl
  have E5 : Hid (doE 17 [yesV true, yesV true, yesV true] = yesV true) := hid rfl
  have E6 : Hid (doE 16 [yesV false, yesV false] = yesV false) := hid rfl
  replace R0 := hid (R0.out.alloc (.cells #[.int .i64 n0, .int .i64 n1] 33))
  have y0 : (w.alloc (.cells #[.int .i64 n0, .int .i64 n1] 33)).heap[w.heap.size]? = some (.cells #[.int .i64 n0, .int .i64 n1] 33 (0, 0)) := heap_alloc_new w _
  have Y0 := hid y0
  clear hT y0
  go_enter Tryd.func6, Tryd.ntmps6
  go_wp2_with (fail)
  generalize hW0 : w.alloc (.cells #[.int .i64 n0, .int .i64 n1] 33) = W0 at *
  have HW0 := hid hW0
  clear hW0
  refine (lyes_at _ _).mono ?_
  rintro e v1 ⟨rfl, hb⟩
  have R1 := hid (R0.out.step hb)
  replace Y0 := hid (keep_row Y0.out hb)
  clear hb
  have R2 := hid (R1.out.push (yesV true) (b := v1.heap.size) rfl)
  go_wp2_with (fail)
  refine (lyes_at _ _).mono ?_
  rintro e v3 ⟨rfl, hb⟩
  have R3 := hid (R2.out.step hb)
  replace Y0 := hid (keep_row (push_old Y0.out) hb)
  clear hb
  generalize v1.heap.size = ba at *
  have R4 := hid (R3.out.push (yesV true) (b := v3.heap.size) rfl)
  have z0 := (cell_of_row _ _ 0 _ 33 (0, 0) (push_old (o' := .cells (vC (yesV true)) 24) Y0.out)).trans (show _ = some (.int .i64 n0) from rfl)
  go_wp2_with (fail)
  clear z0
  refine (lnumber_at _ _).mono ?_
  rintro e v5 ⟨rfl, hb⟩
  have R5 := hid (R4.out.step hb)
  replace Y0 := hid (keep_row (push_old Y0.out) hb)
  clear hb
  generalize v3.heap.size = bb at *
  have R6 := hid (R5.out.push (numV n0) (b := v5.heap.size) rfl)
  have z0 := (cell_of_row _ _ 1 _ 33 (0, 0) (push_old (o' := .cells (vC (numV n0)) 24) Y0.out)).trans (show _ = some (.int .i64 n1) from rfl)
  go_wp2_with (fail)
  clear z0
  refine (lnumber_at _ _).mono ?_
  rintro e v7 ⟨rfl, hb⟩
  have R7 := hid (R6.out.step hb)
  replace Y0 := hid (keep_row (push_old Y0.out) hb)
  clear hb
  generalize v5.heap.size = bx at *
  have R8 := hid (R7.out.push (numV n1) (b := v7.heap.size) rfl)
  have RW := hid (R8.out.push (numV n1) (b := v7.heap.size + 1) (by simp))
  obtain ⟨c00, c01⟩ := R8.out.cs (v7.heap.size) (numV n1) (by simp)
  obtain ⟨c10, c11⟩ := R8.out.cs (bx) (numV n0) (by simp)
  obtain ⟨c20, c21⟩ := R8.out.cs (bb) (yesV true) (by simp)
  obtain ⟨c30, c31⟩ := R8.out.cs (ba) (yesV true) (by simp)
  obtain ⟨d0, d1⟩ := RW.out.cs bx (numV n0) (by simp)
  have xw := RW.out.rows (v7.heap.size + 1, numV n1) List.mem_cons_self
  go_wp2_with (refine wpList_store_row rfl 24 _ _ rfl (v7.heap.size + 1) (vC (numV n0)) rfl rfl 24 _ xw info24 rfl (by simp [Value.oneCell']) ?_)
  clear c00 c01 c10 c11 c20 c21 c30 c31
  clear d0 d1 xw
  have RV := hid (LV.setRow (W0 := v7.alloc (.cells (vC (numV n1)) 24)) R8.out ⟨RW.out.tab, RW.out.below, by simp, RW.out.rows, RW.out.sl⟩ (by simp) (numV n0))
  generalize ((v7.alloc (.cells (vC (numV n1)) 24)).alloc (.cells (vC (numV n1)) 24)).setRow (v7.heap.size + 1) (vC (numV n0)) = W8 at *
  have RS := hid RV.out.rebase
  clear RV RW R8 Y0 HW0
  generalize v7.heap.size + 1 = bw at *
  generalize v7.heap.size = by_ at *
  refine Rby.region_by (J := fun V => LV w W8.heap.size [(bw, numV n0), (by_, numV n1), (bx, numV n0), (bb, yesV true), (ba, yesV true)] [] V) (E := Rby.Ex (yesttT n0 n1)) (by kernel_rfl) (by kernel_rfl) (by kernel_rfl) (by kernel_rfl) (Rby.Ex.keep _) RS.out.drew ?step ?fin
  case step =>
    refine Rby.AllL.cons ?_ <| Rby.AllL.cons ?_ <| Rby.AllL.cons ?_ <| Rby.AllL.cons ?_ <| Rby.AllL.cons ?_ <| Rby.AllL.cons ?_ <| Rby.AllL.cons ?_ <| Rby.AllL.cons ?_ <| Rby.AllL.cons ?_ <| Rby.AllL.cons ?_ <| Rby.AllL.cons ?_ <| Rby.AllL.cons ?_ <| Rby.AllL.cons ?_ <| Rby.AllL.cons ?_ <| Rby.AllL.cons ?_ <| Rby.AllL.cons ?_ <| Rby.AllL.cons ?_ <| Rby.AllL.cons ?_ <| Rby.AllL.cons ?_ <| Rby.AllL.cons ?_ <| Rby.AllL.cons ?_ <| Rby.AllL.cons ?_ <| Rby.AllL.cons ?_ <| Rby.AllL.cons ?_ <| Rby.AllL.cons ?_ <| Rby.AllL.cons ?_ <| Rby.AllL.cons ?_ <| Rby.AllL.cons ?_ <| Rby.AllL.cons ?_ <| Rby.AllL.cons ?_ <| Rby.AllL.cons ?_ <| Rby.AllL.cons ?_ <| Rby.AllL.cons ?_ <| Rby.AllL.cons ?_ <| Rby.AllL.cons ?_ <| Rby.AllL.cons ?_ <| Rby.AllL.cons ?_ <| Rby.AllL.cons ?_ <| Rby.AllL.cons ?_ <| Rby.AllL.cons ?_ <| Rby.AllL.cons ?_ <| Rby.AllL.cons ?_ <| Rby.AllL.cons ?_ <| Rby.AllL.cons ?_ <| Rby.AllL.cons ?_ <| Rby.AllL.cons ?_ <| Rby.AllL.cons ?_ <| Rby.AllL.cons ?_ <| Rby.AllL.cons ?_ <| Rby.AllL.cons ?_ <| Rby.AllL.cons ?_ <| Rby.AllL.cons ?_ <| Rby.AllL.cons ?_ <| Rby.AllL.cons ?_ <| Rby.AllL.cons ?_ <| Rby.AllL.cons ?_ <| Rby.AllL.cons ?_ <| Rby.AllL.cons ?_ <| Rby.AllL.cons ?_ <| Rby.AllL.cons ?_ <| Rby.AllL.cons ?_ <| Rby.AllL.cons ?_ <| Rby.AllL.cons ?_ <| Rby.AllL.cons ?_ <| Rby.AllL.cons ?_ <| Rby.AllL.cons ?_ <| Rby.AllL.cons ?_ <| Rby.AllL.cons ?_ <| Rby.AllL.cons ?_ <| Rby.AllL.cons ?_ <| Rby.AllL.cons ?_ <| Rby.AllL.cons ?_ <| Rby.AllL.cons ?_ <| Rby.AllL.cons ?_ <| Rby.AllL.cons ?_ <| Rby.AllL.cons ?_ <| Rby.AllL.cons ?_ <| Rby.AllL.cons ?_ <| Rby.AllL.cons ?_ <| Rby.AllL.cons ?_ <| Rby.AllL.cons ?_ <| Rby.AllL.cons ?_ <| Rby.AllL.cons ?_ <| Rby.AllL.cons ?_ <| Rby.AllL.nil
    · intro ac V yl K hf hs hy hJ hK
      clear hf hs hy
      have HJ := hid hJ
      clear hJ
      go_simp
      refine (alive_at _ HJ.out.tab).mono ?_
      rintro e V2 ⟨rfl, hb⟩
      have HB := hid hb
      clear hb
      go_wp2_with fail
      exact hK.out _ _ (fun d hd => by cases hd; exact Rby.Ex.val (by kernel_rfl)) (HJ.out.step HB.out) HB.out
    · intro ac V yl K hf hs hy hJ hK
      have e25 := Rby.at_val (hs 25 (by kernel_rfl)) (c := .bool true) (by kernel_rfl)
      clear hf hs hy
      have HJ := hid hJ
      clear hJ
      go_simp
      exact hK.out _ _ (fun d hd => by cases hd; exact Rby.Ex.val (by kernel_rfl)) HJ.out (Below.refl _ _)
    · intro ac V yl K hf hs hy hJ hK
      have g0 := Rby.at_val (hs 26 (by kernel_rfl)) (c := .bool true) (by kernel_rfl)
      have gy : yl 1 = some true := hy 1 26 (by kernel_rfl) true g0
      have e7 : ac.tmps[7]? = some (.pointer (some ⟨ba, 0, none⟩)) := (hf 7 (by kernel_rfl)).trans rfl
      obtain ⟨c0, c1⟩ := hJ.cs (ba) (yesV true) (by simp)
      clear hf hs hy
      have HJ := hid hJ
      clear hJ
      go_simp
      exact hK.out _ _ (fun d hd => by cases hd; exact Rby.Ex.val (by kernel_rfl)) HJ.out (Below.refl _ _)
    · intro ac V yl K hf hs hy hJ hK
      have g0 := Rby.at_val (hs 26 (by kernel_rfl)) (c := .bool true) (by kernel_rfl)
      have gy : yl 1 = some true := hy 1 26 (by kernel_rfl) true g0
      have e8 : ac.tmps[8]? = some (.pointer (some ⟨bb, 0, none⟩)) := (hf 8 (by kernel_rfl)).trans rfl
      obtain ⟨c0, c1⟩ := hJ.cs (bb) (yesV true) (by simp)
      clear hf hs hy
      have HJ := hid hJ
      clear hJ
      go_simp
      exact hK.out _ _ (fun d hd => by cases hd; exact Rby.Ex.val (by kernel_rfl)) HJ.out (Below.refl _ _)
    · intro ac V yl K hf hs hy hJ hK
      have g0 := Rby.at_val (hs 26 (by kernel_rfl)) (c := .bool true) (by kernel_rfl)
      have gy : yl 1 = some true := hy 1 26 (by kernel_rfl) true g0
      have e27 := Rby.at_val (hs 27 (by kernel_rfl)) (c := vV (yesV true)) (by kernel_rfl)
      have e28 := Rby.at_val (hs 28 (by kernel_rfl)) (c := vV (yesV true)) (by kernel_rfl)
      clear hf hs hy
      have HJ := hid hJ
      clear hJ
      go_simp
      exact hK.out _ _ (fun d hd => by cases hd; exact Rby.Ex.sl (l := [yesV true, yesV true]) (by kernel_rfl) (vsl2 (yesV true) (yesV true) V)) (HJ.out.alloc _) ((Below.refl _ _).alloc (Nat.le_refl _) _)
    · intro ac V yl K hf hs hy hJ hK
      have g0 := Rby.at_val (hs 26 (by kernel_rfl)) (c := .bool true) (by kernel_rfl)
      have gy : yl 1 = some true := hy 1 26 (by kernel_rfl) true g0
      obtain ⟨sb, e29, hsl⟩ := Rby.at_sl (hs 29 (by kernel_rfl)) (l := [yesV true, yesV true]) (by kernel_rfl)
      clear hf hs hy
      have HJ := hid hJ
      clear hJ
      have HSL := hid hsl
      clear hsl
      go_simp
      refine (ldo_at 15 [yesV true, yesV true] _ _ HSL.out).mono ?_
      rintro e V2 ⟨rfl, hb⟩
      rw [E0.out]
      have HB := hid hb
      clear hb
      go_wp2_with fail
      exact hK.out _ _ (fun d hd => by cases hd; exact Rby.Ex.val (by kernel_rfl)) (HJ.out.step HB.out) HB.out
    · intro ac V yl K hf hs hy hJ hK
      have g0 := Rby.at_val (hs 26 (by kernel_rfl)) (c := .bool true) (by kernel_rfl)
      have gy : yl 1 = some true := hy 1 26 (by kernel_rfl) true g0
      have e0 : ac.tmps[0]? = some (.bool true) := (hf 0 (by kernel_rfl)).trans rfl
      clear hf hs hy
      have HJ := hid hJ
      clear hJ
      go_simp
      exact hK.out _ _ (fun d hd => by cases hd; exact Rby.Ex.val (by kernel_rfl)) HJ.out (Below.refl _ _)
    · intro ac V yl K hf hs hy hJ hK
      have g0 := Rby.at_val (hs 26 (by kernel_rfl)) (c := .bool true) (by kernel_rfl)
      have gy : yl 1 = some true := hy 1 26 (by kernel_rfl) true g0
      have e31 := Rby.at_val (hs 31 (by kernel_rfl)) (c := .bool true) (by kernel_rfl)
      clear hf hs hy
      have HJ := hid hJ
      clear hJ
      go_simp
      exact hK.out _ _ (fun d hd => by cases hd; exact Rby.Ex.val (by kernel_rfl)) HJ.out (Below.refl _ _)
    · intro ac V yl K hf hs hy hJ hK
      have g0 := Rby.at_val (hs 32 (by kernel_rfl)) (c := .bool true) (by kernel_rfl)
      have gy : yl 7 = some true := hy 7 32 (by kernel_rfl) true g0
      have e1 : ac.tmps[1]? = some (.bool true) := (hf 1 (by kernel_rfl)).trans rfl
      clear hf hs hy
      have HJ := hid hJ
      clear hJ
      go_simp
      exact hK.out _ _ (fun d hd => by cases hd; exact Rby.Ex.val (by kernel_rfl)) HJ.out (Below.refl _ _)
    · intro ac V yl K hf hs hy hJ hK
      have g0 := Rby.at_val (hs 26 (by kernel_rfl)) (c := .bool true) (by kernel_rfl)
      have gy : yl 1 = some true := hy 1 26 (by kernel_rfl) true g0
      have e32 := Rby.at_val (hs 32 (by kernel_rfl)) (c := .bool true) (by kernel_rfl)
      have e33 := Rby.at_val (hs 33 (by kernel_rfl)) (c := .bool true) (by kernel_rfl)
      clear hf hs hy
      have HJ := hid hJ
      clear hJ
      go_simp
      exact hK.out _ _ (fun d hd => by cases hd; exact Rby.Ex.val (by kernel_rfl)) HJ.out (Below.refl _ _)
    · intro ac V yl K hf hs hy hJ hK
      have g0 := Rby.at_val (hs 26 (by kernel_rfl)) (c := .bool true) (by kernel_rfl)
      have gy : yl 1 = some true := hy 1 26 (by kernel_rfl) true g0
      have e34 := Rby.at_val (hs 34 (by kernel_rfl)) (c := .bool true) (by kernel_rfl)
      clear hf hs hy
      have HJ := hid hJ
      clear hJ
      go_simp
      refine (lyes_at _ _).mono ?_
      rintro e V2 ⟨rfl, hb⟩
      have HB := hid hb
      clear hb
      go_wp2_with fail
      exact hK.out _ _ (fun d hd => by cases hd; exact Rby.Ex.val (by kernel_rfl)) (HJ.out.step HB.out) HB.out
    · intro ac V yl K hf hs hy hJ hK
      have g0 := Rby.at_val (hs 26 (by kernel_rfl)) (c := .bool true) (by kernel_rfl)
      have gy : yl 1 = some true := hy 1 26 (by kernel_rfl) true g0
      have e30 := Rby.at_val (hs 30 (by kernel_rfl)) (c := vV (yesV true)) (by kernel_rfl)
      have e35 := Rby.at_val (hs 35 (by kernel_rfl)) (c := vV (yesV true)) (by kernel_rfl)
      clear hf hs hy
      have HJ := hid hJ
      clear hJ
      go_simp
      exact hK.out _ _ (fun d hd => by cases hd; exact Rby.Ex.val (by kernel_rfl)) HJ.out (Below.refl _ _)
    · intro ac V yl K hf hs hy hJ hK
      have e26 := Rby.at_val (hs 26 (by kernel_rfl)) (c := .bool true) (by kernel_rfl)
      have e36 := Rby.at_val (hs 36 (by kernel_rfl)) (c := .bool true) (by kernel_rfl)
      clear hf hs hy
      have HJ := hid hJ
      clear hJ
      go_simp
      exact hK.out _ _ (fun d hd => by cases hd; exact Rby.Ex.val (by kernel_rfl)) HJ.out (Below.refl _ _)
    · intro ac V yl K hf hs hy hJ hK
      have e37 := Rby.at_val (hs 37 (by kernel_rfl)) (c := .bool true) (by kernel_rfl)
      clear hf hs hy
      have HJ := hid hJ
      clear hJ
      go_simp
      exact hK.out _ _ (fun d hd => by cases hd; exact Rby.Ex.val (by kernel_rfl)) HJ.out (Below.refl _ _)
    · intro ac V yl K hf hs hy hJ hK
      have g0 := Rby.at_val (hs 38 (by kernel_rfl)) (c := .bool true) (by kernel_rfl)
      have gy : yl 13 = some true := hy 13 38 (by kernel_rfl) true g0
      have e7 : ac.tmps[7]? = some (.pointer (some ⟨ba, 0, none⟩)) := (hf 7 (by kernel_rfl)).trans rfl
      obtain ⟨c0, c1⟩ := hJ.cs (ba) (yesV true) (by simp)
      clear hf hs hy
      have HJ := hid hJ
      clear hJ
      go_simp
      exact hK.out _ _ (fun d hd => by cases hd; exact Rby.Ex.val (by kernel_rfl)) HJ.out (Below.refl _ _)
    · intro ac V yl K hf hs hy hJ hK
      have g0 := Rby.at_val (hs 38 (by kernel_rfl)) (c := .bool true) (by kernel_rfl)
      have gy : yl 13 = some true := hy 13 38 (by kernel_rfl) true g0
      have e8 : ac.tmps[8]? = some (.pointer (some ⟨bb, 0, none⟩)) := (hf 8 (by kernel_rfl)).trans rfl
      obtain ⟨c0, c1⟩ := hJ.cs (bb) (yesV true) (by simp)
      clear hf hs hy
      have HJ := hid hJ
      clear hJ
      go_simp
      exact hK.out _ _ (fun d hd => by cases hd; exact Rby.Ex.val (by kernel_rfl)) HJ.out (Below.refl _ _)
    · intro ac V yl K hf hs hy hJ hK
      have g0 := Rby.at_val (hs 38 (by kernel_rfl)) (c := .bool true) (by kernel_rfl)
      have gy : yl 13 = some true := hy 13 38 (by kernel_rfl) true g0
      have e39 := Rby.at_val (hs 39 (by kernel_rfl)) (c := vV (yesV true)) (by kernel_rfl)
      have e40 := Rby.at_val (hs 40 (by kernel_rfl)) (c := vV (yesV true)) (by kernel_rfl)
      clear hf hs hy
      have HJ := hid hJ
      clear hJ
      go_simp
      exact hK.out _ _ (fun d hd => by cases hd; exact Rby.Ex.sl (l := [yesV true, yesV true]) (by kernel_rfl) (vsl2 (yesV true) (yesV true) V)) (HJ.out.alloc _) ((Below.refl _ _).alloc (Nat.le_refl _) _)
    · intro ac V yl K hf hs hy hJ hK
      have g0 := Rby.at_val (hs 38 (by kernel_rfl)) (c := .bool true) (by kernel_rfl)
      have gy : yl 13 = some true := hy 13 38 (by kernel_rfl) true g0
      obtain ⟨sb, e41, hsl⟩ := Rby.at_sl (hs 41 (by kernel_rfl)) (l := [yesV true, yesV true]) (by kernel_rfl)
      clear hf hs hy
      have HJ := hid hJ
      clear hJ
      have HSL := hid hsl
      clear hsl
      go_simp
      refine (ldo_at 16 [yesV true, yesV true] _ _ HSL.out).mono ?_
      rintro e V2 ⟨rfl, hb⟩
      rw [E1.out]
      have HB := hid hb
      clear hb
      go_wp2_with fail
      exact hK.out _ _ (fun d hd => by cases hd; exact Rby.Ex.val (by kernel_rfl)) (HJ.out.step HB.out) HB.out
    · intro ac V yl K hf hs hy hJ hK
      have g0 := Rby.at_val (hs 38 (by kernel_rfl)) (c := .bool true) (by kernel_rfl)
      have gy : yl 13 = some true := hy 13 38 (by kernel_rfl) true g0
      have e0 : ac.tmps[0]? = some (.bool true) := (hf 0 (by kernel_rfl)).trans rfl
      clear hf hs hy
      have HJ := hid hJ
      clear hJ
      go_simp
      exact hK.out _ _ (fun d hd => by cases hd; exact Rby.Ex.val (by kernel_rfl)) HJ.out (Below.refl _ _)
    · intro ac V yl K hf hs hy hJ hK
      have g0 := Rby.at_val (hs 38 (by kernel_rfl)) (c := .bool true) (by kernel_rfl)
      have gy : yl 13 = some true := hy 13 38 (by kernel_rfl) true g0
      have e43 := Rby.at_val (hs 43 (by kernel_rfl)) (c := .bool true) (by kernel_rfl)
      clear hf hs hy
      have HJ := hid hJ
      clear hJ
      go_simp
      exact hK.out _ _ (fun d hd => by cases hd; exact Rby.Ex.val (by kernel_rfl)) HJ.out (Below.refl _ _)
    · intro ac V yl K hf hs hy hJ hK
      have g0 := Rby.at_val (hs 44 (by kernel_rfl)) (c := .bool true) (by kernel_rfl)
      have gy : yl 19 = some true := hy 19 44 (by kernel_rfl) true g0
      clear hf hs hy
      go_simp
      exact hK.out _ _ (fun d hd => by cases hd; exact Rby.Ex.val (by kernel_rfl)) hJ (Below.refl _ _)
    · intro ac V yl K hf hs hy hJ hK
      have g0 := Rby.at_val (hs 38 (by kernel_rfl)) (c := .bool true) (by kernel_rfl)
      have gy : yl 13 = some true := hy 13 38 (by kernel_rfl) true g0
      have e44 := Rby.at_val (hs 44 (by kernel_rfl)) (c := .bool true) (by kernel_rfl)
      have e45 := Rby.at_val (hs 45 (by kernel_rfl)) (c := undef) (by kernel_rfl)
      clear hf hs hy
      have HJ := hid hJ
      clear hJ
      go_simp
      exact hK.out _ _ (fun d hd => by cases hd; exact Rby.Ex.val (by kernel_rfl)) HJ.out (Below.refl _ _)
    · intro ac V yl K hf hs hy hJ hK
      have g0 := Rby.at_val (hs 38 (by kernel_rfl)) (c := .bool true) (by kernel_rfl)
      have gy : yl 13 = some true := hy 13 38 (by kernel_rfl) true g0
      have e46 := Rby.at_val (hs 46 (by kernel_rfl)) (c := .bool true) (by kernel_rfl)
      clear hf hs hy
      have HJ := hid hJ
      clear hJ
      go_simp
      refine (lyes_at _ _).mono ?_
      rintro e V2 ⟨rfl, hb⟩
      have HB := hid hb
      clear hb
      go_wp2_with fail
      exact hK.out _ _ (fun d hd => by cases hd; exact Rby.Ex.val (by kernel_rfl)) (HJ.out.step HB.out) HB.out
    · intro ac V yl K hf hs hy hJ hK
      have g0 := Rby.at_val (hs 38 (by kernel_rfl)) (c := .bool true) (by kernel_rfl)
      have gy : yl 13 = some true := hy 13 38 (by kernel_rfl) true g0
      have e42 := Rby.at_val (hs 42 (by kernel_rfl)) (c := vV (yesV true)) (by kernel_rfl)
      have e47 := Rby.at_val (hs 47 (by kernel_rfl)) (c := vV (yesV true)) (by kernel_rfl)
      clear hf hs hy
      have HJ := hid hJ
      clear hJ
      go_simp
      exact hK.out _ _ (fun d hd => by cases hd; exact Rby.Ex.val (by kernel_rfl)) HJ.out (Below.refl _ _)
    · intro ac V yl K hf hs hy hJ hK
      have e38 := Rby.at_val (hs 38 (by kernel_rfl)) (c := .bool true) (by kernel_rfl)
      have e48 := Rby.at_val (hs 48 (by kernel_rfl)) (c := .bool true) (by kernel_rfl)
      clear hf hs hy
      have HJ := hid hJ
      clear hJ
      go_simp
      exact hK.out _ _ (fun d hd => by cases hd; exact Rby.Ex.val (by kernel_rfl)) HJ.out (Below.refl _ _)
    · intro ac V yl K hf hs hy hJ hK
      have e49 := Rby.at_val (hs 49 (by kernel_rfl)) (c := .bool true) (by kernel_rfl)
      clear hf hs hy
      have HJ := hid hJ
      clear hJ
      go_simp
      exact hK.out _ _ (fun d hd => by cases hd; exact Rby.Ex.val (by kernel_rfl)) HJ.out (Below.refl _ _)
    · intro ac V yl K hf hs hy hJ hK
      have g0 := Rby.at_val (hs 50 (by kernel_rfl)) (c := .bool true) (by kernel_rfl)
      have gy : yl 25 = some true := hy 25 50 (by kernel_rfl) true g0
      have e7 : ac.tmps[7]? = some (.pointer (some ⟨ba, 0, none⟩)) := (hf 7 (by kernel_rfl)).trans rfl
      obtain ⟨c0, c1⟩ := hJ.cs (ba) (yesV true) (by simp)
      clear hf hs hy
      have HJ := hid hJ
      clear hJ
      go_simp
      exact hK.out _ _ (fun d hd => by cases hd; exact Rby.Ex.val (by kernel_rfl)) HJ.out (Below.refl _ _)
    · intro ac V yl K hf hs hy hJ hK
      have g0 := Rby.at_val (hs 50 (by kernel_rfl)) (c := .bool true) (by kernel_rfl)
      have gy : yl 25 = some true := hy 25 50 (by kernel_rfl) true g0
      have e51 := Rby.at_val (hs 51 (by kernel_rfl)) (c := vV (yesV true)) (by kernel_rfl)
      clear hf hs hy
      have HJ := hid hJ
      clear hJ
      go_simp
      exact hK.out _ _ (fun d hd => by cases hd; exact Rby.Ex.sl (l := [yesV true]) (by kernel_rfl) (vsl1 (yesV true) V)) (HJ.out.alloc _) ((Below.refl _ _).alloc (Nat.le_refl _) _)
    · intro ac V yl K hf hs hy hJ hK
      have g0 := Rby.at_val (hs 50 (by kernel_rfl)) (c := .bool true) (by kernel_rfl)
      have gy : yl 25 = some true := hy 25 50 (by kernel_rfl) true g0
      obtain ⟨sb, e52, hsl⟩ := Rby.at_sl (hs 52 (by kernel_rfl)) (l := [yesV true]) (by kernel_rfl)
      clear hf hs hy
      have HJ := hid hJ
      clear hJ
      have HSL := hid hsl
      clear hsl
      go_simp
      refine (ldo_at 5 [yesV true] _ _ HSL.out).mono ?_
      rintro e V2 ⟨rfl, hb⟩
      rw [E2.out]
      have HB := hid hb
      clear hb
      go_wp2_with fail
      exact hK.out _ _ (fun d hd => by cases hd; exact Rby.Ex.val (by kernel_rfl)) (HJ.out.step HB.out) HB.out
    · intro ac V yl K hf hs hy hJ hK
      have g0 := Rby.at_val (hs 50 (by kernel_rfl)) (c := .bool true) (by kernel_rfl)
      have gy : yl 25 = some true := hy 25 50 (by kernel_rfl) true g0
      have e0 : ac.tmps[0]? = some (.bool true) := (hf 0 (by kernel_rfl)).trans rfl
      clear hf hs hy
      have HJ := hid hJ
      clear hJ
      go_simp
      exact hK.out _ _ (fun d hd => by cases hd; exact Rby.Ex.val (by kernel_rfl)) HJ.out (Below.refl _ _)
    · intro ac V yl K hf hs hy hJ hK
      have g0 := Rby.at_val (hs 50 (by kernel_rfl)) (c := .bool true) (by kernel_rfl)
      have gy : yl 25 = some true := hy 25 50 (by kernel_rfl) true g0
      have e54 := Rby.at_val (hs 54 (by kernel_rfl)) (c := .bool true) (by kernel_rfl)
      clear hf hs hy
      have HJ := hid hJ
      clear hJ
      go_simp
      exact hK.out _ _ (fun d hd => by cases hd; exact Rby.Ex.val (by kernel_rfl)) HJ.out (Below.refl _ _)
    · intro ac V yl K hf hs hy hJ hK
      have g0 := Rby.at_val (hs 50 (by kernel_rfl)) (c := .bool true) (by kernel_rfl)
      have gy : yl 25 = some true := hy 25 50 (by kernel_rfl) true g0
      have e55 := Rby.at_val (hs 55 (by kernel_rfl)) (c := .bool false) (by kernel_rfl)
      clear hf hs hy
      have HJ := hid hJ
      clear hJ
      go_simp
      refine (lyes_at _ _).mono ?_
      rintro e V2 ⟨rfl, hb⟩
      have HB := hid hb
      clear hb
      go_wp2_with fail
      exact hK.out _ _ (fun d hd => by cases hd; exact Rby.Ex.val (by kernel_rfl)) (HJ.out.step HB.out) HB.out
    · intro ac V yl K hf hs hy hJ hK
      have g0 := Rby.at_val (hs 50 (by kernel_rfl)) (c := .bool true) (by kernel_rfl)
      have gy : yl 25 = some true := hy 25 50 (by kernel_rfl) true g0
      have e53 := Rby.at_val (hs 53 (by kernel_rfl)) (c := vV (yesV false)) (by kernel_rfl)
      have e56 := Rby.at_val (hs 56 (by kernel_rfl)) (c := vV (yesV false)) (by kernel_rfl)
      clear hf hs hy
      have HJ := hid hJ
      clear hJ
      go_simp
      exact hK.out _ _ (fun d hd => by cases hd; exact Rby.Ex.val (by kernel_rfl)) HJ.out (Below.refl _ _)
    · intro ac V yl K hf hs hy hJ hK
      have e50 := Rby.at_val (hs 50 (by kernel_rfl)) (c := .bool true) (by kernel_rfl)
      have e57 := Rby.at_val (hs 57 (by kernel_rfl)) (c := .bool true) (by kernel_rfl)
      clear hf hs hy
      have HJ := hid hJ
      clear hJ
      go_simp
      exact hK.out _ _ (fun d hd => by cases hd; exact Rby.Ex.val (by kernel_rfl)) HJ.out (Below.refl _ _)
    · intro ac V yl K hf hs hy hJ hK
      have e58 := Rby.at_val (hs 58 (by kernel_rfl)) (c := .bool true) (by kernel_rfl)
      clear hf hs hy
      have HJ := hid hJ
      clear hJ
      go_simp
      exact hK.out _ _ (fun d hd => by cases hd; exact Rby.Ex.val (by kernel_rfl)) HJ.out (Below.refl _ _)
    · intro ac V yl K hf hs hy hJ hK
      have g0 := Rby.at_val (hs 59 (by kernel_rfl)) (c := .bool true) (by kernel_rfl)
      have gy : yl 34 = some true := hy 34 59 (by kernel_rfl) true g0
      have e7 : ac.tmps[7]? = some (.pointer (some ⟨ba, 0, none⟩)) := (hf 7 (by kernel_rfl)).trans rfl
      obtain ⟨c0, c1⟩ := hJ.cs (ba) (yesV true) (by simp)
      clear hf hs hy
      have HJ := hid hJ
      clear hJ
      go_simp
      exact hK.out _ _ (fun d hd => by cases hd; exact Rby.Ex.val (by kernel_rfl)) HJ.out (Below.refl _ _)
    · intro ac V yl K hf hs hy hJ hK
      have g0 := Rby.at_val (hs 59 (by kernel_rfl)) (c := .bool true) (by kernel_rfl)
      have gy : yl 34 = some true := hy 34 59 (by kernel_rfl) true g0
      have e8 : ac.tmps[8]? = some (.pointer (some ⟨bb, 0, none⟩)) := (hf 8 (by kernel_rfl)).trans rfl
      obtain ⟨c0, c1⟩ := hJ.cs (bb) (yesV true) (by simp)
      clear hf hs hy
      have HJ := hid hJ
      clear hJ
      go_simp
      exact hK.out _ _ (fun d hd => by cases hd; exact Rby.Ex.val (by kernel_rfl)) HJ.out (Below.refl _ _)
    · intro ac V yl K hf hs hy hJ hK
      have g0 := Rby.at_val (hs 59 (by kernel_rfl)) (c := .bool true) (by kernel_rfl)
      have gy : yl 34 = some true := hy 34 59 (by kernel_rfl) true g0
      have e60 := Rby.at_val (hs 60 (by kernel_rfl)) (c := vV (yesV true)) (by kernel_rfl)
      have e61 := Rby.at_val (hs 61 (by kernel_rfl)) (c := vV (yesV true)) (by kernel_rfl)
      clear hf hs hy
      have HJ := hid hJ
      clear hJ
      go_simp
      exact hK.out _ _ (fun d hd => by cases hd; exact Rby.Ex.sl (l := [yesV true, yesV true]) (by kernel_rfl) (vsl2 (yesV true) (yesV true) V)) (HJ.out.alloc _) ((Below.refl _ _).alloc (Nat.le_refl _) _)
    · intro ac V yl K hf hs hy hJ hK
      have g0 := Rby.at_val (hs 59 (by kernel_rfl)) (c := .bool true) (by kernel_rfl)
      have gy : yl 34 = some true := hy 34 59 (by kernel_rfl) true g0
      obtain ⟨sb, e62, hsl⟩ := Rby.at_sl (hs 62 (by kernel_rfl)) (l := [yesV true, yesV true]) (by kernel_rfl)
      clear hf hs hy
      have HJ := hid hJ
      clear hJ
      have HSL := hid hsl
      clear hsl
      go_simp
      refine (ldo_at 11 [yesV true, yesV true] _ _ HSL.out).mono ?_
      rintro e V2 ⟨rfl, hb⟩
      rw [E3.out]
      have HB := hid hb
      clear hb
      go_wp2_with fail
      exact hK.out _ _ (fun d hd => by cases hd; exact Rby.Ex.val (by kernel_rfl)) (HJ.out.step HB.out) HB.out
    · intro ac V yl K hf hs hy hJ hK
      have g0 := Rby.at_val (hs 59 (by kernel_rfl)) (c := .bool true) (by kernel_rfl)
      have gy : yl 34 = some true := hy 34 59 (by kernel_rfl) true g0
      have e0 : ac.tmps[0]? = some (.bool true) := (hf 0 (by kernel_rfl)).trans rfl
      clear hf hs hy
      have HJ := hid hJ
      clear hJ
      go_simp
      exact hK.out _ _ (fun d hd => by cases hd; exact Rby.Ex.val (by kernel_rfl)) HJ.out (Below.refl _ _)
    · intro ac V yl K hf hs hy hJ hK
      have g0 := Rby.at_val (hs 59 (by kernel_rfl)) (c := .bool true) (by kernel_rfl)
      have gy : yl 34 = some true := hy 34 59 (by kernel_rfl) true g0
      have e1 : ac.tmps[1]? = some (.bool true) := (hf 1 (by kernel_rfl)).trans rfl
      clear hf hs hy
      have HJ := hid hJ
      clear hJ
      go_simp
      exact hK.out _ _ (fun d hd => by cases hd; exact Rby.Ex.val (by kernel_rfl)) HJ.out (Below.refl _ _)
    · intro ac V yl K hf hs hy hJ hK
      have g0 := Rby.at_val (hs 59 (by kernel_rfl)) (c := .bool true) (by kernel_rfl)
      have gy : yl 34 = some true := hy 34 59 (by kernel_rfl) true g0
      have e64 := Rby.at_val (hs 64 (by kernel_rfl)) (c := .bool true) (by kernel_rfl)
      have e65 := Rby.at_val (hs 65 (by kernel_rfl)) (c := .bool true) (by kernel_rfl)
      clear hf hs hy
      have HJ := hid hJ
      clear hJ
      go_simp
      exact hK.out _ _ (fun d hd => by cases hd; exact Rby.Ex.val (by kernel_rfl)) HJ.out (Below.refl _ _)
    · intro ac V yl K hf hs hy hJ hK
      have g0 := Rby.at_val (hs 59 (by kernel_rfl)) (c := .bool true) (by kernel_rfl)
      have gy : yl 34 = some true := hy 34 59 (by kernel_rfl) true g0
      have e66 := Rby.at_val (hs 66 (by kernel_rfl)) (c := .bool true) (by kernel_rfl)
      clear hf hs hy
      have HJ := hid hJ
      clear hJ
      go_simp
      refine (lyes_at _ _).mono ?_
      rintro e V2 ⟨rfl, hb⟩
      have HB := hid hb
      clear hb
      go_wp2_with fail
      exact hK.out _ _ (fun d hd => by cases hd; exact Rby.Ex.val (by kernel_rfl)) (HJ.out.step HB.out) HB.out
    · intro ac V yl K hf hs hy hJ hK
      have g0 := Rby.at_val (hs 59 (by kernel_rfl)) (c := .bool true) (by kernel_rfl)
      have gy : yl 34 = some true := hy 34 59 (by kernel_rfl) true g0
      have e63 := Rby.at_val (hs 63 (by kernel_rfl)) (c := vV (yesV true)) (by kernel_rfl)
      have e67 := Rby.at_val (hs 67 (by kernel_rfl)) (c := vV (yesV true)) (by kernel_rfl)
      clear hf hs hy
      have HJ := hid hJ
      clear hJ
      go_simp
      exact hK.out _ _ (fun d hd => by cases hd; exact Rby.Ex.val (by kernel_rfl)) HJ.out (Below.refl _ _)
    · intro ac V yl K hf hs hy hJ hK
      have e59 := Rby.at_val (hs 59 (by kernel_rfl)) (c := .bool true) (by kernel_rfl)
      have e68 := Rby.at_val (hs 68 (by kernel_rfl)) (c := .bool true) (by kernel_rfl)
      clear hf hs hy
      have HJ := hid hJ
      clear hJ
      go_simp
      exact hK.out _ _ (fun d hd => by cases hd; exact Rby.Ex.val (by kernel_rfl)) HJ.out (Below.refl _ _)
    · intro ac V yl K hf hs hy hJ hK
      have e69 := Rby.at_val (hs 69 (by kernel_rfl)) (c := .bool true) (by kernel_rfl)
      clear hf hs hy
      have HJ := hid hJ
      clear hJ
      go_simp
      exact hK.out _ _ (fun d hd => by cases hd; exact Rby.Ex.val (by kernel_rfl)) HJ.out (Below.refl _ _)
    · intro ac V yl K hf hs hy hJ hK
      have g0 := Rby.at_val (hs 70 (by kernel_rfl)) (c := .bool true) (by kernel_rfl)
      have gy : yl 45 = some true := hy 45 70 (by kernel_rfl) true g0
      have e7 : ac.tmps[7]? = some (.pointer (some ⟨ba, 0, none⟩)) := (hf 7 (by kernel_rfl)).trans rfl
      obtain ⟨c0, c1⟩ := hJ.cs (ba) (yesV true) (by simp)
      clear hf hs hy
      have HJ := hid hJ
      clear hJ
      go_simp
      exact hK.out _ _ (fun d hd => by cases hd; exact Rby.Ex.val (by kernel_rfl)) HJ.out (Below.refl _ _)
    · intro ac V yl K hf hs hy hJ hK
      have g0 := Rby.at_val (hs 70 (by kernel_rfl)) (c := .bool true) (by kernel_rfl)
      have gy : yl 45 = some true := hy 45 70 (by kernel_rfl) true g0
      have e9 : ac.tmps[9]? = some (.pointer (some ⟨bx, 0, none⟩)) := (hf 9 (by kernel_rfl)).trans rfl
      obtain ⟨c0, c1⟩ := hJ.cs (bx) (numV n0) (by simp)
      clear hf hs hy
      have HJ := hid hJ
      clear hJ
      go_simp
      exact hK.out _ _ (fun d hd => by cases hd; exact Rby.Ex.val (by kernel_rfl)) HJ.out (Below.refl _ _)
    · intro ac V yl K hf hs hy hJ hK
      have g0 := Rby.at_val (hs 70 (by kernel_rfl)) (c := .bool true) (by kernel_rfl)
      have gy : yl 45 = some true := hy 45 70 (by kernel_rfl) true g0
      have e10 : ac.tmps[10]? = some (.pointer (some ⟨by_, 0, none⟩)) := (hf 10 (by kernel_rfl)).trans rfl
      obtain ⟨c0, c1⟩ := hJ.cs (by_) (numV n1) (by simp)
      clear hf hs hy
      have HJ := hid hJ
      clear hJ
      go_simp
      exact hK.out _ _ (fun d hd => by cases hd; exact Rby.Ex.val (by kernel_rfl)) HJ.out (Below.refl _ _)
    · intro ac V yl K hf hs hy hJ hK
      have g0 := Rby.at_val (hs 70 (by kernel_rfl)) (c := .bool true) (by kernel_rfl)
      have gy : yl 45 = some true := hy 45 70 (by kernel_rfl) true g0
      have e71 := Rby.at_val (hs 71 (by kernel_rfl)) (c := vV (yesV true)) (by kernel_rfl)
      have e72 := Rby.at_val (hs 72 (by kernel_rfl)) (c := vV (numV n0)) (by kernel_rfl)
      have e73 := Rby.at_val (hs 73 (by kernel_rfl)) (c := vV (numV n1)) (by kernel_rfl)
      clear hf hs hy
      have HJ := hid hJ
      clear hJ
      go_simp
      exact hK.out _ _ (fun d hd => by cases hd; exact Rby.Ex.sl (l := [yesV true, numV n0, numV n1]) (by kernel_rfl) (vsl3 (yesV true) (numV n0) (numV n1) V)) (HJ.out.alloc _) ((Below.refl _ _).alloc (Nat.le_refl _) _)
    · intro ac V yl K hf hs hy hJ hK
      have g0 := Rby.at_val (hs 70 (by kernel_rfl)) (c := .bool true) (by kernel_rfl)
      have gy : yl 45 = some true := hy 45 70 (by kernel_rfl) true g0
      obtain ⟨sb, e74, hsl⟩ := Rby.at_sl (hs 74 (by kernel_rfl)) (l := [yesV true, numV n0, numV n1]) (by kernel_rfl)
      clear hf hs hy
      have HJ := hid hJ
      clear hJ
      have HSL := hid hsl
      clear hsl
      go_simp
      refine (ldo_at 17 [yesV true, numV n0, numV n1] _ _ HSL.out).mono ?_
      rintro e V2 ⟨rfl, hb⟩
      rw [E4.out]
      have HB := hid hb
      clear hb
      go_wp2_with fail
      exact hK.out _ _ (fun d hd => by cases hd; exact Rby.Ex.val (by kernel_rfl)) (HJ.out.step HB.out) HB.out
    · intro ac V yl K hf hs hy hJ hK
      have g0 := Rby.at_val (hs 70 (by kernel_rfl)) (c := .bool true) (by kernel_rfl)
      have gy : yl 45 = some true := hy 45 70 (by kernel_rfl) true g0
      have e11 : ac.tmps[11]? = some (.pointer (some ⟨bw, 0, none⟩)) := (hf 11 (by kernel_rfl)).trans rfl
      obtain ⟨c0, c1⟩ := hJ.cs (bw) (numV n0) (by simp)
      clear hf hs hy
      have HJ := hid hJ
      clear hJ
      go_simp
      exact hK.out _ _ (fun d hd => by cases hd; exact Rby.Ex.val (by kernel_rfl)) HJ.out (Below.refl _ _)
    · intro ac V yl K hf hs hy hJ hK
      have g0 := Rby.at_val (hs 70 (by kernel_rfl)) (c := .bool true) (by kernel_rfl)
      have gy : yl 45 = some true := hy 45 70 (by kernel_rfl) true g0
      have e75 := Rby.at_val (hs 75 (by kernel_rfl)) (c := vV (numV n0)) (by kernel_rfl)
      have e76 := Rby.at_val (hs 76 (by kernel_rfl)) (c := vV (numV n0)) (by kernel_rfl)
      clear hf hs hy
      have HJ := hid hJ
      clear hJ
      go_simp
      exact hK.out _ _ (fun d hd => by cases hd; exact Rby.Ex.val (by kernel_rfl)) HJ.out (Below.refl _ _)
    · intro ac V yl K hf hs hy hJ hK
      have e70 := Rby.at_val (hs 70 (by kernel_rfl)) (c := .bool true) (by kernel_rfl)
      have e77 := Rby.at_val (hs 77 (by kernel_rfl)) (c := .bool true) (by kernel_rfl)
      clear hf hs hy
      have HJ := hid hJ
      clear hJ
      go_simp
      exact hK.out _ _ (fun d hd => by cases hd; exact Rby.Ex.val (by kernel_rfl)) HJ.out (Below.refl _ _)
    · intro ac V yl K hf hs hy hJ hK
      have e78 := Rby.at_val (hs 78 (by kernel_rfl)) (c := .bool true) (by kernel_rfl)
      clear hf hs hy
      have HJ := hid hJ
      clear hJ
      go_simp
      exact hK.out _ _ (fun d hd => by cases hd; exact Rby.Ex.val (by kernel_rfl)) HJ.out (Below.refl _ _)
    · intro ac V yl K hf hs hy hJ hK
      have g0 := Rby.at_val (hs 79 (by kernel_rfl)) (c := .bool true) (by kernel_rfl)
      have gy : yl 54 = some true := hy 54 79 (by kernel_rfl) true g0
      have e7 : ac.tmps[7]? = some (.pointer (some ⟨ba, 0, none⟩)) := (hf 7 (by kernel_rfl)).trans rfl
      obtain ⟨c0, c1⟩ := hJ.cs (ba) (yesV true) (by simp)
      clear hf hs hy
      have HJ := hid hJ
      clear hJ
      go_simp
      exact hK.out _ _ (fun d hd => by cases hd; exact Rby.Ex.val (by kernel_rfl)) HJ.out (Below.refl _ _)
    · intro ac V yl K hf hs hy hJ hK
      have g0 := Rby.at_val (hs 79 (by kernel_rfl)) (c := .bool true) (by kernel_rfl)
      have gy : yl 54 = some true := hy 54 79 (by kernel_rfl) true g0
      have e8 : ac.tmps[8]? = some (.pointer (some ⟨bb, 0, none⟩)) := (hf 8 (by kernel_rfl)).trans rfl
      obtain ⟨c0, c1⟩ := hJ.cs (bb) (yesV true) (by simp)
      clear hf hs hy
      have HJ := hid hJ
      clear hJ
      go_simp
      exact hK.out _ _ (fun d hd => by cases hd; exact Rby.Ex.val (by kernel_rfl)) HJ.out (Below.refl _ _)
    · intro ac V yl K hf hs hy hJ hK
      have g0 := Rby.at_val (hs 79 (by kernel_rfl)) (c := .bool true) (by kernel_rfl)
      have gy : yl 54 = some true := hy 54 79 (by kernel_rfl) true g0
      have e7 : ac.tmps[7]? = some (.pointer (some ⟨ba, 0, none⟩)) := (hf 7 (by kernel_rfl)).trans rfl
      obtain ⟨c0, c1⟩ := hJ.cs (ba) (yesV true) (by simp)
      clear hf hs hy
      have HJ := hid hJ
      clear hJ
      go_simp
      exact hK.out _ _ (fun d hd => by cases hd; exact Rby.Ex.val (by kernel_rfl)) HJ.out (Below.refl _ _)
    · intro ac V yl K hf hs hy hJ hK
      have g0 := Rby.at_val (hs 79 (by kernel_rfl)) (c := .bool true) (by kernel_rfl)
      have gy : yl 54 = some true := hy 54 79 (by kernel_rfl) true g0
      have e80 := Rby.at_val (hs 80 (by kernel_rfl)) (c := vV (yesV true)) (by kernel_rfl)
      have e81 := Rby.at_val (hs 81 (by kernel_rfl)) (c := vV (yesV true)) (by kernel_rfl)
      have e82 := Rby.at_val (hs 82 (by kernel_rfl)) (c := vV (yesV true)) (by kernel_rfl)
      clear hf hs hy
      have HJ := hid hJ
      clear hJ
      go_simp
      exact hK.out _ _ (fun d hd => by cases hd; exact Rby.Ex.sl (l := [yesV true, yesV true, yesV true]) (by kernel_rfl) (vsl3 (yesV true) (yesV true) (yesV true) V)) (HJ.out.alloc _) ((Below.refl _ _).alloc (Nat.le_refl _) _)
    · intro ac V yl K hf hs hy hJ hK
      have g0 := Rby.at_val (hs 79 (by kernel_rfl)) (c := .bool true) (by kernel_rfl)
      have gy : yl 54 = some true := hy 54 79 (by kernel_rfl) true g0
      obtain ⟨sb, e83, hsl⟩ := Rby.at_sl (hs 83 (by kernel_rfl)) (l := [yesV true, yesV true, yesV true]) (by kernel_rfl)
      clear hf hs hy
      have HJ := hid hJ
      clear hJ
      have HSL := hid hsl
      clear hsl
      go_simp
      refine (ldo_at 17 [yesV true, yesV true, yesV true] _ _ HSL.out).mono ?_
      rintro e V2 ⟨rfl, hb⟩
      rw [E5.out]
      have HB := hid hb
      clear hb
      go_wp2_with fail
      exact hK.out _ _ (fun d hd => by cases hd; exact Rby.Ex.val (by kernel_rfl)) (HJ.out.step HB.out) HB.out
    · intro ac V yl K hf hs hy hJ hK
      have g0 := Rby.at_val (hs 79 (by kernel_rfl)) (c := .bool true) (by kernel_rfl)
      have gy : yl 54 = some true := hy 54 79 (by kernel_rfl) true g0
      have e7 : ac.tmps[7]? = some (.pointer (some ⟨ba, 0, none⟩)) := (hf 7 (by kernel_rfl)).trans rfl
      obtain ⟨c0, c1⟩ := hJ.cs (ba) (yesV true) (by simp)
      clear hf hs hy
      have HJ := hid hJ
      clear hJ
      go_simp
      exact hK.out _ _ (fun d hd => by cases hd; exact Rby.Ex.val (by kernel_rfl)) HJ.out (Below.refl _ _)
    · intro ac V yl K hf hs hy hJ hK
      have g0 := Rby.at_val (hs 79 (by kernel_rfl)) (c := .bool true) (by kernel_rfl)
      have gy : yl 54 = some true := hy 54 79 (by kernel_rfl) true g0
      have e8 : ac.tmps[8]? = some (.pointer (some ⟨bb, 0, none⟩)) := (hf 8 (by kernel_rfl)).trans rfl
      obtain ⟨c0, c1⟩ := hJ.cs (bb) (yesV true) (by simp)
      clear hf hs hy
      have HJ := hid hJ
      clear hJ
      go_simp
      exact hK.out _ _ (fun d hd => by cases hd; exact Rby.Ex.val (by kernel_rfl)) HJ.out (Below.refl _ _)
    · intro ac V yl K hf hs hy hJ hK
      have g0 := Rby.at_val (hs 79 (by kernel_rfl)) (c := .bool true) (by kernel_rfl)
      have gy : yl 54 = some true := hy 54 79 (by kernel_rfl) true g0
      have e85 := Rby.at_val (hs 85 (by kernel_rfl)) (c := vV (yesV true)) (by kernel_rfl)
      have e86 := Rby.at_val (hs 86 (by kernel_rfl)) (c := vV (yesV true)) (by kernel_rfl)
      clear hf hs hy
      have HJ := hid hJ
      clear hJ
      go_simp
      exact hK.out _ _ (fun d hd => by cases hd; exact Rby.Ex.sl (l := [yesV true, yesV true]) (by kernel_rfl) (vsl2 (yesV true) (yesV true) V)) (HJ.out.alloc _) ((Below.refl _ _).alloc (Nat.le_refl _) _)
    · intro ac V yl K hf hs hy hJ hK
      have g0 := Rby.at_val (hs 79 (by kernel_rfl)) (c := .bool true) (by kernel_rfl)
      have gy : yl 54 = some true := hy 54 79 (by kernel_rfl) true g0
      obtain ⟨sb, e87, hsl⟩ := Rby.at_sl (hs 87 (by kernel_rfl)) (l := [yesV true, yesV true]) (by kernel_rfl)
      clear hf hs hy
      have HJ := hid hJ
      clear hJ
      have HSL := hid hsl
      clear hsl
      go_simp
      refine (ldo_at 15 [yesV true, yesV true] _ _ HSL.out).mono ?_
      rintro e V2 ⟨rfl, hb⟩
      rw [E0.out]
      have HB := hid hb
      clear hb
      go_wp2_with fail
      exact hK.out _ _ (fun d hd => by cases hd; exact Rby.Ex.val (by kernel_rfl)) (HJ.out.step HB.out) HB.out
    · intro ac V yl K hf hs hy hJ hK
      have g0 := Rby.at_val (hs 79 (by kernel_rfl)) (c := .bool true) (by kernel_rfl)
      have gy : yl 54 = some true := hy 54 79 (by kernel_rfl) true g0
      have e84 := Rby.at_val (hs 84 (by kernel_rfl)) (c := vV (yesV true)) (by kernel_rfl)
      have e88 := Rby.at_val (hs 88 (by kernel_rfl)) (c := vV (yesV true)) (by kernel_rfl)
      clear hf hs hy
      have HJ := hid hJ
      clear hJ
      go_simp
      exact hK.out _ _ (fun d hd => by cases hd; exact Rby.Ex.val (by kernel_rfl)) HJ.out (Below.refl _ _)
    · intro ac V yl K hf hs hy hJ hK
      have e79 := Rby.at_val (hs 79 (by kernel_rfl)) (c := .bool true) (by kernel_rfl)
      have e89 := Rby.at_val (hs 89 (by kernel_rfl)) (c := .bool true) (by kernel_rfl)
      clear hf hs hy
      have HJ := hid hJ
      clear hJ
      go_simp
      exact hK.out _ _ (fun d hd => by cases hd; exact Rby.Ex.val (by kernel_rfl)) HJ.out (Below.refl _ _)
    · intro ac V yl K hf hs hy hJ hK
      have e90 := Rby.at_val (hs 90 (by kernel_rfl)) (c := .bool true) (by kernel_rfl)
      clear hf hs hy
      have HJ := hid hJ
      clear hJ
      go_simp
      exact hK.out _ _ (fun d hd => by cases hd; exact Rby.Ex.val (by kernel_rfl)) HJ.out (Below.refl _ _)
    · intro ac V yl K hf hs hy hJ hK
      have g0 := Rby.at_val (hs 91 (by kernel_rfl)) (c := .bool true) (by kernel_rfl)
      have gy : yl 66 = some true := hy 66 91 (by kernel_rfl) true g0
      have e7 : ac.tmps[7]? = some (.pointer (some ⟨ba, 0, none⟩)) := (hf 7 (by kernel_rfl)).trans rfl
      obtain ⟨c0, c1⟩ := hJ.cs (ba) (yesV true) (by simp)
      clear hf hs hy
      have HJ := hid hJ
      clear hJ
      go_simp
      exact hK.out _ _ (fun d hd => by cases hd; exact Rby.Ex.val (by kernel_rfl)) HJ.out (Below.refl _ _)
    · intro ac V yl K hf hs hy hJ hK
      have g0 := Rby.at_val (hs 91 (by kernel_rfl)) (c := .bool true) (by kernel_rfl)
      have gy : yl 66 = some true := hy 66 91 (by kernel_rfl) true g0
      have e8 : ac.tmps[8]? = some (.pointer (some ⟨bb, 0, none⟩)) := (hf 8 (by kernel_rfl)).trans rfl
      obtain ⟨c0, c1⟩ := hJ.cs (bb) (yesV true) (by simp)
      clear hf hs hy
      have HJ := hid hJ
      clear hJ
      go_simp
      exact hK.out _ _ (fun d hd => by cases hd; exact Rby.Ex.val (by kernel_rfl)) HJ.out (Below.refl _ _)
    · intro ac V yl K hf hs hy hJ hK
      have g0 := Rby.at_val (hs 91 (by kernel_rfl)) (c := .bool true) (by kernel_rfl)
      have gy : yl 66 = some true := hy 66 91 (by kernel_rfl) true g0
      have e92 := Rby.at_val (hs 92 (by kernel_rfl)) (c := vV (yesV true)) (by kernel_rfl)
      have e93 := Rby.at_val (hs 93 (by kernel_rfl)) (c := vV (yesV true)) (by kernel_rfl)
      clear hf hs hy
      have HJ := hid hJ
      clear hJ
      go_simp
      exact hK.out _ _ (fun d hd => by cases hd; exact Rby.Ex.sl (l := [yesV true, yesV true]) (by kernel_rfl) (vsl2 (yesV true) (yesV true) V)) (HJ.out.alloc _) ((Below.refl _ _).alloc (Nat.le_refl _) _)
    · intro ac V yl K hf hs hy hJ hK
      have g0 := Rby.at_val (hs 91 (by kernel_rfl)) (c := .bool true) (by kernel_rfl)
      have gy : yl 66 = some true := hy 66 91 (by kernel_rfl) true g0
      obtain ⟨sb, e94, hsl⟩ := Rby.at_sl (hs 94 (by kernel_rfl)) (l := [yesV true, yesV true]) (by kernel_rfl)
      clear hf hs hy
      have HJ := hid hJ
      clear hJ
      have HSL := hid hsl
      clear hsl
      go_simp
      refine (ldo_at 15 [yesV true, yesV true] _ _ HSL.out).mono ?_
      rintro e V2 ⟨rfl, hb⟩
      rw [E0.out]
      have HB := hid hb
      clear hb
      go_wp2_with fail
      exact hK.out _ _ (fun d hd => by cases hd; exact Rby.Ex.val (by kernel_rfl)) (HJ.out.step HB.out) HB.out
    · intro ac V yl K hf hs hy hJ hK
      have g0 := Rby.at_val (hs 91 (by kernel_rfl)) (c := .bool true) (by kernel_rfl)
      have gy : yl 66 = some true := hy 66 91 (by kernel_rfl) true g0
      have e95 := Rby.at_val (hs 95 (by kernel_rfl)) (c := vV (yesV true)) (by kernel_rfl)
      clear hf hs hy
      have HJ := hid hJ
      clear hJ
      go_simp
      exact hK.out _ _ (fun d hd => by cases hd; exact Rby.Ex.sl (l := [yesV true]) (by kernel_rfl) (vsl1 (yesV true) V)) (HJ.out.alloc _) ((Below.refl _ _).alloc (Nat.le_refl _) _)
    · intro ac V yl K hf hs hy hJ hK
      have g0 := Rby.at_val (hs 91 (by kernel_rfl)) (c := .bool true) (by kernel_rfl)
      have gy : yl 66 = some true := hy 66 91 (by kernel_rfl) true g0
      obtain ⟨sb, e96, hsl⟩ := Rby.at_sl (hs 96 (by kernel_rfl)) (l := [yesV true]) (by kernel_rfl)
      clear hf hs hy
      have HJ := hid hJ
      clear hJ
      have HSL := hid hsl
      clear hsl
      go_simp
      refine (ldo_at 5 [yesV true] _ _ HSL.out).mono ?_
      rintro e V2 ⟨rfl, hb⟩
      rw [E2.out]
      have HB := hid hb
      clear hb
      go_wp2_with fail
      exact hK.out _ _ (fun d hd => by cases hd; exact Rby.Ex.val (by kernel_rfl)) (HJ.out.step HB.out) HB.out
    · intro ac V yl K hf hs hy hJ hK
      have g0 := Rby.at_val (hs 91 (by kernel_rfl)) (c := .bool true) (by kernel_rfl)
      have gy : yl 66 = some true := hy 66 91 (by kernel_rfl) true g0
      have e7 : ac.tmps[7]? = some (.pointer (some ⟨ba, 0, none⟩)) := (hf 7 (by kernel_rfl)).trans rfl
      obtain ⟨c0, c1⟩ := hJ.cs (ba) (yesV true) (by simp)
      clear hf hs hy
      have HJ := hid hJ
      clear hJ
      go_simp
      exact hK.out _ _ (fun d hd => by cases hd; exact Rby.Ex.val (by kernel_rfl)) HJ.out (Below.refl _ _)
    · intro ac V yl K hf hs hy hJ hK
      have g0 := Rby.at_val (hs 91 (by kernel_rfl)) (c := .bool true) (by kernel_rfl)
      have gy : yl 66 = some true := hy 66 91 (by kernel_rfl) true g0
      have e98 := Rby.at_val (hs 98 (by kernel_rfl)) (c := vV (yesV true)) (by kernel_rfl)
      clear hf hs hy
      have HJ := hid hJ
      clear hJ
      go_simp
      exact hK.out _ _ (fun d hd => by cases hd; exact Rby.Ex.sl (l := [yesV true]) (by kernel_rfl) (vsl1 (yesV true) V)) (HJ.out.alloc _) ((Below.refl _ _).alloc (Nat.le_refl _) _)
    · intro ac V yl K hf hs hy hJ hK
      have g0 := Rby.at_val (hs 91 (by kernel_rfl)) (c := .bool true) (by kernel_rfl)
      have gy : yl 66 = some true := hy 66 91 (by kernel_rfl) true g0
      obtain ⟨sb, e99, hsl⟩ := Rby.at_sl (hs 99 (by kernel_rfl)) (l := [yesV true]) (by kernel_rfl)
      clear hf hs hy
      have HJ := hid hJ
      clear hJ
      have HSL := hid hsl
      clear hsl
      go_simp
      refine (ldo_at 5 [yesV true] _ _ HSL.out).mono ?_
      rintro e V2 ⟨rfl, hb⟩
      rw [E2.out]
      have HB := hid hb
      clear hb
      go_wp2_with fail
      exact hK.out _ _ (fun d hd => by cases hd; exact Rby.Ex.val (by kernel_rfl)) (HJ.out.step HB.out) HB.out
    · intro ac V yl K hf hs hy hJ hK
      have g0 := Rby.at_val (hs 91 (by kernel_rfl)) (c := .bool true) (by kernel_rfl)
      have gy : yl 66 = some true := hy 66 91 (by kernel_rfl) true g0
      have e8 : ac.tmps[8]? = some (.pointer (some ⟨bb, 0, none⟩)) := (hf 8 (by kernel_rfl)).trans rfl
      obtain ⟨c0, c1⟩ := hJ.cs (bb) (yesV true) (by simp)
      clear hf hs hy
      have HJ := hid hJ
      clear hJ
      go_simp
      exact hK.out _ _ (fun d hd => by cases hd; exact Rby.Ex.val (by kernel_rfl)) HJ.out (Below.refl _ _)
    · intro ac V yl K hf hs hy hJ hK
      have g0 := Rby.at_val (hs 91 (by kernel_rfl)) (c := .bool true) (by kernel_rfl)
      have gy : yl 66 = some true := hy 66 91 (by kernel_rfl) true g0
      have e101 := Rby.at_val (hs 101 (by kernel_rfl)) (c := vV (yesV true)) (by kernel_rfl)
      clear hf hs hy
      have HJ := hid hJ
      clear hJ
      go_simp
      exact hK.out _ _ (fun d hd => by cases hd; exact Rby.Ex.sl (l := [yesV true]) (by kernel_rfl) (vsl1 (yesV true) V)) (HJ.out.alloc _) ((Below.refl _ _).alloc (Nat.le_refl _) _)
    · intro ac V yl K hf hs hy hJ hK
      have g0 := Rby.at_val (hs 91 (by kernel_rfl)) (c := .bool true) (by kernel_rfl)
      have gy : yl 66 = some true := hy 66 91 (by kernel_rfl) true g0
      obtain ⟨sb, e102, hsl⟩ := Rby.at_sl (hs 102 (by kernel_rfl)) (l := [yesV true]) (by kernel_rfl)
      clear hf hs hy
      have HJ := hid hJ
      clear hJ
      have HSL := hid hsl
      clear hsl
      go_simp
      refine (ldo_at 5 [yesV true] _ _ HSL.out).mono ?_
      rintro e V2 ⟨rfl, hb⟩
      rw [E2.out]
      have HB := hid hb
      clear hb
      go_wp2_with fail
      exact hK.out _ _ (fun d hd => by cases hd; exact Rby.Ex.val (by kernel_rfl)) (HJ.out.step HB.out) HB.out
    · intro ac V yl K hf hs hy hJ hK
      have g0 := Rby.at_val (hs 91 (by kernel_rfl)) (c := .bool true) (by kernel_rfl)
      have gy : yl 66 = some true := hy 66 91 (by kernel_rfl) true g0
      have e100 := Rby.at_val (hs 100 (by kernel_rfl)) (c := vV (yesV false)) (by kernel_rfl)
      have e103 := Rby.at_val (hs 103 (by kernel_rfl)) (c := vV (yesV false)) (by kernel_rfl)
      clear hf hs hy
      have HJ := hid hJ
      clear hJ
      go_simp
      exact hK.out _ _ (fun d hd => by cases hd; exact Rby.Ex.sl (l := [yesV false, yesV false]) (by kernel_rfl) (vsl2 (yesV false) (yesV false) V)) (HJ.out.alloc _) ((Below.refl _ _).alloc (Nat.le_refl _) _)
    · intro ac V yl K hf hs hy hJ hK
      have g0 := Rby.at_val (hs 91 (by kernel_rfl)) (c := .bool true) (by kernel_rfl)
      have gy : yl 66 = some true := hy 66 91 (by kernel_rfl) true g0
      obtain ⟨sb, e104, hsl⟩ := Rby.at_sl (hs 104 (by kernel_rfl)) (l := [yesV false, yesV false]) (by kernel_rfl)
      clear hf hs hy
      have HJ := hid hJ
      clear hJ
      have HSL := hid hsl
      clear hsl
      go_simp
      refine (ldo_at 16 [yesV false, yesV false] _ _ HSL.out).mono ?_
      rintro e V2 ⟨rfl, hb⟩
      rw [E6.out]
      have HB := hid hb
      clear hb
      go_wp2_with fail
      exact hK.out _ _ (fun d hd => by cases hd; exact Rby.Ex.val (by kernel_rfl)) (HJ.out.step HB.out) HB.out
    · intro ac V yl K hf hs hy hJ hK
      have g0 := Rby.at_val (hs 91 (by kernel_rfl)) (c := .bool true) (by kernel_rfl)
      have gy : yl 66 = some true := hy 66 91 (by kernel_rfl) true g0
      have e97 := Rby.at_val (hs 97 (by kernel_rfl)) (c := vV (yesV false)) (by kernel_rfl)
      have e105 := Rby.at_val (hs 105 (by kernel_rfl)) (c := vV (yesV false)) (by kernel_rfl)
      clear hf hs hy
      have HJ := hid hJ
      clear hJ
      go_simp
      exact hK.out _ _ (fun d hd => by cases hd; exact Rby.Ex.val (by kernel_rfl)) HJ.out (Below.refl _ _)
    · intro ac V yl K hf hs hy hJ hK
      have e91 := Rby.at_val (hs 91 (by kernel_rfl)) (c := .bool true) (by kernel_rfl)
      have e106 := Rby.at_val (hs 106 (by kernel_rfl)) (c := .bool true) (by kernel_rfl)
      clear hf hs hy
      have HJ := hid hJ
      clear hJ
      go_simp
      exact hK.out _ _ (fun d hd => by cases hd; exact Rby.Ex.val (by kernel_rfl)) HJ.out (Below.refl _ _)
    · intro ac V yl K hf hs hy hJ hK
      have e107 := Rby.at_val (hs 107 (by kernel_rfl)) (c := .bool true) (by kernel_rfl)
      clear hf hs hy
      have HJ := hid hJ
      clear hJ
      go_simp
      exact hK.out _ _ (fun d hd => by cases hd; exact Rby.Ex.val (by kernel_rfl)) HJ.out (Below.refl _ _)
  case fin =>
    intro ac V hd hsz hf hh hJ
    have e6 := Rby.at_val (hh 6 (by kernel_rfl)) (c := .bool true) (by kernel_rfl)
    have HJ := hid hJ
    clear hf hh hJ hsz
    obtain ⟨tm, df⟩ := ac
    obtain rfl : df = [] := hd
    simp only at e6
    go_wp2_with (fail)
    go_ret
    exact ⟨by simp [e6], HJ.out.below⟩
/-- What each slot holds behind its operation. -/
def yestfT (n0 n1 : Int) : List (Nat × (Value ⊕ List Vl)) := [(25, .inl (.bool true)), (26, .inl (.bool true)), (27, .inl (vV (yesV true))), (28, .inl (vV (yesV false))), (29, .inr [yesV true, yesV false]), (30, .inl (vV (yesV false))), (31, .inl (.bool true)), (32, .inl (.bool true)), (33, .inl (.bool false)), (34, .inl (.bool false)), (35, .inl (vV (yesV false))), (36, .inl (.bool true)), (37, .inl (.bool true)), (38, .inl (.bool true)), (39, .inl (vV (yesV true))), (40, .inl (vV (yesV false))), (41, .inr [yesV true, yesV false]), (42, .inl (vV (yesV true))), (43, .inl (.bool true)), (44, .inl (.bool true)), (45, .inl (undef)), (46, .inl (.bool true)), (47, .inl (vV (yesV true))), (48, .inl (.bool true)), (49, .inl (.bool true)), (50, .inl (.bool true)), (51, .inl (vV (yesV true))), (52, .inr [yesV true]), (53, .inl (vV (yesV false))), (54, .inl (.bool true)), (55, .inl (.bool false)), (56, .inl (vV (yesV false))), (57, .inl (.bool true)), (58, .inl (.bool true)), (59, .inl (.bool true)), (60, .inl (vV (yesV true))), (61, .inl (vV (yesV false))), (62, .inr [yesV true, yesV false]), (63, .inl (vV (yesV false))), (64, .inl (.bool true)), (65, .inl (.bool false)), (66, .inl (.bool false)), (67, .inl (vV (yesV false))), (68, .inl (.bool true)), (69, .inl (.bool true)), (70, .inl (.bool true)), (71, .inl (vV (yesV true))), (72, .inl (vV (numV n0))), (73, .inl (vV (numV n1))), (74, .inr [yesV true, numV n0, numV n1]), (75, .inl (vV (numV n0))), (76, .inl (vV (numV n0))), (77, .inl (.bool true)), (78, .inl (.bool true)), (79, .inl (.bool true)), (80, .inl (vV (yesV true))), (81, .inl (vV (yesV false))), (82, .inl (vV (yesV true))), (83, .inr [yesV true, yesV false, yesV true]), (84, .inl (vV (yesV false))), (85, .inl (vV (yesV true))), (86, .inl (vV (yesV false))), (87, .inr [yesV true, yesV false]), (88, .inl (vV (yesV false))), (89, .inl (.bool true)), (90, .inl (.bool true)), (91, .inl (.bool true)), (92, .inl (vV (yesV true))), (93, .inl (vV (yesV false))), (94, .inr [yesV true, yesV false]), (95, .inl (vV (yesV false))), (96, .inr [yesV false]), (97, .inl (vV (yesV true))), (98, .inl (vV (yesV true))), (99, .inr [yesV true]), (100, .inl (vV (yesV false))), (101, .inl (vV (yesV false))), (102, .inr [yesV false]), (103, .inl (vV (yesV true))), (104, .inr [yesV false, yesV true]), (105, .inl (vV (yesV true))), (106, .inl (.bool true)), (107, .inl (.bool true)), (6, .inl (.bool true))]
set_option maxRecDepth 100000 in
theorem walk6tf (n0 n1 : Int) (w : World) (hT : TabP w) : Calls Tryd.prog 6 #[.bool true, .bool false, .agg #[.int .i64 n0, .int .i64 n1]] w fun e w' => e = .returned (.bool true) ∧ Below w.heap.size w w' := by
  have R0 := hid (LV.start hT)
  have E0 : Hid (doE 15 [yesV true, yesV false] = yesV false) := hid rfl
  have E1 : Hid (doE 16 [yesV true, yesV false] = yesV true) := hid rfl
  have E2 : Hid (doE 5 [yesV true] = yesV false) := hid rfl
  have E3 : Hid (doE 11 [yesV true, yesV false] = yesV false) := hid rfl
  have E4 : Hid (doE 17 [yesV true, numV n0, numV n1] = numV n0) := hid rfl
  have E5 : Hid (doE 17 [yesV true, yesV false, yesV true] = yesV false) := hid rfl
  have E6 : Hid (doE 5 [yesV false] = yesV true) := hid rfl
  have E7 : Hid (doE 16 [yesV false, yesV true] = yesV true) := hid rfl
  replace R0 := hid (R0.out.alloc (.cells #[.int .i64 n0, .int .i64 n1] 33))
  have y0 : (w.alloc (.cells #[.int .i64 n0, .int .i64 n1] 33)).heap[w.heap.size]? = some (.cells #[.int .i64 n0, .int .i64 n1] 33 (0, 0)) := heap_alloc_new w _
  have Y0 := hid y0
  clear hT y0
  go_enter Tryd.func6, Tryd.ntmps6
  go_wp2_with (fail)
  generalize hW0 : w.alloc (.cells #[.int .i64 n0, .int .i64 n1] 33) = W0 at *
  have HW0 := hid hW0
  clear hW0
  refine (lyes_at _ _).mono ?_
  rintro e v1 ⟨rfl, hb⟩
  have R1 := hid (R0.out.step hb)
  replace Y0 := hid (keep_row Y0.out hb)
  clear hb
  have R2 := hid (R1.out.push (yesV true) (b := v1.heap.size) rfl)
  go_wp2_with (fail)
  refine (lyes_at _ _).mono ?_
  rintro e v3 ⟨rfl, hb⟩
  have R3 := hid (R2.out.step hb)
  replace Y0 := hid (keep_row (push_old Y0.out) hb)
  clear hb
  generalize v1.heap.size = ba at *
  have R4 := hid (R3.out.push (yesV false) (b := v3.heap.size) rfl)
  have z0 := (cell_of_row _ _ 0 _ 33 (0, 0) (push_old (o' := .cells (vC (yesV false)) 24) Y0.out)).trans (show _ = some (.int .i64 n0) from rfl)
  go_wp2_with (fail)
  clear z0
  refine (lnumber_at _ _).mono ?_
  rintro e v5 ⟨rfl, hb⟩
  have R5 := hid (R4.out.step hb)
  replace Y0 := hid (keep_row (push_old Y0.out) hb)
  clear hb
  generalize v3.heap.size = bb at *
  have R6 := hid (R5.out.push (numV n0) (b := v5.heap.size) rfl)
  have z0 := (cell_of_row _ _ 1 _ 33 (0, 0) (push_old (o' := .cells (vC (numV n0)) 24) Y0.out)).trans (show _ = some (.int .i64 n1) from rfl)
  go_wp2_with (fail)
  clear z0
  refine (lnumber_at _ _).mono ?_
  rintro e v7 ⟨rfl, hb⟩
  have R7 := hid (R6.out.step hb)
  replace Y0 := hid (keep_row (push_old Y0.out) hb)
  clear hb
  generalize v5.heap.size = bx at *
  have R8 := hid (R7.out.push (numV n1) (b := v7.heap.size) rfl)
  have RW := hid (R8.out.push (numV n1) (b := v7.heap.size + 1) (by simp))
  obtain ⟨c00, c01⟩ := R8.out.cs (v7.heap.size) (numV n1) (by simp)
  obtain ⟨c10, c11⟩ := R8.out.cs (bx) (numV n0) (by simp)
  obtain ⟨c20, c21⟩ := R8.out.cs (bb) (yesV false) (by simp)
  obtain ⟨c30, c31⟩ := R8.out.cs (ba) (yesV true) (by simp)
  obtain ⟨d0, d1⟩ := RW.out.cs bx (numV n0) (by simp)
  have xw := RW.out.rows (v7.heap.size + 1, numV n1) List.mem_cons_self
  go_wp2_with (refine wpList_store_row rfl 24 _ _ rfl (v7.heap.size + 1) (vC (numV n0)) rfl rfl 24 _ xw info24 rfl (by simp [Value.oneCell']) ?_)
  clear c00 c01 c10 c11 c20 c21 c30 c31
  clear d0 d1 xw
  have RV := hid (LV.setRow (W0 := v7.alloc (.cells (vC (numV n1)) 24)) R8.out ⟨RW.out.tab, RW.out.below, by simp, RW.out.rows, RW.out.sl⟩ (by simp) (numV n0))
  generalize ((v7.alloc (.cells (vC (numV n1)) 24)).alloc (.cells (vC (numV n1)) 24)).setRow (v7.heap.size + 1) (vC (numV n0)) = W8 at *
  have RS := hid RV.out.rebase
  clear RV RW R8 Y0 HW0
  generalize v7.heap.size + 1 = bw at *
  generalize v7.heap.size = by_ at *
  refine Rby.region_by (J := fun V => LV w W8.heap.size [(bw, numV n0), (by_, numV n1), (bx, numV n0), (bb, yesV false), (ba, yesV true)] [] V) (E := Rby.Ex (yestfT n0 n1)) (by kernel_rfl) (by kernel_rfl) (by kernel_rfl) (by kernel_rfl) (Rby.Ex.keep _) RS.out.drew ?step ?fin
  case step =>
    refine Rby.AllL.cons ?_ <| Rby.AllL.cons ?_ <| Rby.AllL.cons ?_ <| Rby.AllL.cons ?_ <| Rby.AllL.cons ?_ <| Rby.AllL.cons ?_ <| Rby.AllL.cons ?_ <| Rby.AllL.cons ?_ <| Rby.AllL.cons ?_ <| Rby.AllL.cons ?_ <| Rby.AllL.cons ?_ <| Rby.AllL.cons ?_ <| Rby.AllL.cons ?_ <| Rby.AllL.cons ?_ <| Rby.AllL.cons ?_ <| Rby.AllL.cons ?_ <| Rby.AllL.cons ?_ <| Rby.AllL.cons ?_ <| Rby.AllL.cons ?_ <| Rby.AllL.cons ?_ <| Rby.AllL.cons ?_ <| Rby.AllL.cons ?_ <| Rby.AllL.cons ?_ <| Rby.AllL.cons ?_ <| Rby.AllL.cons ?_ <| Rby.AllL.cons ?_ <| Rby.AllL.cons ?_ <| Rby.AllL.cons ?_ <| Rby.AllL.cons ?_ <| Rby.AllL.cons ?_ <| Rby.AllL.cons ?_ <| Rby.AllL.cons ?_ <| Rby.AllL.cons ?_ <| Rby.AllL.cons ?_ <| Rby.AllL.cons ?_ <| Rby.AllL.cons ?_ <| Rby.AllL.cons ?_ <| Rby.AllL.cons ?_ <| Rby.AllL.cons ?_ <| Rby.AllL.cons ?_ <| Rby.AllL.cons ?_ <| Rby.AllL.cons ?_ <| Rby.AllL.cons ?_ <| Rby.AllL.cons ?_ <| Rby.AllL.cons ?_ <| Rby.AllL.cons ?_ <| Rby.AllL.cons ?_ <| Rby.AllL.cons ?_ <| Rby.AllL.cons ?_ <| Rby.AllL.cons ?_ <| Rby.AllL.cons ?_ <| Rby.AllL.cons ?_ <| Rby.AllL.cons ?_ <| Rby.AllL.cons ?_ <| Rby.AllL.cons ?_ <| Rby.AllL.cons ?_ <| Rby.AllL.cons ?_ <| Rby.AllL.cons ?_ <| Rby.AllL.cons ?_ <| Rby.AllL.cons ?_ <| Rby.AllL.cons ?_ <| Rby.AllL.cons ?_ <| Rby.AllL.cons ?_ <| Rby.AllL.cons ?_ <| Rby.AllL.cons ?_ <| Rby.AllL.cons ?_ <| Rby.AllL.cons ?_ <| Rby.AllL.cons ?_ <| Rby.AllL.cons ?_ <| Rby.AllL.cons ?_ <| Rby.AllL.cons ?_ <| Rby.AllL.cons ?_ <| Rby.AllL.cons ?_ <| Rby.AllL.cons ?_ <| Rby.AllL.cons ?_ <| Rby.AllL.cons ?_ <| Rby.AllL.cons ?_ <| Rby.AllL.cons ?_ <| Rby.AllL.cons ?_ <| Rby.AllL.cons ?_ <| Rby.AllL.cons ?_ <| Rby.AllL.cons ?_ <| Rby.AllL.cons ?_ <| Rby.AllL.cons ?_ <| Rby.AllL.nil
    · intro ac V yl K hf hs hy hJ hK
      clear hf hs hy
      have HJ := hid hJ
      clear hJ
      go_simp
      refine (alive_at _ HJ.out.tab).mono ?_
      rintro e V2 ⟨rfl, hb⟩
      have HB := hid hb
      clear hb
      go_wp2_with fail
      exact hK.out _ _ (fun d hd => by cases hd; exact Rby.Ex.val (by kernel_rfl)) (HJ.out.step HB.out) HB.out
    · intro ac V yl K hf hs hy hJ hK
      have e25 := Rby.at_val (hs 25 (by kernel_rfl)) (c := .bool true) (by kernel_rfl)
      clear hf hs hy
      have HJ := hid hJ
      clear hJ
      go_simp
      exact hK.out _ _ (fun d hd => by cases hd; exact Rby.Ex.val (by kernel_rfl)) HJ.out (Below.refl _ _)
    · intro ac V yl K hf hs hy hJ hK
      have g0 := Rby.at_val (hs 26 (by kernel_rfl)) (c := .bool true) (by kernel_rfl)
      have gy : yl 1 = some true := hy 1 26 (by kernel_rfl) true g0
      have e7 : ac.tmps[7]? = some (.pointer (some ⟨ba, 0, none⟩)) := (hf 7 (by kernel_rfl)).trans rfl
      obtain ⟨c0, c1⟩ := hJ.cs (ba) (yesV true) (by simp)
      clear hf hs hy
      have HJ := hid hJ
      clear hJ
      go_simp
      exact hK.out _ _ (fun d hd => by cases hd; exact Rby.Ex.val (by kernel_rfl)) HJ.out (Below.refl _ _)
    · intro ac V yl K hf hs hy hJ hK
      have g0 := Rby.at_val (hs 26 (by kernel_rfl)) (c := .bool true) (by kernel_rfl)
      have gy : yl 1 = some true := hy 1 26 (by kernel_rfl) true g0
      have e8 : ac.tmps[8]? = some (.pointer (some ⟨bb, 0, none⟩)) := (hf 8 (by kernel_rfl)).trans rfl
      obtain ⟨c0, c1⟩ := hJ.cs (bb) (yesV false) (by simp)
      clear hf hs hy
      have HJ := hid hJ
      clear hJ
      go_simp
      exact hK.out _ _ (fun d hd => by cases hd; exact Rby.Ex.val (by kernel_rfl)) HJ.out (Below.refl _ _)
    · intro ac V yl K hf hs hy hJ hK
      have g0 := Rby.at_val (hs 26 (by kernel_rfl)) (c := .bool true) (by kernel_rfl)
      have gy : yl 1 = some true := hy 1 26 (by kernel_rfl) true g0
      have e27 := Rby.at_val (hs 27 (by kernel_rfl)) (c := vV (yesV true)) (by kernel_rfl)
      have e28 := Rby.at_val (hs 28 (by kernel_rfl)) (c := vV (yesV false)) (by kernel_rfl)
      clear hf hs hy
      have HJ := hid hJ
      clear hJ
      go_simp
      exact hK.out _ _ (fun d hd => by cases hd; exact Rby.Ex.sl (l := [yesV true, yesV false]) (by kernel_rfl) (vsl2 (yesV true) (yesV false) V)) (HJ.out.alloc _) ((Below.refl _ _).alloc (Nat.le_refl _) _)
    · intro ac V yl K hf hs hy hJ hK
      have g0 := Rby.at_val (hs 26 (by kernel_rfl)) (c := .bool true) (by kernel_rfl)
      have gy : yl 1 = some true := hy 1 26 (by kernel_rfl) true g0
      obtain ⟨sb, e29, hsl⟩ := Rby.at_sl (hs 29 (by kernel_rfl)) (l := [yesV true, yesV false]) (by kernel_rfl)
      clear hf hs hy
      have HJ := hid hJ
      clear hJ
      have HSL := hid hsl
      clear hsl
      go_simp
      refine (ldo_at 15 [yesV true, yesV false] _ _ HSL.out).mono ?_
      rintro e V2 ⟨rfl, hb⟩
      rw [E0.out]
      have HB := hid hb
      clear hb
      go_wp2_with fail
      exact hK.out _ _ (fun d hd => by cases hd; exact Rby.Ex.val (by kernel_rfl)) (HJ.out.step HB.out) HB.out
    · intro ac V yl K hf hs hy hJ hK
      have g0 := Rby.at_val (hs 26 (by kernel_rfl)) (c := .bool true) (by kernel_rfl)
      have gy : yl 1 = some true := hy 1 26 (by kernel_rfl) true g0
      have e0 : ac.tmps[0]? = some (.bool true) := (hf 0 (by kernel_rfl)).trans rfl
      clear hf hs hy
      have HJ := hid hJ
      clear hJ
      go_simp
      exact hK.out _ _ (fun d hd => by cases hd; exact Rby.Ex.val (by kernel_rfl)) HJ.out (Below.refl _ _)
    · intro ac V yl K hf hs hy hJ hK
      have g0 := Rby.at_val (hs 26 (by kernel_rfl)) (c := .bool true) (by kernel_rfl)
      have gy : yl 1 = some true := hy 1 26 (by kernel_rfl) true g0
      have e31 := Rby.at_val (hs 31 (by kernel_rfl)) (c := .bool true) (by kernel_rfl)
      clear hf hs hy
      have HJ := hid hJ
      clear hJ
      go_simp
      exact hK.out _ _ (fun d hd => by cases hd; exact Rby.Ex.val (by kernel_rfl)) HJ.out (Below.refl _ _)
    · intro ac V yl K hf hs hy hJ hK
      have g0 := Rby.at_val (hs 32 (by kernel_rfl)) (c := .bool true) (by kernel_rfl)
      have gy : yl 7 = some true := hy 7 32 (by kernel_rfl) true g0
      have e1 : ac.tmps[1]? = some (.bool false) := (hf 1 (by kernel_rfl)).trans rfl
      clear hf hs hy
      have HJ := hid hJ
      clear hJ
      go_simp
      exact hK.out _ _ (fun d hd => by cases hd; exact Rby.Ex.val (by kernel_rfl)) HJ.out (Below.refl _ _)
    · intro ac V yl K hf hs hy hJ hK
      have g0 := Rby.at_val (hs 26 (by kernel_rfl)) (c := .bool true) (by kernel_rfl)
      have gy : yl 1 = some true := hy 1 26 (by kernel_rfl) true g0
      have e32 := Rby.at_val (hs 32 (by kernel_rfl)) (c := .bool true) (by kernel_rfl)
      have e33 := Rby.at_val (hs 33 (by kernel_rfl)) (c := .bool false) (by kernel_rfl)
      clear hf hs hy
      have HJ := hid hJ
      clear hJ
      go_simp
      exact hK.out _ _ (fun d hd => by cases hd; exact Rby.Ex.val (by kernel_rfl)) HJ.out (Below.refl _ _)
    · intro ac V yl K hf hs hy hJ hK
      have g0 := Rby.at_val (hs 26 (by kernel_rfl)) (c := .bool true) (by kernel_rfl)
      have gy : yl 1 = some true := hy 1 26 (by kernel_rfl) true g0
      have e34 := Rby.at_val (hs 34 (by kernel_rfl)) (c := .bool false) (by kernel_rfl)
      clear hf hs hy
      have HJ := hid hJ
      clear hJ
      go_simp
      refine (lyes_at _ _).mono ?_
      rintro e V2 ⟨rfl, hb⟩
      have HB := hid hb
      clear hb
      go_wp2_with fail
      exact hK.out _ _ (fun d hd => by cases hd; exact Rby.Ex.val (by kernel_rfl)) (HJ.out.step HB.out) HB.out
    · intro ac V yl K hf hs hy hJ hK
      have g0 := Rby.at_val (hs 26 (by kernel_rfl)) (c := .bool true) (by kernel_rfl)
      have gy : yl 1 = some true := hy 1 26 (by kernel_rfl) true g0
      have e30 := Rby.at_val (hs 30 (by kernel_rfl)) (c := vV (yesV false)) (by kernel_rfl)
      have e35 := Rby.at_val (hs 35 (by kernel_rfl)) (c := vV (yesV false)) (by kernel_rfl)
      clear hf hs hy
      have HJ := hid hJ
      clear hJ
      go_simp
      exact hK.out _ _ (fun d hd => by cases hd; exact Rby.Ex.val (by kernel_rfl)) HJ.out (Below.refl _ _)
    · intro ac V yl K hf hs hy hJ hK
      have e26 := Rby.at_val (hs 26 (by kernel_rfl)) (c := .bool true) (by kernel_rfl)
      have e36 := Rby.at_val (hs 36 (by kernel_rfl)) (c := .bool true) (by kernel_rfl)
      clear hf hs hy
      have HJ := hid hJ
      clear hJ
      go_simp
      exact hK.out _ _ (fun d hd => by cases hd; exact Rby.Ex.val (by kernel_rfl)) HJ.out (Below.refl _ _)
    · intro ac V yl K hf hs hy hJ hK
      have e37 := Rby.at_val (hs 37 (by kernel_rfl)) (c := .bool true) (by kernel_rfl)
      clear hf hs hy
      have HJ := hid hJ
      clear hJ
      go_simp
      exact hK.out _ _ (fun d hd => by cases hd; exact Rby.Ex.val (by kernel_rfl)) HJ.out (Below.refl _ _)
    · intro ac V yl K hf hs hy hJ hK
      have g0 := Rby.at_val (hs 38 (by kernel_rfl)) (c := .bool true) (by kernel_rfl)
      have gy : yl 13 = some true := hy 13 38 (by kernel_rfl) true g0
      have e7 : ac.tmps[7]? = some (.pointer (some ⟨ba, 0, none⟩)) := (hf 7 (by kernel_rfl)).trans rfl
      obtain ⟨c0, c1⟩ := hJ.cs (ba) (yesV true) (by simp)
      clear hf hs hy
      have HJ := hid hJ
      clear hJ
      go_simp
      exact hK.out _ _ (fun d hd => by cases hd; exact Rby.Ex.val (by kernel_rfl)) HJ.out (Below.refl _ _)
    · intro ac V yl K hf hs hy hJ hK
      have g0 := Rby.at_val (hs 38 (by kernel_rfl)) (c := .bool true) (by kernel_rfl)
      have gy : yl 13 = some true := hy 13 38 (by kernel_rfl) true g0
      have e8 : ac.tmps[8]? = some (.pointer (some ⟨bb, 0, none⟩)) := (hf 8 (by kernel_rfl)).trans rfl
      obtain ⟨c0, c1⟩ := hJ.cs (bb) (yesV false) (by simp)
      clear hf hs hy
      have HJ := hid hJ
      clear hJ
      go_simp
      exact hK.out _ _ (fun d hd => by cases hd; exact Rby.Ex.val (by kernel_rfl)) HJ.out (Below.refl _ _)
    · intro ac V yl K hf hs hy hJ hK
      have g0 := Rby.at_val (hs 38 (by kernel_rfl)) (c := .bool true) (by kernel_rfl)
      have gy : yl 13 = some true := hy 13 38 (by kernel_rfl) true g0
      have e39 := Rby.at_val (hs 39 (by kernel_rfl)) (c := vV (yesV true)) (by kernel_rfl)
      have e40 := Rby.at_val (hs 40 (by kernel_rfl)) (c := vV (yesV false)) (by kernel_rfl)
      clear hf hs hy
      have HJ := hid hJ
      clear hJ
      go_simp
      exact hK.out _ _ (fun d hd => by cases hd; exact Rby.Ex.sl (l := [yesV true, yesV false]) (by kernel_rfl) (vsl2 (yesV true) (yesV false) V)) (HJ.out.alloc _) ((Below.refl _ _).alloc (Nat.le_refl _) _)
    · intro ac V yl K hf hs hy hJ hK
      have g0 := Rby.at_val (hs 38 (by kernel_rfl)) (c := .bool true) (by kernel_rfl)
      have gy : yl 13 = some true := hy 13 38 (by kernel_rfl) true g0
      obtain ⟨sb, e41, hsl⟩ := Rby.at_sl (hs 41 (by kernel_rfl)) (l := [yesV true, yesV false]) (by kernel_rfl)
      clear hf hs hy
      have HJ := hid hJ
      clear hJ
      have HSL := hid hsl
      clear hsl
      go_simp
      refine (ldo_at 16 [yesV true, yesV false] _ _ HSL.out).mono ?_
      rintro e V2 ⟨rfl, hb⟩
      rw [E1.out]
      have HB := hid hb
      clear hb
      go_wp2_with fail
      exact hK.out _ _ (fun d hd => by cases hd; exact Rby.Ex.val (by kernel_rfl)) (HJ.out.step HB.out) HB.out
    · intro ac V yl K hf hs hy hJ hK
      have g0 := Rby.at_val (hs 38 (by kernel_rfl)) (c := .bool true) (by kernel_rfl)
      have gy : yl 13 = some true := hy 13 38 (by kernel_rfl) true g0
      have e0 : ac.tmps[0]? = some (.bool true) := (hf 0 (by kernel_rfl)).trans rfl
      clear hf hs hy
      have HJ := hid hJ
      clear hJ
      go_simp
      exact hK.out _ _ (fun d hd => by cases hd; exact Rby.Ex.val (by kernel_rfl)) HJ.out (Below.refl _ _)
    · intro ac V yl K hf hs hy hJ hK
      have g0 := Rby.at_val (hs 38 (by kernel_rfl)) (c := .bool true) (by kernel_rfl)
      have gy : yl 13 = some true := hy 13 38 (by kernel_rfl) true g0
      have e43 := Rby.at_val (hs 43 (by kernel_rfl)) (c := .bool true) (by kernel_rfl)
      clear hf hs hy
      have HJ := hid hJ
      clear hJ
      go_simp
      exact hK.out _ _ (fun d hd => by cases hd; exact Rby.Ex.val (by kernel_rfl)) HJ.out (Below.refl _ _)
    · intro ac V yl K hf hs hy hJ hK
      have g0 := Rby.at_val (hs 44 (by kernel_rfl)) (c := .bool true) (by kernel_rfl)
      have gy : yl 19 = some true := hy 19 44 (by kernel_rfl) true g0
      clear hf hs hy
      go_simp
      exact hK.out _ _ (fun d hd => by cases hd; exact Rby.Ex.val (by kernel_rfl)) hJ (Below.refl _ _)
    · intro ac V yl K hf hs hy hJ hK
      have g0 := Rby.at_val (hs 38 (by kernel_rfl)) (c := .bool true) (by kernel_rfl)
      have gy : yl 13 = some true := hy 13 38 (by kernel_rfl) true g0
      have e44 := Rby.at_val (hs 44 (by kernel_rfl)) (c := .bool true) (by kernel_rfl)
      have e45 := Rby.at_val (hs 45 (by kernel_rfl)) (c := undef) (by kernel_rfl)
      clear hf hs hy
      have HJ := hid hJ
      clear hJ
      go_simp
      exact hK.out _ _ (fun d hd => by cases hd; exact Rby.Ex.val (by kernel_rfl)) HJ.out (Below.refl _ _)
    · intro ac V yl K hf hs hy hJ hK
      have g0 := Rby.at_val (hs 38 (by kernel_rfl)) (c := .bool true) (by kernel_rfl)
      have gy : yl 13 = some true := hy 13 38 (by kernel_rfl) true g0
      have e46 := Rby.at_val (hs 46 (by kernel_rfl)) (c := .bool true) (by kernel_rfl)
      clear hf hs hy
      have HJ := hid hJ
      clear hJ
      go_simp
      refine (lyes_at _ _).mono ?_
      rintro e V2 ⟨rfl, hb⟩
      have HB := hid hb
      clear hb
      go_wp2_with fail
      exact hK.out _ _ (fun d hd => by cases hd; exact Rby.Ex.val (by kernel_rfl)) (HJ.out.step HB.out) HB.out
    · intro ac V yl K hf hs hy hJ hK
      have g0 := Rby.at_val (hs 38 (by kernel_rfl)) (c := .bool true) (by kernel_rfl)
      have gy : yl 13 = some true := hy 13 38 (by kernel_rfl) true g0
      have e42 := Rby.at_val (hs 42 (by kernel_rfl)) (c := vV (yesV true)) (by kernel_rfl)
      have e47 := Rby.at_val (hs 47 (by kernel_rfl)) (c := vV (yesV true)) (by kernel_rfl)
      clear hf hs hy
      have HJ := hid hJ
      clear hJ
      go_simp
      exact hK.out _ _ (fun d hd => by cases hd; exact Rby.Ex.val (by kernel_rfl)) HJ.out (Below.refl _ _)
    · intro ac V yl K hf hs hy hJ hK
      have e38 := Rby.at_val (hs 38 (by kernel_rfl)) (c := .bool true) (by kernel_rfl)
      have e48 := Rby.at_val (hs 48 (by kernel_rfl)) (c := .bool true) (by kernel_rfl)
      clear hf hs hy
      have HJ := hid hJ
      clear hJ
      go_simp
      exact hK.out _ _ (fun d hd => by cases hd; exact Rby.Ex.val (by kernel_rfl)) HJ.out (Below.refl _ _)
    · intro ac V yl K hf hs hy hJ hK
      have e49 := Rby.at_val (hs 49 (by kernel_rfl)) (c := .bool true) (by kernel_rfl)
      clear hf hs hy
      have HJ := hid hJ
      clear hJ
      go_simp
      exact hK.out _ _ (fun d hd => by cases hd; exact Rby.Ex.val (by kernel_rfl)) HJ.out (Below.refl _ _)
    · intro ac V yl K hf hs hy hJ hK
      have g0 := Rby.at_val (hs 50 (by kernel_rfl)) (c := .bool true) (by kernel_rfl)
      have gy : yl 25 = some true := hy 25 50 (by kernel_rfl) true g0
      have e7 : ac.tmps[7]? = some (.pointer (some ⟨ba, 0, none⟩)) := (hf 7 (by kernel_rfl)).trans rfl
      obtain ⟨c0, c1⟩ := hJ.cs (ba) (yesV true) (by simp)
      clear hf hs hy
      have HJ := hid hJ
      clear hJ
      go_simp
      exact hK.out _ _ (fun d hd => by cases hd; exact Rby.Ex.val (by kernel_rfl)) HJ.out (Below.refl _ _)
    · intro ac V yl K hf hs hy hJ hK
      have g0 := Rby.at_val (hs 50 (by kernel_rfl)) (c := .bool true) (by kernel_rfl)
      have gy : yl 25 = some true := hy 25 50 (by kernel_rfl) true g0
      have e51 := Rby.at_val (hs 51 (by kernel_rfl)) (c := vV (yesV true)) (by kernel_rfl)
      clear hf hs hy
      have HJ := hid hJ
      clear hJ
      go_simp
      exact hK.out _ _ (fun d hd => by cases hd; exact Rby.Ex.sl (l := [yesV true]) (by kernel_rfl) (vsl1 (yesV true) V)) (HJ.out.alloc _) ((Below.refl _ _).alloc (Nat.le_refl _) _)
    · intro ac V yl K hf hs hy hJ hK
      have g0 := Rby.at_val (hs 50 (by kernel_rfl)) (c := .bool true) (by kernel_rfl)
      have gy : yl 25 = some true := hy 25 50 (by kernel_rfl) true g0
      obtain ⟨sb, e52, hsl⟩ := Rby.at_sl (hs 52 (by kernel_rfl)) (l := [yesV true]) (by kernel_rfl)
      clear hf hs hy
      have HJ := hid hJ
      clear hJ
      have HSL := hid hsl
      clear hsl
      go_simp
      refine (ldo_at 5 [yesV true] _ _ HSL.out).mono ?_
      rintro e V2 ⟨rfl, hb⟩
      rw [E2.out]
      have HB := hid hb
      clear hb
      go_wp2_with fail
      exact hK.out _ _ (fun d hd => by cases hd; exact Rby.Ex.val (by kernel_rfl)) (HJ.out.step HB.out) HB.out
    · intro ac V yl K hf hs hy hJ hK
      have g0 := Rby.at_val (hs 50 (by kernel_rfl)) (c := .bool true) (by kernel_rfl)
      have gy : yl 25 = some true := hy 25 50 (by kernel_rfl) true g0
      have e0 : ac.tmps[0]? = some (.bool true) := (hf 0 (by kernel_rfl)).trans rfl
      clear hf hs hy
      have HJ := hid hJ
      clear hJ
      go_simp
      exact hK.out _ _ (fun d hd => by cases hd; exact Rby.Ex.val (by kernel_rfl)) HJ.out (Below.refl _ _)
    · intro ac V yl K hf hs hy hJ hK
      have g0 := Rby.at_val (hs 50 (by kernel_rfl)) (c := .bool true) (by kernel_rfl)
      have gy : yl 25 = some true := hy 25 50 (by kernel_rfl) true g0
      have e54 := Rby.at_val (hs 54 (by kernel_rfl)) (c := .bool true) (by kernel_rfl)
      clear hf hs hy
      have HJ := hid hJ
      clear hJ
      go_simp
      exact hK.out _ _ (fun d hd => by cases hd; exact Rby.Ex.val (by kernel_rfl)) HJ.out (Below.refl _ _)
    · intro ac V yl K hf hs hy hJ hK
      have g0 := Rby.at_val (hs 50 (by kernel_rfl)) (c := .bool true) (by kernel_rfl)
      have gy : yl 25 = some true := hy 25 50 (by kernel_rfl) true g0
      have e55 := Rby.at_val (hs 55 (by kernel_rfl)) (c := .bool false) (by kernel_rfl)
      clear hf hs hy
      have HJ := hid hJ
      clear hJ
      go_simp
      refine (lyes_at _ _).mono ?_
      rintro e V2 ⟨rfl, hb⟩
      have HB := hid hb
      clear hb
      go_wp2_with fail
      exact hK.out _ _ (fun d hd => by cases hd; exact Rby.Ex.val (by kernel_rfl)) (HJ.out.step HB.out) HB.out
    · intro ac V yl K hf hs hy hJ hK
      have g0 := Rby.at_val (hs 50 (by kernel_rfl)) (c := .bool true) (by kernel_rfl)
      have gy : yl 25 = some true := hy 25 50 (by kernel_rfl) true g0
      have e53 := Rby.at_val (hs 53 (by kernel_rfl)) (c := vV (yesV false)) (by kernel_rfl)
      have e56 := Rby.at_val (hs 56 (by kernel_rfl)) (c := vV (yesV false)) (by kernel_rfl)
      clear hf hs hy
      have HJ := hid hJ
      clear hJ
      go_simp
      exact hK.out _ _ (fun d hd => by cases hd; exact Rby.Ex.val (by kernel_rfl)) HJ.out (Below.refl _ _)
    · intro ac V yl K hf hs hy hJ hK
      have e50 := Rby.at_val (hs 50 (by kernel_rfl)) (c := .bool true) (by kernel_rfl)
      have e57 := Rby.at_val (hs 57 (by kernel_rfl)) (c := .bool true) (by kernel_rfl)
      clear hf hs hy
      have HJ := hid hJ
      clear hJ
      go_simp
      exact hK.out _ _ (fun d hd => by cases hd; exact Rby.Ex.val (by kernel_rfl)) HJ.out (Below.refl _ _)
    · intro ac V yl K hf hs hy hJ hK
      have e58 := Rby.at_val (hs 58 (by kernel_rfl)) (c := .bool true) (by kernel_rfl)
      clear hf hs hy
      have HJ := hid hJ
      clear hJ
      go_simp
      exact hK.out _ _ (fun d hd => by cases hd; exact Rby.Ex.val (by kernel_rfl)) HJ.out (Below.refl _ _)
    · intro ac V yl K hf hs hy hJ hK
      have g0 := Rby.at_val (hs 59 (by kernel_rfl)) (c := .bool true) (by kernel_rfl)
      have gy : yl 34 = some true := hy 34 59 (by kernel_rfl) true g0
      have e7 : ac.tmps[7]? = some (.pointer (some ⟨ba, 0, none⟩)) := (hf 7 (by kernel_rfl)).trans rfl
      obtain ⟨c0, c1⟩ := hJ.cs (ba) (yesV true) (by simp)
      clear hf hs hy
      have HJ := hid hJ
      clear hJ
      go_simp
      exact hK.out _ _ (fun d hd => by cases hd; exact Rby.Ex.val (by kernel_rfl)) HJ.out (Below.refl _ _)
    · intro ac V yl K hf hs hy hJ hK
      have g0 := Rby.at_val (hs 59 (by kernel_rfl)) (c := .bool true) (by kernel_rfl)
      have gy : yl 34 = some true := hy 34 59 (by kernel_rfl) true g0
      have e8 : ac.tmps[8]? = some (.pointer (some ⟨bb, 0, none⟩)) := (hf 8 (by kernel_rfl)).trans rfl
      obtain ⟨c0, c1⟩ := hJ.cs (bb) (yesV false) (by simp)
      clear hf hs hy
      have HJ := hid hJ
      clear hJ
      go_simp
      exact hK.out _ _ (fun d hd => by cases hd; exact Rby.Ex.val (by kernel_rfl)) HJ.out (Below.refl _ _)
    · intro ac V yl K hf hs hy hJ hK
      have g0 := Rby.at_val (hs 59 (by kernel_rfl)) (c := .bool true) (by kernel_rfl)
      have gy : yl 34 = some true := hy 34 59 (by kernel_rfl) true g0
      have e60 := Rby.at_val (hs 60 (by kernel_rfl)) (c := vV (yesV true)) (by kernel_rfl)
      have e61 := Rby.at_val (hs 61 (by kernel_rfl)) (c := vV (yesV false)) (by kernel_rfl)
      clear hf hs hy
      have HJ := hid hJ
      clear hJ
      go_simp
      exact hK.out _ _ (fun d hd => by cases hd; exact Rby.Ex.sl (l := [yesV true, yesV false]) (by kernel_rfl) (vsl2 (yesV true) (yesV false) V)) (HJ.out.alloc _) ((Below.refl _ _).alloc (Nat.le_refl _) _)
    · intro ac V yl K hf hs hy hJ hK
      have g0 := Rby.at_val (hs 59 (by kernel_rfl)) (c := .bool true) (by kernel_rfl)
      have gy : yl 34 = some true := hy 34 59 (by kernel_rfl) true g0
      obtain ⟨sb, e62, hsl⟩ := Rby.at_sl (hs 62 (by kernel_rfl)) (l := [yesV true, yesV false]) (by kernel_rfl)
      clear hf hs hy
      have HJ := hid hJ
      clear hJ
      have HSL := hid hsl
      clear hsl
      go_simp
      refine (ldo_at 11 [yesV true, yesV false] _ _ HSL.out).mono ?_
      rintro e V2 ⟨rfl, hb⟩
      rw [E3.out]
      have HB := hid hb
      clear hb
      go_wp2_with fail
      exact hK.out _ _ (fun d hd => by cases hd; exact Rby.Ex.val (by kernel_rfl)) (HJ.out.step HB.out) HB.out
    · intro ac V yl K hf hs hy hJ hK
      have g0 := Rby.at_val (hs 59 (by kernel_rfl)) (c := .bool true) (by kernel_rfl)
      have gy : yl 34 = some true := hy 34 59 (by kernel_rfl) true g0
      have e0 : ac.tmps[0]? = some (.bool true) := (hf 0 (by kernel_rfl)).trans rfl
      clear hf hs hy
      have HJ := hid hJ
      clear hJ
      go_simp
      exact hK.out _ _ (fun d hd => by cases hd; exact Rby.Ex.val (by kernel_rfl)) HJ.out (Below.refl _ _)
    · intro ac V yl K hf hs hy hJ hK
      have g0 := Rby.at_val (hs 59 (by kernel_rfl)) (c := .bool true) (by kernel_rfl)
      have gy : yl 34 = some true := hy 34 59 (by kernel_rfl) true g0
      have e1 : ac.tmps[1]? = some (.bool false) := (hf 1 (by kernel_rfl)).trans rfl
      clear hf hs hy
      have HJ := hid hJ
      clear hJ
      go_simp
      exact hK.out _ _ (fun d hd => by cases hd; exact Rby.Ex.val (by kernel_rfl)) HJ.out (Below.refl _ _)
    · intro ac V yl K hf hs hy hJ hK
      have g0 := Rby.at_val (hs 59 (by kernel_rfl)) (c := .bool true) (by kernel_rfl)
      have gy : yl 34 = some true := hy 34 59 (by kernel_rfl) true g0
      have e64 := Rby.at_val (hs 64 (by kernel_rfl)) (c := .bool true) (by kernel_rfl)
      have e65 := Rby.at_val (hs 65 (by kernel_rfl)) (c := .bool false) (by kernel_rfl)
      clear hf hs hy
      have HJ := hid hJ
      clear hJ
      go_simp
      exact hK.out _ _ (fun d hd => by cases hd; exact Rby.Ex.val (by kernel_rfl)) HJ.out (Below.refl _ _)
    · intro ac V yl K hf hs hy hJ hK
      have g0 := Rby.at_val (hs 59 (by kernel_rfl)) (c := .bool true) (by kernel_rfl)
      have gy : yl 34 = some true := hy 34 59 (by kernel_rfl) true g0
      have e66 := Rby.at_val (hs 66 (by kernel_rfl)) (c := .bool false) (by kernel_rfl)
      clear hf hs hy
      have HJ := hid hJ
      clear hJ
      go_simp
      refine (lyes_at _ _).mono ?_
      rintro e V2 ⟨rfl, hb⟩
      have HB := hid hb
      clear hb
      go_wp2_with fail
      exact hK.out _ _ (fun d hd => by cases hd; exact Rby.Ex.val (by kernel_rfl)) (HJ.out.step HB.out) HB.out
    · intro ac V yl K hf hs hy hJ hK
      have g0 := Rby.at_val (hs 59 (by kernel_rfl)) (c := .bool true) (by kernel_rfl)
      have gy : yl 34 = some true := hy 34 59 (by kernel_rfl) true g0
      have e63 := Rby.at_val (hs 63 (by kernel_rfl)) (c := vV (yesV false)) (by kernel_rfl)
      have e67 := Rby.at_val (hs 67 (by kernel_rfl)) (c := vV (yesV false)) (by kernel_rfl)
      clear hf hs hy
      have HJ := hid hJ
      clear hJ
      go_simp
      exact hK.out _ _ (fun d hd => by cases hd; exact Rby.Ex.val (by kernel_rfl)) HJ.out (Below.refl _ _)
    · intro ac V yl K hf hs hy hJ hK
      have e59 := Rby.at_val (hs 59 (by kernel_rfl)) (c := .bool true) (by kernel_rfl)
      have e68 := Rby.at_val (hs 68 (by kernel_rfl)) (c := .bool true) (by kernel_rfl)
      clear hf hs hy
      have HJ := hid hJ
      clear hJ
      go_simp
      exact hK.out _ _ (fun d hd => by cases hd; exact Rby.Ex.val (by kernel_rfl)) HJ.out (Below.refl _ _)
    · intro ac V yl K hf hs hy hJ hK
      have e69 := Rby.at_val (hs 69 (by kernel_rfl)) (c := .bool true) (by kernel_rfl)
      clear hf hs hy
      have HJ := hid hJ
      clear hJ
      go_simp
      exact hK.out _ _ (fun d hd => by cases hd; exact Rby.Ex.val (by kernel_rfl)) HJ.out (Below.refl _ _)
    · intro ac V yl K hf hs hy hJ hK
      have g0 := Rby.at_val (hs 70 (by kernel_rfl)) (c := .bool true) (by kernel_rfl)
      have gy : yl 45 = some true := hy 45 70 (by kernel_rfl) true g0
      have e7 : ac.tmps[7]? = some (.pointer (some ⟨ba, 0, none⟩)) := (hf 7 (by kernel_rfl)).trans rfl
      obtain ⟨c0, c1⟩ := hJ.cs (ba) (yesV true) (by simp)
      clear hf hs hy
      have HJ := hid hJ
      clear hJ
      go_simp
      exact hK.out _ _ (fun d hd => by cases hd; exact Rby.Ex.val (by kernel_rfl)) HJ.out (Below.refl _ _)
    · intro ac V yl K hf hs hy hJ hK
      have g0 := Rby.at_val (hs 70 (by kernel_rfl)) (c := .bool true) (by kernel_rfl)
      have gy : yl 45 = some true := hy 45 70 (by kernel_rfl) true g0
      have e9 : ac.tmps[9]? = some (.pointer (some ⟨bx, 0, none⟩)) := (hf 9 (by kernel_rfl)).trans rfl
      obtain ⟨c0, c1⟩ := hJ.cs (bx) (numV n0) (by simp)
      clear hf hs hy
      have HJ := hid hJ
      clear hJ
      go_simp
      exact hK.out _ _ (fun d hd => by cases hd; exact Rby.Ex.val (by kernel_rfl)) HJ.out (Below.refl _ _)
    · intro ac V yl K hf hs hy hJ hK
      have g0 := Rby.at_val (hs 70 (by kernel_rfl)) (c := .bool true) (by kernel_rfl)
      have gy : yl 45 = some true := hy 45 70 (by kernel_rfl) true g0
      have e10 : ac.tmps[10]? = some (.pointer (some ⟨by_, 0, none⟩)) := (hf 10 (by kernel_rfl)).trans rfl
      obtain ⟨c0, c1⟩ := hJ.cs (by_) (numV n1) (by simp)
      clear hf hs hy
      have HJ := hid hJ
      clear hJ
      go_simp
      exact hK.out _ _ (fun d hd => by cases hd; exact Rby.Ex.val (by kernel_rfl)) HJ.out (Below.refl _ _)
    · intro ac V yl K hf hs hy hJ hK
      have g0 := Rby.at_val (hs 70 (by kernel_rfl)) (c := .bool true) (by kernel_rfl)
      have gy : yl 45 = some true := hy 45 70 (by kernel_rfl) true g0
      have e71 := Rby.at_val (hs 71 (by kernel_rfl)) (c := vV (yesV true)) (by kernel_rfl)
      have e72 := Rby.at_val (hs 72 (by kernel_rfl)) (c := vV (numV n0)) (by kernel_rfl)
      have e73 := Rby.at_val (hs 73 (by kernel_rfl)) (c := vV (numV n1)) (by kernel_rfl)
      clear hf hs hy
      have HJ := hid hJ
      clear hJ
      go_simp
      exact hK.out _ _ (fun d hd => by cases hd; exact Rby.Ex.sl (l := [yesV true, numV n0, numV n1]) (by kernel_rfl) (vsl3 (yesV true) (numV n0) (numV n1) V)) (HJ.out.alloc _) ((Below.refl _ _).alloc (Nat.le_refl _) _)
    · intro ac V yl K hf hs hy hJ hK
      have g0 := Rby.at_val (hs 70 (by kernel_rfl)) (c := .bool true) (by kernel_rfl)
      have gy : yl 45 = some true := hy 45 70 (by kernel_rfl) true g0
      obtain ⟨sb, e74, hsl⟩ := Rby.at_sl (hs 74 (by kernel_rfl)) (l := [yesV true, numV n0, numV n1]) (by kernel_rfl)
      clear hf hs hy
      have HJ := hid hJ
      clear hJ
      have HSL := hid hsl
      clear hsl
      go_simp
      refine (ldo_at 17 [yesV true, numV n0, numV n1] _ _ HSL.out).mono ?_
      rintro e V2 ⟨rfl, hb⟩
      rw [E4.out]
      have HB := hid hb
      clear hb
      go_wp2_with fail
      exact hK.out _ _ (fun d hd => by cases hd; exact Rby.Ex.val (by kernel_rfl)) (HJ.out.step HB.out) HB.out
    · intro ac V yl K hf hs hy hJ hK
      have g0 := Rby.at_val (hs 70 (by kernel_rfl)) (c := .bool true) (by kernel_rfl)
      have gy : yl 45 = some true := hy 45 70 (by kernel_rfl) true g0
      have e11 : ac.tmps[11]? = some (.pointer (some ⟨bw, 0, none⟩)) := (hf 11 (by kernel_rfl)).trans rfl
      obtain ⟨c0, c1⟩ := hJ.cs (bw) (numV n0) (by simp)
      clear hf hs hy
      have HJ := hid hJ
      clear hJ
      go_simp
      exact hK.out _ _ (fun d hd => by cases hd; exact Rby.Ex.val (by kernel_rfl)) HJ.out (Below.refl _ _)
    · intro ac V yl K hf hs hy hJ hK
      have g0 := Rby.at_val (hs 70 (by kernel_rfl)) (c := .bool true) (by kernel_rfl)
      have gy : yl 45 = some true := hy 45 70 (by kernel_rfl) true g0
      have e75 := Rby.at_val (hs 75 (by kernel_rfl)) (c := vV (numV n0)) (by kernel_rfl)
      have e76 := Rby.at_val (hs 76 (by kernel_rfl)) (c := vV (numV n0)) (by kernel_rfl)
      clear hf hs hy
      have HJ := hid hJ
      clear hJ
      go_simp
      exact hK.out _ _ (fun d hd => by cases hd; exact Rby.Ex.val (by kernel_rfl)) HJ.out (Below.refl _ _)
    · intro ac V yl K hf hs hy hJ hK
      have e70 := Rby.at_val (hs 70 (by kernel_rfl)) (c := .bool true) (by kernel_rfl)
      have e77 := Rby.at_val (hs 77 (by kernel_rfl)) (c := .bool true) (by kernel_rfl)
      clear hf hs hy
      have HJ := hid hJ
      clear hJ
      go_simp
      exact hK.out _ _ (fun d hd => by cases hd; exact Rby.Ex.val (by kernel_rfl)) HJ.out (Below.refl _ _)
    · intro ac V yl K hf hs hy hJ hK
      have e78 := Rby.at_val (hs 78 (by kernel_rfl)) (c := .bool true) (by kernel_rfl)
      clear hf hs hy
      have HJ := hid hJ
      clear hJ
      go_simp
      exact hK.out _ _ (fun d hd => by cases hd; exact Rby.Ex.val (by kernel_rfl)) HJ.out (Below.refl _ _)
    · intro ac V yl K hf hs hy hJ hK
      have g0 := Rby.at_val (hs 79 (by kernel_rfl)) (c := .bool true) (by kernel_rfl)
      have gy : yl 54 = some true := hy 54 79 (by kernel_rfl) true g0
      have e7 : ac.tmps[7]? = some (.pointer (some ⟨ba, 0, none⟩)) := (hf 7 (by kernel_rfl)).trans rfl
      obtain ⟨c0, c1⟩ := hJ.cs (ba) (yesV true) (by simp)
      clear hf hs hy
      have HJ := hid hJ
      clear hJ
      go_simp
      exact hK.out _ _ (fun d hd => by cases hd; exact Rby.Ex.val (by kernel_rfl)) HJ.out (Below.refl _ _)
    · intro ac V yl K hf hs hy hJ hK
      have g0 := Rby.at_val (hs 79 (by kernel_rfl)) (c := .bool true) (by kernel_rfl)
      have gy : yl 54 = some true := hy 54 79 (by kernel_rfl) true g0
      have e8 : ac.tmps[8]? = some (.pointer (some ⟨bb, 0, none⟩)) := (hf 8 (by kernel_rfl)).trans rfl
      obtain ⟨c0, c1⟩ := hJ.cs (bb) (yesV false) (by simp)
      clear hf hs hy
      have HJ := hid hJ
      clear hJ
      go_simp
      exact hK.out _ _ (fun d hd => by cases hd; exact Rby.Ex.val (by kernel_rfl)) HJ.out (Below.refl _ _)
    · intro ac V yl K hf hs hy hJ hK
      have g0 := Rby.at_val (hs 79 (by kernel_rfl)) (c := .bool true) (by kernel_rfl)
      have gy : yl 54 = some true := hy 54 79 (by kernel_rfl) true g0
      have e7 : ac.tmps[7]? = some (.pointer (some ⟨ba, 0, none⟩)) := (hf 7 (by kernel_rfl)).trans rfl
      obtain ⟨c0, c1⟩ := hJ.cs (ba) (yesV true) (by simp)
      clear hf hs hy
      have HJ := hid hJ
      clear hJ
      go_simp
      exact hK.out _ _ (fun d hd => by cases hd; exact Rby.Ex.val (by kernel_rfl)) HJ.out (Below.refl _ _)
    · intro ac V yl K hf hs hy hJ hK
      have g0 := Rby.at_val (hs 79 (by kernel_rfl)) (c := .bool true) (by kernel_rfl)
      have gy : yl 54 = some true := hy 54 79 (by kernel_rfl) true g0
      have e80 := Rby.at_val (hs 80 (by kernel_rfl)) (c := vV (yesV true)) (by kernel_rfl)
      have e81 := Rby.at_val (hs 81 (by kernel_rfl)) (c := vV (yesV false)) (by kernel_rfl)
      have e82 := Rby.at_val (hs 82 (by kernel_rfl)) (c := vV (yesV true)) (by kernel_rfl)
      clear hf hs hy
      have HJ := hid hJ
      clear hJ
      go_simp
      exact hK.out _ _ (fun d hd => by cases hd; exact Rby.Ex.sl (l := [yesV true, yesV false, yesV true]) (by kernel_rfl) (vsl3 (yesV true) (yesV false) (yesV true) V)) (HJ.out.alloc _) ((Below.refl _ _).alloc (Nat.le_refl _) _)
    · intro ac V yl K hf hs hy hJ hK
      have g0 := Rby.at_val (hs 79 (by kernel_rfl)) (c := .bool true) (by kernel_rfl)
      have gy : yl 54 = some true := hy 54 79 (by kernel_rfl) true g0
      obtain ⟨sb, e83, hsl⟩ := Rby.at_sl (hs 83 (by kernel_rfl)) (l := [yesV true, yesV false, yesV true]) (by kernel_rfl)
      clear hf hs hy
      have HJ := hid hJ
      clear hJ
      have HSL := hid hsl
      clear hsl
      go_simp
      refine (ldo_at 17 [yesV true, yesV false, yesV true] _ _ HSL.out).mono ?_
      rintro e V2 ⟨rfl, hb⟩
      rw [E5.out]
      have HB := hid hb
      clear hb
      go_wp2_with fail
      exact hK.out _ _ (fun d hd => by cases hd; exact Rby.Ex.val (by kernel_rfl)) (HJ.out.step HB.out) HB.out
    · intro ac V yl K hf hs hy hJ hK
      have g0 := Rby.at_val (hs 79 (by kernel_rfl)) (c := .bool true) (by kernel_rfl)
      have gy : yl 54 = some true := hy 54 79 (by kernel_rfl) true g0
      have e7 : ac.tmps[7]? = some (.pointer (some ⟨ba, 0, none⟩)) := (hf 7 (by kernel_rfl)).trans rfl
      obtain ⟨c0, c1⟩ := hJ.cs (ba) (yesV true) (by simp)
      clear hf hs hy
      have HJ := hid hJ
      clear hJ
      go_simp
      exact hK.out _ _ (fun d hd => by cases hd; exact Rby.Ex.val (by kernel_rfl)) HJ.out (Below.refl _ _)
    · intro ac V yl K hf hs hy hJ hK
      have g0 := Rby.at_val (hs 79 (by kernel_rfl)) (c := .bool true) (by kernel_rfl)
      have gy : yl 54 = some true := hy 54 79 (by kernel_rfl) true g0
      have e8 : ac.tmps[8]? = some (.pointer (some ⟨bb, 0, none⟩)) := (hf 8 (by kernel_rfl)).trans rfl
      obtain ⟨c0, c1⟩ := hJ.cs (bb) (yesV false) (by simp)
      clear hf hs hy
      have HJ := hid hJ
      clear hJ
      go_simp
      exact hK.out _ _ (fun d hd => by cases hd; exact Rby.Ex.val (by kernel_rfl)) HJ.out (Below.refl _ _)
    · intro ac V yl K hf hs hy hJ hK
      have g0 := Rby.at_val (hs 79 (by kernel_rfl)) (c := .bool true) (by kernel_rfl)
      have gy : yl 54 = some true := hy 54 79 (by kernel_rfl) true g0
      have e85 := Rby.at_val (hs 85 (by kernel_rfl)) (c := vV (yesV true)) (by kernel_rfl)
      have e86 := Rby.at_val (hs 86 (by kernel_rfl)) (c := vV (yesV false)) (by kernel_rfl)
      clear hf hs hy
      have HJ := hid hJ
      clear hJ
      go_simp
      exact hK.out _ _ (fun d hd => by cases hd; exact Rby.Ex.sl (l := [yesV true, yesV false]) (by kernel_rfl) (vsl2 (yesV true) (yesV false) V)) (HJ.out.alloc _) ((Below.refl _ _).alloc (Nat.le_refl _) _)
    · intro ac V yl K hf hs hy hJ hK
      have g0 := Rby.at_val (hs 79 (by kernel_rfl)) (c := .bool true) (by kernel_rfl)
      have gy : yl 54 = some true := hy 54 79 (by kernel_rfl) true g0
      obtain ⟨sb, e87, hsl⟩ := Rby.at_sl (hs 87 (by kernel_rfl)) (l := [yesV true, yesV false]) (by kernel_rfl)
      clear hf hs hy
      have HJ := hid hJ
      clear hJ
      have HSL := hid hsl
      clear hsl
      go_simp
      refine (ldo_at 15 [yesV true, yesV false] _ _ HSL.out).mono ?_
      rintro e V2 ⟨rfl, hb⟩
      rw [E0.out]
      have HB := hid hb
      clear hb
      go_wp2_with fail
      exact hK.out _ _ (fun d hd => by cases hd; exact Rby.Ex.val (by kernel_rfl)) (HJ.out.step HB.out) HB.out
    · intro ac V yl K hf hs hy hJ hK
      have g0 := Rby.at_val (hs 79 (by kernel_rfl)) (c := .bool true) (by kernel_rfl)
      have gy : yl 54 = some true := hy 54 79 (by kernel_rfl) true g0
      have e84 := Rby.at_val (hs 84 (by kernel_rfl)) (c := vV (yesV false)) (by kernel_rfl)
      have e88 := Rby.at_val (hs 88 (by kernel_rfl)) (c := vV (yesV false)) (by kernel_rfl)
      clear hf hs hy
      have HJ := hid hJ
      clear hJ
      go_simp
      exact hK.out _ _ (fun d hd => by cases hd; exact Rby.Ex.val (by kernel_rfl)) HJ.out (Below.refl _ _)
    · intro ac V yl K hf hs hy hJ hK
      have e79 := Rby.at_val (hs 79 (by kernel_rfl)) (c := .bool true) (by kernel_rfl)
      have e89 := Rby.at_val (hs 89 (by kernel_rfl)) (c := .bool true) (by kernel_rfl)
      clear hf hs hy
      have HJ := hid hJ
      clear hJ
      go_simp
      exact hK.out _ _ (fun d hd => by cases hd; exact Rby.Ex.val (by kernel_rfl)) HJ.out (Below.refl _ _)
    · intro ac V yl K hf hs hy hJ hK
      have e90 := Rby.at_val (hs 90 (by kernel_rfl)) (c := .bool true) (by kernel_rfl)
      clear hf hs hy
      have HJ := hid hJ
      clear hJ
      go_simp
      exact hK.out _ _ (fun d hd => by cases hd; exact Rby.Ex.val (by kernel_rfl)) HJ.out (Below.refl _ _)
    · intro ac V yl K hf hs hy hJ hK
      have g0 := Rby.at_val (hs 91 (by kernel_rfl)) (c := .bool true) (by kernel_rfl)
      have gy : yl 66 = some true := hy 66 91 (by kernel_rfl) true g0
      have e7 : ac.tmps[7]? = some (.pointer (some ⟨ba, 0, none⟩)) := (hf 7 (by kernel_rfl)).trans rfl
      obtain ⟨c0, c1⟩ := hJ.cs (ba) (yesV true) (by simp)
      clear hf hs hy
      have HJ := hid hJ
      clear hJ
      go_simp
      exact hK.out _ _ (fun d hd => by cases hd; exact Rby.Ex.val (by kernel_rfl)) HJ.out (Below.refl _ _)
    · intro ac V yl K hf hs hy hJ hK
      have g0 := Rby.at_val (hs 91 (by kernel_rfl)) (c := .bool true) (by kernel_rfl)
      have gy : yl 66 = some true := hy 66 91 (by kernel_rfl) true g0
      have e8 : ac.tmps[8]? = some (.pointer (some ⟨bb, 0, none⟩)) := (hf 8 (by kernel_rfl)).trans rfl
      obtain ⟨c0, c1⟩ := hJ.cs (bb) (yesV false) (by simp)
      clear hf hs hy
      have HJ := hid hJ
      clear hJ
      go_simp
      exact hK.out _ _ (fun d hd => by cases hd; exact Rby.Ex.val (by kernel_rfl)) HJ.out (Below.refl _ _)
    · intro ac V yl K hf hs hy hJ hK
      have g0 := Rby.at_val (hs 91 (by kernel_rfl)) (c := .bool true) (by kernel_rfl)
      have gy : yl 66 = some true := hy 66 91 (by kernel_rfl) true g0
      have e92 := Rby.at_val (hs 92 (by kernel_rfl)) (c := vV (yesV true)) (by kernel_rfl)
      have e93 := Rby.at_val (hs 93 (by kernel_rfl)) (c := vV (yesV false)) (by kernel_rfl)
      clear hf hs hy
      have HJ := hid hJ
      clear hJ
      go_simp
      exact hK.out _ _ (fun d hd => by cases hd; exact Rby.Ex.sl (l := [yesV true, yesV false]) (by kernel_rfl) (vsl2 (yesV true) (yesV false) V)) (HJ.out.alloc _) ((Below.refl _ _).alloc (Nat.le_refl _) _)
    · intro ac V yl K hf hs hy hJ hK
      have g0 := Rby.at_val (hs 91 (by kernel_rfl)) (c := .bool true) (by kernel_rfl)
      have gy : yl 66 = some true := hy 66 91 (by kernel_rfl) true g0
      obtain ⟨sb, e94, hsl⟩ := Rby.at_sl (hs 94 (by kernel_rfl)) (l := [yesV true, yesV false]) (by kernel_rfl)
      clear hf hs hy
      have HJ := hid hJ
      clear hJ
      have HSL := hid hsl
      clear hsl
      go_simp
      refine (ldo_at 15 [yesV true, yesV false] _ _ HSL.out).mono ?_
      rintro e V2 ⟨rfl, hb⟩
      rw [E0.out]
      have HB := hid hb
      clear hb
      go_wp2_with fail
      exact hK.out _ _ (fun d hd => by cases hd; exact Rby.Ex.val (by kernel_rfl)) (HJ.out.step HB.out) HB.out
    · intro ac V yl K hf hs hy hJ hK
      have g0 := Rby.at_val (hs 91 (by kernel_rfl)) (c := .bool true) (by kernel_rfl)
      have gy : yl 66 = some true := hy 66 91 (by kernel_rfl) true g0
      have e95 := Rby.at_val (hs 95 (by kernel_rfl)) (c := vV (yesV false)) (by kernel_rfl)
      clear hf hs hy
      have HJ := hid hJ
      clear hJ
      go_simp
      exact hK.out _ _ (fun d hd => by cases hd; exact Rby.Ex.sl (l := [yesV false]) (by kernel_rfl) (vsl1 (yesV false) V)) (HJ.out.alloc _) ((Below.refl _ _).alloc (Nat.le_refl _) _)
    · intro ac V yl K hf hs hy hJ hK
      have g0 := Rby.at_val (hs 91 (by kernel_rfl)) (c := .bool true) (by kernel_rfl)
      have gy : yl 66 = some true := hy 66 91 (by kernel_rfl) true g0
      obtain ⟨sb, e96, hsl⟩ := Rby.at_sl (hs 96 (by kernel_rfl)) (l := [yesV false]) (by kernel_rfl)
      clear hf hs hy
      have HJ := hid hJ
      clear hJ
      have HSL := hid hsl
      clear hsl
      go_simp
      refine (ldo_at 5 [yesV false] _ _ HSL.out).mono ?_
      rintro e V2 ⟨rfl, hb⟩
      rw [E6.out]
      have HB := hid hb
      clear hb
      go_wp2_with fail
      exact hK.out _ _ (fun d hd => by cases hd; exact Rby.Ex.val (by kernel_rfl)) (HJ.out.step HB.out) HB.out
    · intro ac V yl K hf hs hy hJ hK
      have g0 := Rby.at_val (hs 91 (by kernel_rfl)) (c := .bool true) (by kernel_rfl)
      have gy : yl 66 = some true := hy 66 91 (by kernel_rfl) true g0
      have e7 : ac.tmps[7]? = some (.pointer (some ⟨ba, 0, none⟩)) := (hf 7 (by kernel_rfl)).trans rfl
      obtain ⟨c0, c1⟩ := hJ.cs (ba) (yesV true) (by simp)
      clear hf hs hy
      have HJ := hid hJ
      clear hJ
      go_simp
      exact hK.out _ _ (fun d hd => by cases hd; exact Rby.Ex.val (by kernel_rfl)) HJ.out (Below.refl _ _)
    · intro ac V yl K hf hs hy hJ hK
      have g0 := Rby.at_val (hs 91 (by kernel_rfl)) (c := .bool true) (by kernel_rfl)
      have gy : yl 66 = some true := hy 66 91 (by kernel_rfl) true g0
      have e98 := Rby.at_val (hs 98 (by kernel_rfl)) (c := vV (yesV true)) (by kernel_rfl)
      clear hf hs hy
      have HJ := hid hJ
      clear hJ
      go_simp
      exact hK.out _ _ (fun d hd => by cases hd; exact Rby.Ex.sl (l := [yesV true]) (by kernel_rfl) (vsl1 (yesV true) V)) (HJ.out.alloc _) ((Below.refl _ _).alloc (Nat.le_refl _) _)
    · intro ac V yl K hf hs hy hJ hK
      have g0 := Rby.at_val (hs 91 (by kernel_rfl)) (c := .bool true) (by kernel_rfl)
      have gy : yl 66 = some true := hy 66 91 (by kernel_rfl) true g0
      obtain ⟨sb, e99, hsl⟩ := Rby.at_sl (hs 99 (by kernel_rfl)) (l := [yesV true]) (by kernel_rfl)
      clear hf hs hy
      have HJ := hid hJ
      clear hJ
      have HSL := hid hsl
      clear hsl
      go_simp
      refine (ldo_at 5 [yesV true] _ _ HSL.out).mono ?_
      rintro e V2 ⟨rfl, hb⟩
      rw [E2.out]
      have HB := hid hb
      clear hb
      go_wp2_with fail
      exact hK.out _ _ (fun d hd => by cases hd; exact Rby.Ex.val (by kernel_rfl)) (HJ.out.step HB.out) HB.out
    · intro ac V yl K hf hs hy hJ hK
      have g0 := Rby.at_val (hs 91 (by kernel_rfl)) (c := .bool true) (by kernel_rfl)
      have gy : yl 66 = some true := hy 66 91 (by kernel_rfl) true g0
      have e8 : ac.tmps[8]? = some (.pointer (some ⟨bb, 0, none⟩)) := (hf 8 (by kernel_rfl)).trans rfl
      obtain ⟨c0, c1⟩ := hJ.cs (bb) (yesV false) (by simp)
      clear hf hs hy
      have HJ := hid hJ
      clear hJ
      go_simp
      exact hK.out _ _ (fun d hd => by cases hd; exact Rby.Ex.val (by kernel_rfl)) HJ.out (Below.refl _ _)
    · intro ac V yl K hf hs hy hJ hK
      have g0 := Rby.at_val (hs 91 (by kernel_rfl)) (c := .bool true) (by kernel_rfl)
      have gy : yl 66 = some true := hy 66 91 (by kernel_rfl) true g0
      have e101 := Rby.at_val (hs 101 (by kernel_rfl)) (c := vV (yesV false)) (by kernel_rfl)
      clear hf hs hy
      have HJ := hid hJ
      clear hJ
      go_simp
      exact hK.out _ _ (fun d hd => by cases hd; exact Rby.Ex.sl (l := [yesV false]) (by kernel_rfl) (vsl1 (yesV false) V)) (HJ.out.alloc _) ((Below.refl _ _).alloc (Nat.le_refl _) _)
    · intro ac V yl K hf hs hy hJ hK
      have g0 := Rby.at_val (hs 91 (by kernel_rfl)) (c := .bool true) (by kernel_rfl)
      have gy : yl 66 = some true := hy 66 91 (by kernel_rfl) true g0
      obtain ⟨sb, e102, hsl⟩ := Rby.at_sl (hs 102 (by kernel_rfl)) (l := [yesV false]) (by kernel_rfl)
      clear hf hs hy
      have HJ := hid hJ
      clear hJ
      have HSL := hid hsl
      clear hsl
      go_simp
      refine (ldo_at 5 [yesV false] _ _ HSL.out).mono ?_
      rintro e V2 ⟨rfl, hb⟩
      rw [E6.out]
      have HB := hid hb
      clear hb
      go_wp2_with fail
      exact hK.out _ _ (fun d hd => by cases hd; exact Rby.Ex.val (by kernel_rfl)) (HJ.out.step HB.out) HB.out
    · intro ac V yl K hf hs hy hJ hK
      have g0 := Rby.at_val (hs 91 (by kernel_rfl)) (c := .bool true) (by kernel_rfl)
      have gy : yl 66 = some true := hy 66 91 (by kernel_rfl) true g0
      have e100 := Rby.at_val (hs 100 (by kernel_rfl)) (c := vV (yesV false)) (by kernel_rfl)
      have e103 := Rby.at_val (hs 103 (by kernel_rfl)) (c := vV (yesV true)) (by kernel_rfl)
      clear hf hs hy
      have HJ := hid hJ
      clear hJ
      go_simp
      exact hK.out _ _ (fun d hd => by cases hd; exact Rby.Ex.sl (l := [yesV false, yesV true]) (by kernel_rfl) (vsl2 (yesV false) (yesV true) V)) (HJ.out.alloc _) ((Below.refl _ _).alloc (Nat.le_refl _) _)
    · intro ac V yl K hf hs hy hJ hK
      have g0 := Rby.at_val (hs 91 (by kernel_rfl)) (c := .bool true) (by kernel_rfl)
      have gy : yl 66 = some true := hy 66 91 (by kernel_rfl) true g0
      obtain ⟨sb, e104, hsl⟩ := Rby.at_sl (hs 104 (by kernel_rfl)) (l := [yesV false, yesV true]) (by kernel_rfl)
      clear hf hs hy
      have HJ := hid hJ
      clear hJ
      have HSL := hid hsl
      clear hsl
      go_simp
      refine (ldo_at 16 [yesV false, yesV true] _ _ HSL.out).mono ?_
      rintro e V2 ⟨rfl, hb⟩
      rw [E7.out]
      have HB := hid hb
      clear hb
      go_wp2_with fail
      exact hK.out _ _ (fun d hd => by cases hd; exact Rby.Ex.val (by kernel_rfl)) (HJ.out.step HB.out) HB.out
    · intro ac V yl K hf hs hy hJ hK
      have g0 := Rby.at_val (hs 91 (by kernel_rfl)) (c := .bool true) (by kernel_rfl)
      have gy : yl 66 = some true := hy 66 91 (by kernel_rfl) true g0
      have e97 := Rby.at_val (hs 97 (by kernel_rfl)) (c := vV (yesV true)) (by kernel_rfl)
      have e105 := Rby.at_val (hs 105 (by kernel_rfl)) (c := vV (yesV true)) (by kernel_rfl)
      clear hf hs hy
      have HJ := hid hJ
      clear hJ
      go_simp
      exact hK.out _ _ (fun d hd => by cases hd; exact Rby.Ex.val (by kernel_rfl)) HJ.out (Below.refl _ _)
    · intro ac V yl K hf hs hy hJ hK
      have e91 := Rby.at_val (hs 91 (by kernel_rfl)) (c := .bool true) (by kernel_rfl)
      have e106 := Rby.at_val (hs 106 (by kernel_rfl)) (c := .bool true) (by kernel_rfl)
      clear hf hs hy
      have HJ := hid hJ
      clear hJ
      go_simp
      exact hK.out _ _ (fun d hd => by cases hd; exact Rby.Ex.val (by kernel_rfl)) HJ.out (Below.refl _ _)
    · intro ac V yl K hf hs hy hJ hK
      have e107 := Rby.at_val (hs 107 (by kernel_rfl)) (c := .bool true) (by kernel_rfl)
      clear hf hs hy
      have HJ := hid hJ
      clear hJ
      go_simp
      exact hK.out _ _ (fun d hd => by cases hd; exact Rby.Ex.val (by kernel_rfl)) HJ.out (Below.refl _ _)
  case fin =>
    intro ac V hd hsz hf hh hJ
    have e6 := Rby.at_val (hh 6 (by kernel_rfl)) (c := .bool true) (by kernel_rfl)
    have HJ := hid hJ
    clear hf hh hJ hsz
    obtain ⟨tm, df⟩ := ac
    obtain rfl : df = [] := hd
    simp only at e6
    go_wp2_with (fail)
    go_ret
    exact ⟨by simp [e6], HJ.out.below⟩
/-- What each slot holds behind its operation. -/
def yesftT (n0 n1 : Int) : List (Nat × (Value ⊕ List Vl)) := [(25, .inl (.bool true)), (26, .inl (.bool true)), (27, .inl (vV (yesV false))), (28, .inl (vV (yesV true))), (29, .inr [yesV false, yesV true]), (30, .inl (vV (yesV false))), (31, .inl (.bool false)), (32, .inl (.bool false)), (33, .inl (undef)), (34, .inl (.bool false)), (35, .inl (vV (yesV false))), (36, .inl (.bool true)), (37, .inl (.bool true)), (38, .inl (.bool true)), (39, .inl (vV (yesV false))), (40, .inl (vV (yesV true))), (41, .inr [yesV false, yesV true]), (42, .inl (vV (yesV true))), (43, .inl (.bool false)), (44, .inl (.bool false)), (45, .inl (.bool true)), (46, .inl (.bool true)), (47, .inl (vV (yesV true))), (48, .inl (.bool true)), (49, .inl (.bool true)), (50, .inl (.bool true)), (51, .inl (vV (yesV false))), (52, .inr [yesV false]), (53, .inl (vV (yesV true))), (54, .inl (.bool false)), (55, .inl (.bool true)), (56, .inl (vV (yesV true))), (57, .inl (.bool true)), (58, .inl (.bool true)), (59, .inl (.bool true)), (60, .inl (vV (yesV false))), (61, .inl (vV (yesV true))), (62, .inr [yesV false, yesV true]), (63, .inl (vV (yesV false))), (64, .inl (.bool false)), (65, .inl (.bool true)), (66, .inl (.bool false)), (67, .inl (vV (yesV false))), (68, .inl (.bool true)), (69, .inl (.bool true)), (70, .inl (.bool true)), (71, .inl (vV (yesV false))), (72, .inl (vV (numV n0))), (73, .inl (vV (numV n1))), (74, .inr [yesV false, numV n0, numV n1]), (75, .inl (vV (numV n1))), (76, .inl (vV (numV n1))), (77, .inl (.bool true)), (78, .inl (.bool true)), (79, .inl (.bool true)), (80, .inl (vV (yesV false))), (81, .inl (vV (yesV true))), (82, .inl (vV (yesV false))), (83, .inr [yesV false, yesV true, yesV false]), (84, .inl (vV (yesV false))), (85, .inl (vV (yesV false))), (86, .inl (vV (yesV true))), (87, .inr [yesV false, yesV true]), (88, .inl (vV (yesV false))), (89, .inl (.bool true)), (90, .inl (.bool true)), (91, .inl (.bool true)), (92, .inl (vV (yesV false))), (93, .inl (vV (yesV true))), (94, .inr [yesV false, yesV true]), (95, .inl (vV (yesV false))), (96, .inr [yesV false]), (97, .inl (vV (yesV true))), (98, .inl (vV (yesV false))), (99, .inr [yesV false]), (100, .inl (vV (yesV true))), (101, .inl (vV (yesV true))), (102, .inr [yesV true]), (103, .inl (vV (yesV false))), (104, .inr [yesV true, yesV false]), (105, .inl (vV (yesV true))), (106, .inl (.bool true)), (107, .inl (.bool true)), (6, .inl (.bool true))]
set_option maxRecDepth 100000 in
theorem walk6ft (n0 n1 : Int) (w : World) (hT : TabP w) : Calls Tryd.prog 6 #[.bool false, .bool true, .agg #[.int .i64 n0, .int .i64 n1]] w fun e w' => e = .returned (.bool true) ∧ Below w.heap.size w w' := by
  have R0 := hid (LV.start hT)
  have E0 : Hid (doE 15 [yesV false, yesV true] = yesV false) := hid rfl
  have E1 : Hid (doE 16 [yesV false, yesV true] = yesV true) := hid rfl
  have E2 : Hid (doE 5 [yesV false] = yesV true) := hid rfl
  have E3 : Hid (doE 11 [yesV false, yesV true] = yesV false) := hid rfl
  have E4 : Hid (doE 17 [yesV false, numV n0, numV n1] = numV n1) := hid rfl
  have E5 : Hid (doE 17 [yesV false, yesV true, yesV false] = yesV false) := hid rfl
  have E6 : Hid (doE 5 [yesV true] = yesV false) := hid rfl
  have E7 : Hid (doE 16 [yesV true, yesV false] = yesV true) := hid rfl
  replace R0 := hid (R0.out.alloc (.cells #[.int .i64 n0, .int .i64 n1] 33))
  have y0 : (w.alloc (.cells #[.int .i64 n0, .int .i64 n1] 33)).heap[w.heap.size]? = some (.cells #[.int .i64 n0, .int .i64 n1] 33 (0, 0)) := heap_alloc_new w _
  have Y0 := hid y0
  clear hT y0
  go_enter Tryd.func6, Tryd.ntmps6
  go_wp2_with (fail)
  generalize hW0 : w.alloc (.cells #[.int .i64 n0, .int .i64 n1] 33) = W0 at *
  have HW0 := hid hW0
  clear hW0
  refine (lyes_at _ _).mono ?_
  rintro e v1 ⟨rfl, hb⟩
  have R1 := hid (R0.out.step hb)
  replace Y0 := hid (keep_row Y0.out hb)
  clear hb
  have R2 := hid (R1.out.push (yesV false) (b := v1.heap.size) rfl)
  go_wp2_with (fail)
  refine (lyes_at _ _).mono ?_
  rintro e v3 ⟨rfl, hb⟩
  have R3 := hid (R2.out.step hb)
  replace Y0 := hid (keep_row (push_old Y0.out) hb)
  clear hb
  generalize v1.heap.size = ba at *
  have R4 := hid (R3.out.push (yesV true) (b := v3.heap.size) rfl)
  have z0 := (cell_of_row _ _ 0 _ 33 (0, 0) (push_old (o' := .cells (vC (yesV true)) 24) Y0.out)).trans (show _ = some (.int .i64 n0) from rfl)
  go_wp2_with (fail)
  clear z0
  refine (lnumber_at _ _).mono ?_
  rintro e v5 ⟨rfl, hb⟩
  have R5 := hid (R4.out.step hb)
  replace Y0 := hid (keep_row (push_old Y0.out) hb)
  clear hb
  generalize v3.heap.size = bb at *
  have R6 := hid (R5.out.push (numV n0) (b := v5.heap.size) rfl)
  have z0 := (cell_of_row _ _ 1 _ 33 (0, 0) (push_old (o' := .cells (vC (numV n0)) 24) Y0.out)).trans (show _ = some (.int .i64 n1) from rfl)
  go_wp2_with (fail)
  clear z0
  refine (lnumber_at _ _).mono ?_
  rintro e v7 ⟨rfl, hb⟩
  have R7 := hid (R6.out.step hb)
  replace Y0 := hid (keep_row (push_old Y0.out) hb)
  clear hb
  generalize v5.heap.size = bx at *
  have R8 := hid (R7.out.push (numV n1) (b := v7.heap.size) rfl)
  have RW := hid (R8.out.push (numV n1) (b := v7.heap.size + 1) (by simp))
  obtain ⟨c00, c01⟩ := R8.out.cs (v7.heap.size) (numV n1) (by simp)
  obtain ⟨c10, c11⟩ := R8.out.cs (bx) (numV n0) (by simp)
  obtain ⟨c20, c21⟩ := R8.out.cs (bb) (yesV true) (by simp)
  obtain ⟨c30, c31⟩ := R8.out.cs (ba) (yesV false) (by simp)
  go_wp2_with (fail)
  clear c00 c01 c10 c11 c20 c21 c30 c31
  have RV := RW
  generalize (v7.alloc (.cells (vC (numV n1)) 24)).alloc (.cells (vC (numV n1)) 24) = W8 at *
  have RS := hid RV.out.rebase
  clear RV RW R8 Y0 HW0
  generalize v7.heap.size + 1 = bw at *
  generalize v7.heap.size = by_ at *
  refine Rby.region_by (J := fun V => LV w W8.heap.size [(bw, numV n1), (by_, numV n1), (bx, numV n0), (bb, yesV true), (ba, yesV false)] [] V) (E := Rby.Ex (yesftT n0 n1)) (by kernel_rfl) (by kernel_rfl) (by kernel_rfl) (by kernel_rfl) (Rby.Ex.keep _) RS.out.drew ?step ?fin
  case step =>
    refine Rby.AllL.cons ?_ <| Rby.AllL.cons ?_ <| Rby.AllL.cons ?_ <| Rby.AllL.cons ?_ <| Rby.AllL.cons ?_ <| Rby.AllL.cons ?_ <| Rby.AllL.cons ?_ <| Rby.AllL.cons ?_ <| Rby.AllL.cons ?_ <| Rby.AllL.cons ?_ <| Rby.AllL.cons ?_ <| Rby.AllL.cons ?_ <| Rby.AllL.cons ?_ <| Rby.AllL.cons ?_ <| Rby.AllL.cons ?_ <| Rby.AllL.cons ?_ <| Rby.AllL.cons ?_ <| Rby.AllL.cons ?_ <| Rby.AllL.cons ?_ <| Rby.AllL.cons ?_ <| Rby.AllL.cons ?_ <| Rby.AllL.cons ?_ <| Rby.AllL.cons ?_ <| Rby.AllL.cons ?_ <| Rby.AllL.cons ?_ <| Rby.AllL.cons ?_ <| Rby.AllL.cons ?_ <| Rby.AllL.cons ?_ <| Rby.AllL.cons ?_ <| Rby.AllL.cons ?_ <| Rby.AllL.cons ?_ <| Rby.AllL.cons ?_ <| Rby.AllL.cons ?_ <| Rby.AllL.cons ?_ <| Rby.AllL.cons ?_ <| Rby.AllL.cons ?_ <| Rby.AllL.cons ?_ <| Rby.AllL.cons ?_ <| Rby.AllL.cons ?_ <| Rby.AllL.cons ?_ <| Rby.AllL.cons ?_ <| Rby.AllL.cons ?_ <| Rby.AllL.cons ?_ <| Rby.AllL.cons ?_ <| Rby.AllL.cons ?_ <| Rby.AllL.cons ?_ <| Rby.AllL.cons ?_ <| Rby.AllL.cons ?_ <| Rby.AllL.cons ?_ <| Rby.AllL.cons ?_ <| Rby.AllL.cons ?_ <| Rby.AllL.cons ?_ <| Rby.AllL.cons ?_ <| Rby.AllL.cons ?_ <| Rby.AllL.cons ?_ <| Rby.AllL.cons ?_ <| Rby.AllL.cons ?_ <| Rby.AllL.cons ?_ <| Rby.AllL.cons ?_ <| Rby.AllL.cons ?_ <| Rby.AllL.cons ?_ <| Rby.AllL.cons ?_ <| Rby.AllL.cons ?_ <| Rby.AllL.cons ?_ <| Rby.AllL.cons ?_ <| Rby.AllL.cons ?_ <| Rby.AllL.cons ?_ <| Rby.AllL.cons ?_ <| Rby.AllL.cons ?_ <| Rby.AllL.cons ?_ <| Rby.AllL.cons ?_ <| Rby.AllL.cons ?_ <| Rby.AllL.cons ?_ <| Rby.AllL.cons ?_ <| Rby.AllL.cons ?_ <| Rby.AllL.cons ?_ <| Rby.AllL.cons ?_ <| Rby.AllL.cons ?_ <| Rby.AllL.cons ?_ <| Rby.AllL.cons ?_ <| Rby.AllL.cons ?_ <| Rby.AllL.cons ?_ <| Rby.AllL.cons ?_ <| Rby.AllL.cons ?_ <| Rby.AllL.nil
    · intro ac V yl K hf hs hy hJ hK
      clear hf hs hy
      have HJ := hid hJ
      clear hJ
      go_simp
      refine (alive_at _ HJ.out.tab).mono ?_
      rintro e V2 ⟨rfl, hb⟩
      have HB := hid hb
      clear hb
      go_wp2_with fail
      exact hK.out _ _ (fun d hd => by cases hd; exact Rby.Ex.val (by kernel_rfl)) (HJ.out.step HB.out) HB.out
    · intro ac V yl K hf hs hy hJ hK
      have e25 := Rby.at_val (hs 25 (by kernel_rfl)) (c := .bool true) (by kernel_rfl)
      clear hf hs hy
      have HJ := hid hJ
      clear hJ
      go_simp
      exact hK.out _ _ (fun d hd => by cases hd; exact Rby.Ex.val (by kernel_rfl)) HJ.out (Below.refl _ _)
    · intro ac V yl K hf hs hy hJ hK
      have g0 := Rby.at_val (hs 26 (by kernel_rfl)) (c := .bool true) (by kernel_rfl)
      have gy : yl 1 = some true := hy 1 26 (by kernel_rfl) true g0
      have e7 : ac.tmps[7]? = some (.pointer (some ⟨ba, 0, none⟩)) := (hf 7 (by kernel_rfl)).trans rfl
      obtain ⟨c0, c1⟩ := hJ.cs (ba) (yesV false) (by simp)
      clear hf hs hy
      have HJ := hid hJ
      clear hJ
      go_simp
      exact hK.out _ _ (fun d hd => by cases hd; exact Rby.Ex.val (by kernel_rfl)) HJ.out (Below.refl _ _)
    · intro ac V yl K hf hs hy hJ hK
      have g0 := Rby.at_val (hs 26 (by kernel_rfl)) (c := .bool true) (by kernel_rfl)
      have gy : yl 1 = some true := hy 1 26 (by kernel_rfl) true g0
      have e8 : ac.tmps[8]? = some (.pointer (some ⟨bb, 0, none⟩)) := (hf 8 (by kernel_rfl)).trans rfl
      obtain ⟨c0, c1⟩ := hJ.cs (bb) (yesV true) (by simp)
      clear hf hs hy
      have HJ := hid hJ
      clear hJ
      go_simp
      exact hK.out _ _ (fun d hd => by cases hd; exact Rby.Ex.val (by kernel_rfl)) HJ.out (Below.refl _ _)
    · intro ac V yl K hf hs hy hJ hK
      have g0 := Rby.at_val (hs 26 (by kernel_rfl)) (c := .bool true) (by kernel_rfl)
      have gy : yl 1 = some true := hy 1 26 (by kernel_rfl) true g0
      have e27 := Rby.at_val (hs 27 (by kernel_rfl)) (c := vV (yesV false)) (by kernel_rfl)
      have e28 := Rby.at_val (hs 28 (by kernel_rfl)) (c := vV (yesV true)) (by kernel_rfl)
      clear hf hs hy
      have HJ := hid hJ
      clear hJ
      go_simp
      exact hK.out _ _ (fun d hd => by cases hd; exact Rby.Ex.sl (l := [yesV false, yesV true]) (by kernel_rfl) (vsl2 (yesV false) (yesV true) V)) (HJ.out.alloc _) ((Below.refl _ _).alloc (Nat.le_refl _) _)
    · intro ac V yl K hf hs hy hJ hK
      have g0 := Rby.at_val (hs 26 (by kernel_rfl)) (c := .bool true) (by kernel_rfl)
      have gy : yl 1 = some true := hy 1 26 (by kernel_rfl) true g0
      obtain ⟨sb, e29, hsl⟩ := Rby.at_sl (hs 29 (by kernel_rfl)) (l := [yesV false, yesV true]) (by kernel_rfl)
      clear hf hs hy
      have HJ := hid hJ
      clear hJ
      have HSL := hid hsl
      clear hsl
      go_simp
      refine (ldo_at 15 [yesV false, yesV true] _ _ HSL.out).mono ?_
      rintro e V2 ⟨rfl, hb⟩
      rw [E0.out]
      have HB := hid hb
      clear hb
      go_wp2_with fail
      exact hK.out _ _ (fun d hd => by cases hd; exact Rby.Ex.val (by kernel_rfl)) (HJ.out.step HB.out) HB.out
    · intro ac V yl K hf hs hy hJ hK
      have g0 := Rby.at_val (hs 26 (by kernel_rfl)) (c := .bool true) (by kernel_rfl)
      have gy : yl 1 = some true := hy 1 26 (by kernel_rfl) true g0
      have e0 : ac.tmps[0]? = some (.bool false) := (hf 0 (by kernel_rfl)).trans rfl
      clear hf hs hy
      have HJ := hid hJ
      clear hJ
      go_simp
      exact hK.out _ _ (fun d hd => by cases hd; exact Rby.Ex.val (by kernel_rfl)) HJ.out (Below.refl _ _)
    · intro ac V yl K hf hs hy hJ hK
      have g0 := Rby.at_val (hs 26 (by kernel_rfl)) (c := .bool true) (by kernel_rfl)
      have gy : yl 1 = some true := hy 1 26 (by kernel_rfl) true g0
      have e31 := Rby.at_val (hs 31 (by kernel_rfl)) (c := .bool false) (by kernel_rfl)
      clear hf hs hy
      have HJ := hid hJ
      clear hJ
      go_simp
      exact hK.out _ _ (fun d hd => by cases hd; exact Rby.Ex.val (by kernel_rfl)) HJ.out (Below.refl _ _)
    · intro ac V yl K hf hs hy hJ hK
      have g0 := Rby.at_val (hs 32 (by kernel_rfl)) (c := .bool false) (by kernel_rfl)
      have gy : yl 7 = some false := hy 7 32 (by kernel_rfl) false g0
      clear hf hs hy
      go_simp
      exact hK.out _ _ (fun d hd => by cases hd; exact Rby.Ex.val (by kernel_rfl)) hJ (Below.refl _ _)
    · intro ac V yl K hf hs hy hJ hK
      have g0 := Rby.at_val (hs 26 (by kernel_rfl)) (c := .bool true) (by kernel_rfl)
      have gy : yl 1 = some true := hy 1 26 (by kernel_rfl) true g0
      have e32 := Rby.at_val (hs 32 (by kernel_rfl)) (c := .bool false) (by kernel_rfl)
      have e33 := Rby.at_val (hs 33 (by kernel_rfl)) (c := undef) (by kernel_rfl)
      clear hf hs hy
      have HJ := hid hJ
      clear hJ
      go_simp
      exact hK.out _ _ (fun d hd => by cases hd; exact Rby.Ex.val (by kernel_rfl)) HJ.out (Below.refl _ _)
    · intro ac V yl K hf hs hy hJ hK
      have g0 := Rby.at_val (hs 26 (by kernel_rfl)) (c := .bool true) (by kernel_rfl)
      have gy : yl 1 = some true := hy 1 26 (by kernel_rfl) true g0
      have e34 := Rby.at_val (hs 34 (by kernel_rfl)) (c := .bool false) (by kernel_rfl)
      clear hf hs hy
      have HJ := hid hJ
      clear hJ
      go_simp
      refine (lyes_at _ _).mono ?_
      rintro e V2 ⟨rfl, hb⟩
      have HB := hid hb
      clear hb
      go_wp2_with fail
      exact hK.out _ _ (fun d hd => by cases hd; exact Rby.Ex.val (by kernel_rfl)) (HJ.out.step HB.out) HB.out
    · intro ac V yl K hf hs hy hJ hK
      have g0 := Rby.at_val (hs 26 (by kernel_rfl)) (c := .bool true) (by kernel_rfl)
      have gy : yl 1 = some true := hy 1 26 (by kernel_rfl) true g0
      have e30 := Rby.at_val (hs 30 (by kernel_rfl)) (c := vV (yesV false)) (by kernel_rfl)
      have e35 := Rby.at_val (hs 35 (by kernel_rfl)) (c := vV (yesV false)) (by kernel_rfl)
      clear hf hs hy
      have HJ := hid hJ
      clear hJ
      go_simp
      exact hK.out _ _ (fun d hd => by cases hd; exact Rby.Ex.val (by kernel_rfl)) HJ.out (Below.refl _ _)
    · intro ac V yl K hf hs hy hJ hK
      have e26 := Rby.at_val (hs 26 (by kernel_rfl)) (c := .bool true) (by kernel_rfl)
      have e36 := Rby.at_val (hs 36 (by kernel_rfl)) (c := .bool true) (by kernel_rfl)
      clear hf hs hy
      have HJ := hid hJ
      clear hJ
      go_simp
      exact hK.out _ _ (fun d hd => by cases hd; exact Rby.Ex.val (by kernel_rfl)) HJ.out (Below.refl _ _)
    · intro ac V yl K hf hs hy hJ hK
      have e37 := Rby.at_val (hs 37 (by kernel_rfl)) (c := .bool true) (by kernel_rfl)
      clear hf hs hy
      have HJ := hid hJ
      clear hJ
      go_simp
      exact hK.out _ _ (fun d hd => by cases hd; exact Rby.Ex.val (by kernel_rfl)) HJ.out (Below.refl _ _)
    · intro ac V yl K hf hs hy hJ hK
      have g0 := Rby.at_val (hs 38 (by kernel_rfl)) (c := .bool true) (by kernel_rfl)
      have gy : yl 13 = some true := hy 13 38 (by kernel_rfl) true g0
      have e7 : ac.tmps[7]? = some (.pointer (some ⟨ba, 0, none⟩)) := (hf 7 (by kernel_rfl)).trans rfl
      obtain ⟨c0, c1⟩ := hJ.cs (ba) (yesV false) (by simp)
      clear hf hs hy
      have HJ := hid hJ
      clear hJ
      go_simp
      exact hK.out _ _ (fun d hd => by cases hd; exact Rby.Ex.val (by kernel_rfl)) HJ.out (Below.refl _ _)
    · intro ac V yl K hf hs hy hJ hK
      have g0 := Rby.at_val (hs 38 (by kernel_rfl)) (c := .bool true) (by kernel_rfl)
      have gy : yl 13 = some true := hy 13 38 (by kernel_rfl) true g0
      have e8 : ac.tmps[8]? = some (.pointer (some ⟨bb, 0, none⟩)) := (hf 8 (by kernel_rfl)).trans rfl
      obtain ⟨c0, c1⟩ := hJ.cs (bb) (yesV true) (by simp)
      clear hf hs hy
      have HJ := hid hJ
      clear hJ
      go_simp
      exact hK.out _ _ (fun d hd => by cases hd; exact Rby.Ex.val (by kernel_rfl)) HJ.out (Below.refl _ _)
    · intro ac V yl K hf hs hy hJ hK
      have g0 := Rby.at_val (hs 38 (by kernel_rfl)) (c := .bool true) (by kernel_rfl)
      have gy : yl 13 = some true := hy 13 38 (by kernel_rfl) true g0
      have e39 := Rby.at_val (hs 39 (by kernel_rfl)) (c := vV (yesV false)) (by kernel_rfl)
      have e40 := Rby.at_val (hs 40 (by kernel_rfl)) (c := vV (yesV true)) (by kernel_rfl)
      clear hf hs hy
      have HJ := hid hJ
      clear hJ
      go_simp
      exact hK.out _ _ (fun d hd => by cases hd; exact Rby.Ex.sl (l := [yesV false, yesV true]) (by kernel_rfl) (vsl2 (yesV false) (yesV true) V)) (HJ.out.alloc _) ((Below.refl _ _).alloc (Nat.le_refl _) _)
    · intro ac V yl K hf hs hy hJ hK
      have g0 := Rby.at_val (hs 38 (by kernel_rfl)) (c := .bool true) (by kernel_rfl)
      have gy : yl 13 = some true := hy 13 38 (by kernel_rfl) true g0
      obtain ⟨sb, e41, hsl⟩ := Rby.at_sl (hs 41 (by kernel_rfl)) (l := [yesV false, yesV true]) (by kernel_rfl)
      clear hf hs hy
      have HJ := hid hJ
      clear hJ
      have HSL := hid hsl
      clear hsl
      go_simp
      refine (ldo_at 16 [yesV false, yesV true] _ _ HSL.out).mono ?_
      rintro e V2 ⟨rfl, hb⟩
      rw [E1.out]
      have HB := hid hb
      clear hb
      go_wp2_with fail
      exact hK.out _ _ (fun d hd => by cases hd; exact Rby.Ex.val (by kernel_rfl)) (HJ.out.step HB.out) HB.out
    · intro ac V yl K hf hs hy hJ hK
      have g0 := Rby.at_val (hs 38 (by kernel_rfl)) (c := .bool true) (by kernel_rfl)
      have gy : yl 13 = some true := hy 13 38 (by kernel_rfl) true g0
      have e0 : ac.tmps[0]? = some (.bool false) := (hf 0 (by kernel_rfl)).trans rfl
      clear hf hs hy
      have HJ := hid hJ
      clear hJ
      go_simp
      exact hK.out _ _ (fun d hd => by cases hd; exact Rby.Ex.val (by kernel_rfl)) HJ.out (Below.refl _ _)
    · intro ac V yl K hf hs hy hJ hK
      have g0 := Rby.at_val (hs 38 (by kernel_rfl)) (c := .bool true) (by kernel_rfl)
      have gy : yl 13 = some true := hy 13 38 (by kernel_rfl) true g0
      have e43 := Rby.at_val (hs 43 (by kernel_rfl)) (c := .bool false) (by kernel_rfl)
      clear hf hs hy
      have HJ := hid hJ
      clear hJ
      go_simp
      exact hK.out _ _ (fun d hd => by cases hd; exact Rby.Ex.val (by kernel_rfl)) HJ.out (Below.refl _ _)
    · intro ac V yl K hf hs hy hJ hK
      have g0 := Rby.at_val (hs 44 (by kernel_rfl)) (c := .bool false) (by kernel_rfl)
      have gy : yl 19 = some false := hy 19 44 (by kernel_rfl) false g0
      have e1 : ac.tmps[1]? = some (.bool true) := (hf 1 (by kernel_rfl)).trans rfl
      clear hf hs hy
      have HJ := hid hJ
      clear hJ
      go_simp
      exact hK.out _ _ (fun d hd => by cases hd; exact Rby.Ex.val (by kernel_rfl)) HJ.out (Below.refl _ _)
    · intro ac V yl K hf hs hy hJ hK
      have g0 := Rby.at_val (hs 38 (by kernel_rfl)) (c := .bool true) (by kernel_rfl)
      have gy : yl 13 = some true := hy 13 38 (by kernel_rfl) true g0
      have e44 := Rby.at_val (hs 44 (by kernel_rfl)) (c := .bool false) (by kernel_rfl)
      have e45 := Rby.at_val (hs 45 (by kernel_rfl)) (c := .bool true) (by kernel_rfl)
      clear hf hs hy
      have HJ := hid hJ
      clear hJ
      go_simp
      exact hK.out _ _ (fun d hd => by cases hd; exact Rby.Ex.val (by kernel_rfl)) HJ.out (Below.refl _ _)
    · intro ac V yl K hf hs hy hJ hK
      have g0 := Rby.at_val (hs 38 (by kernel_rfl)) (c := .bool true) (by kernel_rfl)
      have gy : yl 13 = some true := hy 13 38 (by kernel_rfl) true g0
      have e46 := Rby.at_val (hs 46 (by kernel_rfl)) (c := .bool true) (by kernel_rfl)
      clear hf hs hy
      have HJ := hid hJ
      clear hJ
      go_simp
      refine (lyes_at _ _).mono ?_
      rintro e V2 ⟨rfl, hb⟩
      have HB := hid hb
      clear hb
      go_wp2_with fail
      exact hK.out _ _ (fun d hd => by cases hd; exact Rby.Ex.val (by kernel_rfl)) (HJ.out.step HB.out) HB.out
    · intro ac V yl K hf hs hy hJ hK
      have g0 := Rby.at_val (hs 38 (by kernel_rfl)) (c := .bool true) (by kernel_rfl)
      have gy : yl 13 = some true := hy 13 38 (by kernel_rfl) true g0
      have e42 := Rby.at_val (hs 42 (by kernel_rfl)) (c := vV (yesV true)) (by kernel_rfl)
      have e47 := Rby.at_val (hs 47 (by kernel_rfl)) (c := vV (yesV true)) (by kernel_rfl)
      clear hf hs hy
      have HJ := hid hJ
      clear hJ
      go_simp
      exact hK.out _ _ (fun d hd => by cases hd; exact Rby.Ex.val (by kernel_rfl)) HJ.out (Below.refl _ _)
    · intro ac V yl K hf hs hy hJ hK
      have e38 := Rby.at_val (hs 38 (by kernel_rfl)) (c := .bool true) (by kernel_rfl)
      have e48 := Rby.at_val (hs 48 (by kernel_rfl)) (c := .bool true) (by kernel_rfl)
      clear hf hs hy
      have HJ := hid hJ
      clear hJ
      go_simp
      exact hK.out _ _ (fun d hd => by cases hd; exact Rby.Ex.val (by kernel_rfl)) HJ.out (Below.refl _ _)
    · intro ac V yl K hf hs hy hJ hK
      have e49 := Rby.at_val (hs 49 (by kernel_rfl)) (c := .bool true) (by kernel_rfl)
      clear hf hs hy
      have HJ := hid hJ
      clear hJ
      go_simp
      exact hK.out _ _ (fun d hd => by cases hd; exact Rby.Ex.val (by kernel_rfl)) HJ.out (Below.refl _ _)
    · intro ac V yl K hf hs hy hJ hK
      have g0 := Rby.at_val (hs 50 (by kernel_rfl)) (c := .bool true) (by kernel_rfl)
      have gy : yl 25 = some true := hy 25 50 (by kernel_rfl) true g0
      have e7 : ac.tmps[7]? = some (.pointer (some ⟨ba, 0, none⟩)) := (hf 7 (by kernel_rfl)).trans rfl
      obtain ⟨c0, c1⟩ := hJ.cs (ba) (yesV false) (by simp)
      clear hf hs hy
      have HJ := hid hJ
      clear hJ
      go_simp
      exact hK.out _ _ (fun d hd => by cases hd; exact Rby.Ex.val (by kernel_rfl)) HJ.out (Below.refl _ _)
    · intro ac V yl K hf hs hy hJ hK
      have g0 := Rby.at_val (hs 50 (by kernel_rfl)) (c := .bool true) (by kernel_rfl)
      have gy : yl 25 = some true := hy 25 50 (by kernel_rfl) true g0
      have e51 := Rby.at_val (hs 51 (by kernel_rfl)) (c := vV (yesV false)) (by kernel_rfl)
      clear hf hs hy
      have HJ := hid hJ
      clear hJ
      go_simp
      exact hK.out _ _ (fun d hd => by cases hd; exact Rby.Ex.sl (l := [yesV false]) (by kernel_rfl) (vsl1 (yesV false) V)) (HJ.out.alloc _) ((Below.refl _ _).alloc (Nat.le_refl _) _)
    · intro ac V yl K hf hs hy hJ hK
      have g0 := Rby.at_val (hs 50 (by kernel_rfl)) (c := .bool true) (by kernel_rfl)
      have gy : yl 25 = some true := hy 25 50 (by kernel_rfl) true g0
      obtain ⟨sb, e52, hsl⟩ := Rby.at_sl (hs 52 (by kernel_rfl)) (l := [yesV false]) (by kernel_rfl)
      clear hf hs hy
      have HJ := hid hJ
      clear hJ
      have HSL := hid hsl
      clear hsl
      go_simp
      refine (ldo_at 5 [yesV false] _ _ HSL.out).mono ?_
      rintro e V2 ⟨rfl, hb⟩
      rw [E2.out]
      have HB := hid hb
      clear hb
      go_wp2_with fail
      exact hK.out _ _ (fun d hd => by cases hd; exact Rby.Ex.val (by kernel_rfl)) (HJ.out.step HB.out) HB.out
    · intro ac V yl K hf hs hy hJ hK
      have g0 := Rby.at_val (hs 50 (by kernel_rfl)) (c := .bool true) (by kernel_rfl)
      have gy : yl 25 = some true := hy 25 50 (by kernel_rfl) true g0
      have e0 : ac.tmps[0]? = some (.bool false) := (hf 0 (by kernel_rfl)).trans rfl
      clear hf hs hy
      have HJ := hid hJ
      clear hJ
      go_simp
      exact hK.out _ _ (fun d hd => by cases hd; exact Rby.Ex.val (by kernel_rfl)) HJ.out (Below.refl _ _)
    · intro ac V yl K hf hs hy hJ hK
      have g0 := Rby.at_val (hs 50 (by kernel_rfl)) (c := .bool true) (by kernel_rfl)
      have gy : yl 25 = some true := hy 25 50 (by kernel_rfl) true g0
      have e54 := Rby.at_val (hs 54 (by kernel_rfl)) (c := .bool false) (by kernel_rfl)
      clear hf hs hy
      have HJ := hid hJ
      clear hJ
      go_simp
      exact hK.out _ _ (fun d hd => by cases hd; exact Rby.Ex.val (by kernel_rfl)) HJ.out (Below.refl _ _)
    · intro ac V yl K hf hs hy hJ hK
      have g0 := Rby.at_val (hs 50 (by kernel_rfl)) (c := .bool true) (by kernel_rfl)
      have gy : yl 25 = some true := hy 25 50 (by kernel_rfl) true g0
      have e55 := Rby.at_val (hs 55 (by kernel_rfl)) (c := .bool true) (by kernel_rfl)
      clear hf hs hy
      have HJ := hid hJ
      clear hJ
      go_simp
      refine (lyes_at _ _).mono ?_
      rintro e V2 ⟨rfl, hb⟩
      have HB := hid hb
      clear hb
      go_wp2_with fail
      exact hK.out _ _ (fun d hd => by cases hd; exact Rby.Ex.val (by kernel_rfl)) (HJ.out.step HB.out) HB.out
    · intro ac V yl K hf hs hy hJ hK
      have g0 := Rby.at_val (hs 50 (by kernel_rfl)) (c := .bool true) (by kernel_rfl)
      have gy : yl 25 = some true := hy 25 50 (by kernel_rfl) true g0
      have e53 := Rby.at_val (hs 53 (by kernel_rfl)) (c := vV (yesV true)) (by kernel_rfl)
      have e56 := Rby.at_val (hs 56 (by kernel_rfl)) (c := vV (yesV true)) (by kernel_rfl)
      clear hf hs hy
      have HJ := hid hJ
      clear hJ
      go_simp
      exact hK.out _ _ (fun d hd => by cases hd; exact Rby.Ex.val (by kernel_rfl)) HJ.out (Below.refl _ _)
    · intro ac V yl K hf hs hy hJ hK
      have e50 := Rby.at_val (hs 50 (by kernel_rfl)) (c := .bool true) (by kernel_rfl)
      have e57 := Rby.at_val (hs 57 (by kernel_rfl)) (c := .bool true) (by kernel_rfl)
      clear hf hs hy
      have HJ := hid hJ
      clear hJ
      go_simp
      exact hK.out _ _ (fun d hd => by cases hd; exact Rby.Ex.val (by kernel_rfl)) HJ.out (Below.refl _ _)
    · intro ac V yl K hf hs hy hJ hK
      have e58 := Rby.at_val (hs 58 (by kernel_rfl)) (c := .bool true) (by kernel_rfl)
      clear hf hs hy
      have HJ := hid hJ
      clear hJ
      go_simp
      exact hK.out _ _ (fun d hd => by cases hd; exact Rby.Ex.val (by kernel_rfl)) HJ.out (Below.refl _ _)
    · intro ac V yl K hf hs hy hJ hK
      have g0 := Rby.at_val (hs 59 (by kernel_rfl)) (c := .bool true) (by kernel_rfl)
      have gy : yl 34 = some true := hy 34 59 (by kernel_rfl) true g0
      have e7 : ac.tmps[7]? = some (.pointer (some ⟨ba, 0, none⟩)) := (hf 7 (by kernel_rfl)).trans rfl
      obtain ⟨c0, c1⟩ := hJ.cs (ba) (yesV false) (by simp)
      clear hf hs hy
      have HJ := hid hJ
      clear hJ
      go_simp
      exact hK.out _ _ (fun d hd => by cases hd; exact Rby.Ex.val (by kernel_rfl)) HJ.out (Below.refl _ _)
    · intro ac V yl K hf hs hy hJ hK
      have g0 := Rby.at_val (hs 59 (by kernel_rfl)) (c := .bool true) (by kernel_rfl)
      have gy : yl 34 = some true := hy 34 59 (by kernel_rfl) true g0
      have e8 : ac.tmps[8]? = some (.pointer (some ⟨bb, 0, none⟩)) := (hf 8 (by kernel_rfl)).trans rfl
      obtain ⟨c0, c1⟩ := hJ.cs (bb) (yesV true) (by simp)
      clear hf hs hy
      have HJ := hid hJ
      clear hJ
      go_simp
      exact hK.out _ _ (fun d hd => by cases hd; exact Rby.Ex.val (by kernel_rfl)) HJ.out (Below.refl _ _)
    · intro ac V yl K hf hs hy hJ hK
      have g0 := Rby.at_val (hs 59 (by kernel_rfl)) (c := .bool true) (by kernel_rfl)
      have gy : yl 34 = some true := hy 34 59 (by kernel_rfl) true g0
      have e60 := Rby.at_val (hs 60 (by kernel_rfl)) (c := vV (yesV false)) (by kernel_rfl)
      have e61 := Rby.at_val (hs 61 (by kernel_rfl)) (c := vV (yesV true)) (by kernel_rfl)
      clear hf hs hy
      have HJ := hid hJ
      clear hJ
      go_simp
      exact hK.out _ _ (fun d hd => by cases hd; exact Rby.Ex.sl (l := [yesV false, yesV true]) (by kernel_rfl) (vsl2 (yesV false) (yesV true) V)) (HJ.out.alloc _) ((Below.refl _ _).alloc (Nat.le_refl _) _)
    · intro ac V yl K hf hs hy hJ hK
      have g0 := Rby.at_val (hs 59 (by kernel_rfl)) (c := .bool true) (by kernel_rfl)
      have gy : yl 34 = some true := hy 34 59 (by kernel_rfl) true g0
      obtain ⟨sb, e62, hsl⟩ := Rby.at_sl (hs 62 (by kernel_rfl)) (l := [yesV false, yesV true]) (by kernel_rfl)
      clear hf hs hy
      have HJ := hid hJ
      clear hJ
      have HSL := hid hsl
      clear hsl
      go_simp
      refine (ldo_at 11 [yesV false, yesV true] _ _ HSL.out).mono ?_
      rintro e V2 ⟨rfl, hb⟩
      rw [E3.out]
      have HB := hid hb
      clear hb
      go_wp2_with fail
      exact hK.out _ _ (fun d hd => by cases hd; exact Rby.Ex.val (by kernel_rfl)) (HJ.out.step HB.out) HB.out
    · intro ac V yl K hf hs hy hJ hK
      have g0 := Rby.at_val (hs 59 (by kernel_rfl)) (c := .bool true) (by kernel_rfl)
      have gy : yl 34 = some true := hy 34 59 (by kernel_rfl) true g0
      have e0 : ac.tmps[0]? = some (.bool false) := (hf 0 (by kernel_rfl)).trans rfl
      clear hf hs hy
      have HJ := hid hJ
      clear hJ
      go_simp
      exact hK.out _ _ (fun d hd => by cases hd; exact Rby.Ex.val (by kernel_rfl)) HJ.out (Below.refl _ _)
    · intro ac V yl K hf hs hy hJ hK
      have g0 := Rby.at_val (hs 59 (by kernel_rfl)) (c := .bool true) (by kernel_rfl)
      have gy : yl 34 = some true := hy 34 59 (by kernel_rfl) true g0
      have e1 : ac.tmps[1]? = some (.bool true) := (hf 1 (by kernel_rfl)).trans rfl
      clear hf hs hy
      have HJ := hid hJ
      clear hJ
      go_simp
      exact hK.out _ _ (fun d hd => by cases hd; exact Rby.Ex.val (by kernel_rfl)) HJ.out (Below.refl _ _)
    · intro ac V yl K hf hs hy hJ hK
      have g0 := Rby.at_val (hs 59 (by kernel_rfl)) (c := .bool true) (by kernel_rfl)
      have gy : yl 34 = some true := hy 34 59 (by kernel_rfl) true g0
      have e64 := Rby.at_val (hs 64 (by kernel_rfl)) (c := .bool false) (by kernel_rfl)
      have e65 := Rby.at_val (hs 65 (by kernel_rfl)) (c := .bool true) (by kernel_rfl)
      clear hf hs hy
      have HJ := hid hJ
      clear hJ
      go_simp
      exact hK.out _ _ (fun d hd => by cases hd; exact Rby.Ex.val (by kernel_rfl)) HJ.out (Below.refl _ _)
    · intro ac V yl K hf hs hy hJ hK
      have g0 := Rby.at_val (hs 59 (by kernel_rfl)) (c := .bool true) (by kernel_rfl)
      have gy : yl 34 = some true := hy 34 59 (by kernel_rfl) true g0
      have e66 := Rby.at_val (hs 66 (by kernel_rfl)) (c := .bool false) (by kernel_rfl)
      clear hf hs hy
      have HJ := hid hJ
      clear hJ
      go_simp
      refine (lyes_at _ _).mono ?_
      rintro e V2 ⟨rfl, hb⟩
      have HB := hid hb
      clear hb
      go_wp2_with fail
      exact hK.out _ _ (fun d hd => by cases hd; exact Rby.Ex.val (by kernel_rfl)) (HJ.out.step HB.out) HB.out
    · intro ac V yl K hf hs hy hJ hK
      have g0 := Rby.at_val (hs 59 (by kernel_rfl)) (c := .bool true) (by kernel_rfl)
      have gy : yl 34 = some true := hy 34 59 (by kernel_rfl) true g0
      have e63 := Rby.at_val (hs 63 (by kernel_rfl)) (c := vV (yesV false)) (by kernel_rfl)
      have e67 := Rby.at_val (hs 67 (by kernel_rfl)) (c := vV (yesV false)) (by kernel_rfl)
      clear hf hs hy
      have HJ := hid hJ
      clear hJ
      go_simp
      exact hK.out _ _ (fun d hd => by cases hd; exact Rby.Ex.val (by kernel_rfl)) HJ.out (Below.refl _ _)
    · intro ac V yl K hf hs hy hJ hK
      have e59 := Rby.at_val (hs 59 (by kernel_rfl)) (c := .bool true) (by kernel_rfl)
      have e68 := Rby.at_val (hs 68 (by kernel_rfl)) (c := .bool true) (by kernel_rfl)
      clear hf hs hy
      have HJ := hid hJ
      clear hJ
      go_simp
      exact hK.out _ _ (fun d hd => by cases hd; exact Rby.Ex.val (by kernel_rfl)) HJ.out (Below.refl _ _)
    · intro ac V yl K hf hs hy hJ hK
      have e69 := Rby.at_val (hs 69 (by kernel_rfl)) (c := .bool true) (by kernel_rfl)
      clear hf hs hy
      have HJ := hid hJ
      clear hJ
      go_simp
      exact hK.out _ _ (fun d hd => by cases hd; exact Rby.Ex.val (by kernel_rfl)) HJ.out (Below.refl _ _)
    · intro ac V yl K hf hs hy hJ hK
      have g0 := Rby.at_val (hs 70 (by kernel_rfl)) (c := .bool true) (by kernel_rfl)
      have gy : yl 45 = some true := hy 45 70 (by kernel_rfl) true g0
      have e7 : ac.tmps[7]? = some (.pointer (some ⟨ba, 0, none⟩)) := (hf 7 (by kernel_rfl)).trans rfl
      obtain ⟨c0, c1⟩ := hJ.cs (ba) (yesV false) (by simp)
      clear hf hs hy
      have HJ := hid hJ
      clear hJ
      go_simp
      exact hK.out _ _ (fun d hd => by cases hd; exact Rby.Ex.val (by kernel_rfl)) HJ.out (Below.refl _ _)
    · intro ac V yl K hf hs hy hJ hK
      have g0 := Rby.at_val (hs 70 (by kernel_rfl)) (c := .bool true) (by kernel_rfl)
      have gy : yl 45 = some true := hy 45 70 (by kernel_rfl) true g0
      have e9 : ac.tmps[9]? = some (.pointer (some ⟨bx, 0, none⟩)) := (hf 9 (by kernel_rfl)).trans rfl
      obtain ⟨c0, c1⟩ := hJ.cs (bx) (numV n0) (by simp)
      clear hf hs hy
      have HJ := hid hJ
      clear hJ
      go_simp
      exact hK.out _ _ (fun d hd => by cases hd; exact Rby.Ex.val (by kernel_rfl)) HJ.out (Below.refl _ _)
    · intro ac V yl K hf hs hy hJ hK
      have g0 := Rby.at_val (hs 70 (by kernel_rfl)) (c := .bool true) (by kernel_rfl)
      have gy : yl 45 = some true := hy 45 70 (by kernel_rfl) true g0
      have e10 : ac.tmps[10]? = some (.pointer (some ⟨by_, 0, none⟩)) := (hf 10 (by kernel_rfl)).trans rfl
      obtain ⟨c0, c1⟩ := hJ.cs (by_) (numV n1) (by simp)
      clear hf hs hy
      have HJ := hid hJ
      clear hJ
      go_simp
      exact hK.out _ _ (fun d hd => by cases hd; exact Rby.Ex.val (by kernel_rfl)) HJ.out (Below.refl _ _)
    · intro ac V yl K hf hs hy hJ hK
      have g0 := Rby.at_val (hs 70 (by kernel_rfl)) (c := .bool true) (by kernel_rfl)
      have gy : yl 45 = some true := hy 45 70 (by kernel_rfl) true g0
      have e71 := Rby.at_val (hs 71 (by kernel_rfl)) (c := vV (yesV false)) (by kernel_rfl)
      have e72 := Rby.at_val (hs 72 (by kernel_rfl)) (c := vV (numV n0)) (by kernel_rfl)
      have e73 := Rby.at_val (hs 73 (by kernel_rfl)) (c := vV (numV n1)) (by kernel_rfl)
      clear hf hs hy
      have HJ := hid hJ
      clear hJ
      go_simp
      exact hK.out _ _ (fun d hd => by cases hd; exact Rby.Ex.sl (l := [yesV false, numV n0, numV n1]) (by kernel_rfl) (vsl3 (yesV false) (numV n0) (numV n1) V)) (HJ.out.alloc _) ((Below.refl _ _).alloc (Nat.le_refl _) _)
    · intro ac V yl K hf hs hy hJ hK
      have g0 := Rby.at_val (hs 70 (by kernel_rfl)) (c := .bool true) (by kernel_rfl)
      have gy : yl 45 = some true := hy 45 70 (by kernel_rfl) true g0
      obtain ⟨sb, e74, hsl⟩ := Rby.at_sl (hs 74 (by kernel_rfl)) (l := [yesV false, numV n0, numV n1]) (by kernel_rfl)
      clear hf hs hy
      have HJ := hid hJ
      clear hJ
      have HSL := hid hsl
      clear hsl
      go_simp
      refine (ldo_at 17 [yesV false, numV n0, numV n1] _ _ HSL.out).mono ?_
      rintro e V2 ⟨rfl, hb⟩
      rw [E4.out]
      have HB := hid hb
      clear hb
      go_wp2_with fail
      exact hK.out _ _ (fun d hd => by cases hd; exact Rby.Ex.val (by kernel_rfl)) (HJ.out.step HB.out) HB.out
    · intro ac V yl K hf hs hy hJ hK
      have g0 := Rby.at_val (hs 70 (by kernel_rfl)) (c := .bool true) (by kernel_rfl)
      have gy : yl 45 = some true := hy 45 70 (by kernel_rfl) true g0
      have e11 : ac.tmps[11]? = some (.pointer (some ⟨bw, 0, none⟩)) := (hf 11 (by kernel_rfl)).trans rfl
      obtain ⟨c0, c1⟩ := hJ.cs (bw) (numV n1) (by simp)
      clear hf hs hy
      have HJ := hid hJ
      clear hJ
      go_simp
      exact hK.out _ _ (fun d hd => by cases hd; exact Rby.Ex.val (by kernel_rfl)) HJ.out (Below.refl _ _)
    · intro ac V yl K hf hs hy hJ hK
      have g0 := Rby.at_val (hs 70 (by kernel_rfl)) (c := .bool true) (by kernel_rfl)
      have gy : yl 45 = some true := hy 45 70 (by kernel_rfl) true g0
      have e75 := Rby.at_val (hs 75 (by kernel_rfl)) (c := vV (numV n1)) (by kernel_rfl)
      have e76 := Rby.at_val (hs 76 (by kernel_rfl)) (c := vV (numV n1)) (by kernel_rfl)
      clear hf hs hy
      have HJ := hid hJ
      clear hJ
      go_simp
      exact hK.out _ _ (fun d hd => by cases hd; exact Rby.Ex.val (by kernel_rfl)) HJ.out (Below.refl _ _)
    · intro ac V yl K hf hs hy hJ hK
      have e70 := Rby.at_val (hs 70 (by kernel_rfl)) (c := .bool true) (by kernel_rfl)
      have e77 := Rby.at_val (hs 77 (by kernel_rfl)) (c := .bool true) (by kernel_rfl)
      clear hf hs hy
      have HJ := hid hJ
      clear hJ
      go_simp
      exact hK.out _ _ (fun d hd => by cases hd; exact Rby.Ex.val (by kernel_rfl)) HJ.out (Below.refl _ _)
    · intro ac V yl K hf hs hy hJ hK
      have e78 := Rby.at_val (hs 78 (by kernel_rfl)) (c := .bool true) (by kernel_rfl)
      clear hf hs hy
      have HJ := hid hJ
      clear hJ
      go_simp
      exact hK.out _ _ (fun d hd => by cases hd; exact Rby.Ex.val (by kernel_rfl)) HJ.out (Below.refl _ _)
    · intro ac V yl K hf hs hy hJ hK
      have g0 := Rby.at_val (hs 79 (by kernel_rfl)) (c := .bool true) (by kernel_rfl)
      have gy : yl 54 = some true := hy 54 79 (by kernel_rfl) true g0
      have e7 : ac.tmps[7]? = some (.pointer (some ⟨ba, 0, none⟩)) := (hf 7 (by kernel_rfl)).trans rfl
      obtain ⟨c0, c1⟩ := hJ.cs (ba) (yesV false) (by simp)
      clear hf hs hy
      have HJ := hid hJ
      clear hJ
      go_simp
      exact hK.out _ _ (fun d hd => by cases hd; exact Rby.Ex.val (by kernel_rfl)) HJ.out (Below.refl _ _)
    · intro ac V yl K hf hs hy hJ hK
      have g0 := Rby.at_val (hs 79 (by kernel_rfl)) (c := .bool true) (by kernel_rfl)
      have gy : yl 54 = some true := hy 54 79 (by kernel_rfl) true g0
      have e8 : ac.tmps[8]? = some (.pointer (some ⟨bb, 0, none⟩)) := (hf 8 (by kernel_rfl)).trans rfl
      obtain ⟨c0, c1⟩ := hJ.cs (bb) (yesV true) (by simp)
      clear hf hs hy
      have HJ := hid hJ
      clear hJ
      go_simp
      exact hK.out _ _ (fun d hd => by cases hd; exact Rby.Ex.val (by kernel_rfl)) HJ.out (Below.refl _ _)
    · intro ac V yl K hf hs hy hJ hK
      have g0 := Rby.at_val (hs 79 (by kernel_rfl)) (c := .bool true) (by kernel_rfl)
      have gy : yl 54 = some true := hy 54 79 (by kernel_rfl) true g0
      have e7 : ac.tmps[7]? = some (.pointer (some ⟨ba, 0, none⟩)) := (hf 7 (by kernel_rfl)).trans rfl
      obtain ⟨c0, c1⟩ := hJ.cs (ba) (yesV false) (by simp)
      clear hf hs hy
      have HJ := hid hJ
      clear hJ
      go_simp
      exact hK.out _ _ (fun d hd => by cases hd; exact Rby.Ex.val (by kernel_rfl)) HJ.out (Below.refl _ _)
    · intro ac V yl K hf hs hy hJ hK
      have g0 := Rby.at_val (hs 79 (by kernel_rfl)) (c := .bool true) (by kernel_rfl)
      have gy : yl 54 = some true := hy 54 79 (by kernel_rfl) true g0
      have e80 := Rby.at_val (hs 80 (by kernel_rfl)) (c := vV (yesV false)) (by kernel_rfl)
      have e81 := Rby.at_val (hs 81 (by kernel_rfl)) (c := vV (yesV true)) (by kernel_rfl)
      have e82 := Rby.at_val (hs 82 (by kernel_rfl)) (c := vV (yesV false)) (by kernel_rfl)
      clear hf hs hy
      have HJ := hid hJ
      clear hJ
      go_simp
      exact hK.out _ _ (fun d hd => by cases hd; exact Rby.Ex.sl (l := [yesV false, yesV true, yesV false]) (by kernel_rfl) (vsl3 (yesV false) (yesV true) (yesV false) V)) (HJ.out.alloc _) ((Below.refl _ _).alloc (Nat.le_refl _) _)
    · intro ac V yl K hf hs hy hJ hK
      have g0 := Rby.at_val (hs 79 (by kernel_rfl)) (c := .bool true) (by kernel_rfl)
      have gy : yl 54 = some true := hy 54 79 (by kernel_rfl) true g0
      obtain ⟨sb, e83, hsl⟩ := Rby.at_sl (hs 83 (by kernel_rfl)) (l := [yesV false, yesV true, yesV false]) (by kernel_rfl)
      clear hf hs hy
      have HJ := hid hJ
      clear hJ
      have HSL := hid hsl
      clear hsl
      go_simp
      refine (ldo_at 17 [yesV false, yesV true, yesV false] _ _ HSL.out).mono ?_
      rintro e V2 ⟨rfl, hb⟩
      rw [E5.out]
      have HB := hid hb
      clear hb
      go_wp2_with fail
      exact hK.out _ _ (fun d hd => by cases hd; exact Rby.Ex.val (by kernel_rfl)) (HJ.out.step HB.out) HB.out
    · intro ac V yl K hf hs hy hJ hK
      have g0 := Rby.at_val (hs 79 (by kernel_rfl)) (c := .bool true) (by kernel_rfl)
      have gy : yl 54 = some true := hy 54 79 (by kernel_rfl) true g0
      have e7 : ac.tmps[7]? = some (.pointer (some ⟨ba, 0, none⟩)) := (hf 7 (by kernel_rfl)).trans rfl
      obtain ⟨c0, c1⟩ := hJ.cs (ba) (yesV false) (by simp)
      clear hf hs hy
      have HJ := hid hJ
      clear hJ
      go_simp
      exact hK.out _ _ (fun d hd => by cases hd; exact Rby.Ex.val (by kernel_rfl)) HJ.out (Below.refl _ _)
    · intro ac V yl K hf hs hy hJ hK
      have g0 := Rby.at_val (hs 79 (by kernel_rfl)) (c := .bool true) (by kernel_rfl)
      have gy : yl 54 = some true := hy 54 79 (by kernel_rfl) true g0
      have e8 : ac.tmps[8]? = some (.pointer (some ⟨bb, 0, none⟩)) := (hf 8 (by kernel_rfl)).trans rfl
      obtain ⟨c0, c1⟩ := hJ.cs (bb) (yesV true) (by simp)
      clear hf hs hy
      have HJ := hid hJ
      clear hJ
      go_simp
      exact hK.out _ _ (fun d hd => by cases hd; exact Rby.Ex.val (by kernel_rfl)) HJ.out (Below.refl _ _)
    · intro ac V yl K hf hs hy hJ hK
      have g0 := Rby.at_val (hs 79 (by kernel_rfl)) (c := .bool true) (by kernel_rfl)
      have gy : yl 54 = some true := hy 54 79 (by kernel_rfl) true g0
      have e85 := Rby.at_val (hs 85 (by kernel_rfl)) (c := vV (yesV false)) (by kernel_rfl)
      have e86 := Rby.at_val (hs 86 (by kernel_rfl)) (c := vV (yesV true)) (by kernel_rfl)
      clear hf hs hy
      have HJ := hid hJ
      clear hJ
      go_simp
      exact hK.out _ _ (fun d hd => by cases hd; exact Rby.Ex.sl (l := [yesV false, yesV true]) (by kernel_rfl) (vsl2 (yesV false) (yesV true) V)) (HJ.out.alloc _) ((Below.refl _ _).alloc (Nat.le_refl _) _)
    · intro ac V yl K hf hs hy hJ hK
      have g0 := Rby.at_val (hs 79 (by kernel_rfl)) (c := .bool true) (by kernel_rfl)
      have gy : yl 54 = some true := hy 54 79 (by kernel_rfl) true g0
      obtain ⟨sb, e87, hsl⟩ := Rby.at_sl (hs 87 (by kernel_rfl)) (l := [yesV false, yesV true]) (by kernel_rfl)
      clear hf hs hy
      have HJ := hid hJ
      clear hJ
      have HSL := hid hsl
      clear hsl
      go_simp
      refine (ldo_at 15 [yesV false, yesV true] _ _ HSL.out).mono ?_
      rintro e V2 ⟨rfl, hb⟩
      rw [E0.out]
      have HB := hid hb
      clear hb
      go_wp2_with fail
      exact hK.out _ _ (fun d hd => by cases hd; exact Rby.Ex.val (by kernel_rfl)) (HJ.out.step HB.out) HB.out
    · intro ac V yl K hf hs hy hJ hK
      have g0 := Rby.at_val (hs 79 (by kernel_rfl)) (c := .bool true) (by kernel_rfl)
      have gy : yl 54 = some true := hy 54 79 (by kernel_rfl) true g0
      have e84 := Rby.at_val (hs 84 (by kernel_rfl)) (c := vV (yesV false)) (by kernel_rfl)
      have e88 := Rby.at_val (hs 88 (by kernel_rfl)) (c := vV (yesV false)) (by kernel_rfl)
      clear hf hs hy
      have HJ := hid hJ
      clear hJ
      go_simp
      exact hK.out _ _ (fun d hd => by cases hd; exact Rby.Ex.val (by kernel_rfl)) HJ.out (Below.refl _ _)
    · intro ac V yl K hf hs hy hJ hK
      have e79 := Rby.at_val (hs 79 (by kernel_rfl)) (c := .bool true) (by kernel_rfl)
      have e89 := Rby.at_val (hs 89 (by kernel_rfl)) (c := .bool true) (by kernel_rfl)
      clear hf hs hy
      have HJ := hid hJ
      clear hJ
      go_simp
      exact hK.out _ _ (fun d hd => by cases hd; exact Rby.Ex.val (by kernel_rfl)) HJ.out (Below.refl _ _)
    · intro ac V yl K hf hs hy hJ hK
      have e90 := Rby.at_val (hs 90 (by kernel_rfl)) (c := .bool true) (by kernel_rfl)
      clear hf hs hy
      have HJ := hid hJ
      clear hJ
      go_simp
      exact hK.out _ _ (fun d hd => by cases hd; exact Rby.Ex.val (by kernel_rfl)) HJ.out (Below.refl _ _)
    · intro ac V yl K hf hs hy hJ hK
      have g0 := Rby.at_val (hs 91 (by kernel_rfl)) (c := .bool true) (by kernel_rfl)
      have gy : yl 66 = some true := hy 66 91 (by kernel_rfl) true g0
      have e7 : ac.tmps[7]? = some (.pointer (some ⟨ba, 0, none⟩)) := (hf 7 (by kernel_rfl)).trans rfl
      obtain ⟨c0, c1⟩ := hJ.cs (ba) (yesV false) (by simp)
      clear hf hs hy
      have HJ := hid hJ
      clear hJ
      go_simp
      exact hK.out _ _ (fun d hd => by cases hd; exact Rby.Ex.val (by kernel_rfl)) HJ.out (Below.refl _ _)
    · intro ac V yl K hf hs hy hJ hK
      have g0 := Rby.at_val (hs 91 (by kernel_rfl)) (c := .bool true) (by kernel_rfl)
      have gy : yl 66 = some true := hy 66 91 (by kernel_rfl) true g0
      have e8 : ac.tmps[8]? = some (.pointer (some ⟨bb, 0, none⟩)) := (hf 8 (by kernel_rfl)).trans rfl
      obtain ⟨c0, c1⟩ := hJ.cs (bb) (yesV true) (by simp)
      clear hf hs hy
      have HJ := hid hJ
      clear hJ
      go_simp
      exact hK.out _ _ (fun d hd => by cases hd; exact Rby.Ex.val (by kernel_rfl)) HJ.out (Below.refl _ _)
    · intro ac V yl K hf hs hy hJ hK
      have g0 := Rby.at_val (hs 91 (by kernel_rfl)) (c := .bool true) (by kernel_rfl)
      have gy : yl 66 = some true := hy 66 91 (by kernel_rfl) true g0
      have e92 := Rby.at_val (hs 92 (by kernel_rfl)) (c := vV (yesV false)) (by kernel_rfl)
      have e93 := Rby.at_val (hs 93 (by kernel_rfl)) (c := vV (yesV true)) (by kernel_rfl)
      clear hf hs hy
      have HJ := hid hJ
      clear hJ
      go_simp
      exact hK.out _ _ (fun d hd => by cases hd; exact Rby.Ex.sl (l := [yesV false, yesV true]) (by kernel_rfl) (vsl2 (yesV false) (yesV true) V)) (HJ.out.alloc _) ((Below.refl _ _).alloc (Nat.le_refl _) _)
    · intro ac V yl K hf hs hy hJ hK
      have g0 := Rby.at_val (hs 91 (by kernel_rfl)) (c := .bool true) (by kernel_rfl)
      have gy : yl 66 = some true := hy 66 91 (by kernel_rfl) true g0
      obtain ⟨sb, e94, hsl⟩ := Rby.at_sl (hs 94 (by kernel_rfl)) (l := [yesV false, yesV true]) (by kernel_rfl)
      clear hf hs hy
      have HJ := hid hJ
      clear hJ
      have HSL := hid hsl
      clear hsl
      go_simp
      refine (ldo_at 15 [yesV false, yesV true] _ _ HSL.out).mono ?_
      rintro e V2 ⟨rfl, hb⟩
      rw [E0.out]
      have HB := hid hb
      clear hb
      go_wp2_with fail
      exact hK.out _ _ (fun d hd => by cases hd; exact Rby.Ex.val (by kernel_rfl)) (HJ.out.step HB.out) HB.out
    · intro ac V yl K hf hs hy hJ hK
      have g0 := Rby.at_val (hs 91 (by kernel_rfl)) (c := .bool true) (by kernel_rfl)
      have gy : yl 66 = some true := hy 66 91 (by kernel_rfl) true g0
      have e95 := Rby.at_val (hs 95 (by kernel_rfl)) (c := vV (yesV false)) (by kernel_rfl)
      clear hf hs hy
      have HJ := hid hJ
      clear hJ
      go_simp
      exact hK.out _ _ (fun d hd => by cases hd; exact Rby.Ex.sl (l := [yesV false]) (by kernel_rfl) (vsl1 (yesV false) V)) (HJ.out.alloc _) ((Below.refl _ _).alloc (Nat.le_refl _) _)
    · intro ac V yl K hf hs hy hJ hK
      have g0 := Rby.at_val (hs 91 (by kernel_rfl)) (c := .bool true) (by kernel_rfl)
      have gy : yl 66 = some true := hy 66 91 (by kernel_rfl) true g0
      obtain ⟨sb, e96, hsl⟩ := Rby.at_sl (hs 96 (by kernel_rfl)) (l := [yesV false]) (by kernel_rfl)
      clear hf hs hy
      have HJ := hid hJ
      clear hJ
      have HSL := hid hsl
      clear hsl
      go_simp
      refine (ldo_at 5 [yesV false] _ _ HSL.out).mono ?_
      rintro e V2 ⟨rfl, hb⟩
      rw [E2.out]
      have HB := hid hb
      clear hb
      go_wp2_with fail
      exact hK.out _ _ (fun d hd => by cases hd; exact Rby.Ex.val (by kernel_rfl)) (HJ.out.step HB.out) HB.out
    · intro ac V yl K hf hs hy hJ hK
      have g0 := Rby.at_val (hs 91 (by kernel_rfl)) (c := .bool true) (by kernel_rfl)
      have gy : yl 66 = some true := hy 66 91 (by kernel_rfl) true g0
      have e7 : ac.tmps[7]? = some (.pointer (some ⟨ba, 0, none⟩)) := (hf 7 (by kernel_rfl)).trans rfl
      obtain ⟨c0, c1⟩ := hJ.cs (ba) (yesV false) (by simp)
      clear hf hs hy
      have HJ := hid hJ
      clear hJ
      go_simp
      exact hK.out _ _ (fun d hd => by cases hd; exact Rby.Ex.val (by kernel_rfl)) HJ.out (Below.refl _ _)
    · intro ac V yl K hf hs hy hJ hK
      have g0 := Rby.at_val (hs 91 (by kernel_rfl)) (c := .bool true) (by kernel_rfl)
      have gy : yl 66 = some true := hy 66 91 (by kernel_rfl) true g0
      have e98 := Rby.at_val (hs 98 (by kernel_rfl)) (c := vV (yesV false)) (by kernel_rfl)
      clear hf hs hy
      have HJ := hid hJ
      clear hJ
      go_simp
      exact hK.out _ _ (fun d hd => by cases hd; exact Rby.Ex.sl (l := [yesV false]) (by kernel_rfl) (vsl1 (yesV false) V)) (HJ.out.alloc _) ((Below.refl _ _).alloc (Nat.le_refl _) _)
    · intro ac V yl K hf hs hy hJ hK
      have g0 := Rby.at_val (hs 91 (by kernel_rfl)) (c := .bool true) (by kernel_rfl)
      have gy : yl 66 = some true := hy 66 91 (by kernel_rfl) true g0
      obtain ⟨sb, e99, hsl⟩ := Rby.at_sl (hs 99 (by kernel_rfl)) (l := [yesV false]) (by kernel_rfl)
      clear hf hs hy
      have HJ := hid hJ
      clear hJ
      have HSL := hid hsl
      clear hsl
      go_simp
      refine (ldo_at 5 [yesV false] _ _ HSL.out).mono ?_
      rintro e V2 ⟨rfl, hb⟩
      rw [E2.out]
      have HB := hid hb
      clear hb
      go_wp2_with fail
      exact hK.out _ _ (fun d hd => by cases hd; exact Rby.Ex.val (by kernel_rfl)) (HJ.out.step HB.out) HB.out
    · intro ac V yl K hf hs hy hJ hK
      have g0 := Rby.at_val (hs 91 (by kernel_rfl)) (c := .bool true) (by kernel_rfl)
      have gy : yl 66 = some true := hy 66 91 (by kernel_rfl) true g0
      have e8 : ac.tmps[8]? = some (.pointer (some ⟨bb, 0, none⟩)) := (hf 8 (by kernel_rfl)).trans rfl
      obtain ⟨c0, c1⟩ := hJ.cs (bb) (yesV true) (by simp)
      clear hf hs hy
      have HJ := hid hJ
      clear hJ
      go_simp
      exact hK.out _ _ (fun d hd => by cases hd; exact Rby.Ex.val (by kernel_rfl)) HJ.out (Below.refl _ _)
    · intro ac V yl K hf hs hy hJ hK
      have g0 := Rby.at_val (hs 91 (by kernel_rfl)) (c := .bool true) (by kernel_rfl)
      have gy : yl 66 = some true := hy 66 91 (by kernel_rfl) true g0
      have e101 := Rby.at_val (hs 101 (by kernel_rfl)) (c := vV (yesV true)) (by kernel_rfl)
      clear hf hs hy
      have HJ := hid hJ
      clear hJ
      go_simp
      exact hK.out _ _ (fun d hd => by cases hd; exact Rby.Ex.sl (l := [yesV true]) (by kernel_rfl) (vsl1 (yesV true) V)) (HJ.out.alloc _) ((Below.refl _ _).alloc (Nat.le_refl _) _)
    · intro ac V yl K hf hs hy hJ hK
      have g0 := Rby.at_val (hs 91 (by kernel_rfl)) (c := .bool true) (by kernel_rfl)
      have gy : yl 66 = some true := hy 66 91 (by kernel_rfl) true g0
      obtain ⟨sb, e102, hsl⟩ := Rby.at_sl (hs 102 (by kernel_rfl)) (l := [yesV true]) (by kernel_rfl)
      clear hf hs hy
      have HJ := hid hJ
      clear hJ
      have HSL := hid hsl
      clear hsl
      go_simp
      refine (ldo_at 5 [yesV true] _ _ HSL.out).mono ?_
      rintro e V2 ⟨rfl, hb⟩
      rw [E6.out]
      have HB := hid hb
      clear hb
      go_wp2_with fail
      exact hK.out _ _ (fun d hd => by cases hd; exact Rby.Ex.val (by kernel_rfl)) (HJ.out.step HB.out) HB.out
    · intro ac V yl K hf hs hy hJ hK
      have g0 := Rby.at_val (hs 91 (by kernel_rfl)) (c := .bool true) (by kernel_rfl)
      have gy : yl 66 = some true := hy 66 91 (by kernel_rfl) true g0
      have e100 := Rby.at_val (hs 100 (by kernel_rfl)) (c := vV (yesV true)) (by kernel_rfl)
      have e103 := Rby.at_val (hs 103 (by kernel_rfl)) (c := vV (yesV false)) (by kernel_rfl)
      clear hf hs hy
      have HJ := hid hJ
      clear hJ
      go_simp
      exact hK.out _ _ (fun d hd => by cases hd; exact Rby.Ex.sl (l := [yesV true, yesV false]) (by kernel_rfl) (vsl2 (yesV true) (yesV false) V)) (HJ.out.alloc _) ((Below.refl _ _).alloc (Nat.le_refl _) _)
    · intro ac V yl K hf hs hy hJ hK
      have g0 := Rby.at_val (hs 91 (by kernel_rfl)) (c := .bool true) (by kernel_rfl)
      have gy : yl 66 = some true := hy 66 91 (by kernel_rfl) true g0
      obtain ⟨sb, e104, hsl⟩ := Rby.at_sl (hs 104 (by kernel_rfl)) (l := [yesV true, yesV false]) (by kernel_rfl)
      clear hf hs hy
      have HJ := hid hJ
      clear hJ
      have HSL := hid hsl
      clear hsl
      go_simp
      refine (ldo_at 16 [yesV true, yesV false] _ _ HSL.out).mono ?_
      rintro e V2 ⟨rfl, hb⟩
      rw [E7.out]
      have HB := hid hb
      clear hb
      go_wp2_with fail
      exact hK.out _ _ (fun d hd => by cases hd; exact Rby.Ex.val (by kernel_rfl)) (HJ.out.step HB.out) HB.out
    · intro ac V yl K hf hs hy hJ hK
      have g0 := Rby.at_val (hs 91 (by kernel_rfl)) (c := .bool true) (by kernel_rfl)
      have gy : yl 66 = some true := hy 66 91 (by kernel_rfl) true g0
      have e97 := Rby.at_val (hs 97 (by kernel_rfl)) (c := vV (yesV true)) (by kernel_rfl)
      have e105 := Rby.at_val (hs 105 (by kernel_rfl)) (c := vV (yesV true)) (by kernel_rfl)
      clear hf hs hy
      have HJ := hid hJ
      clear hJ
      go_simp
      exact hK.out _ _ (fun d hd => by cases hd; exact Rby.Ex.val (by kernel_rfl)) HJ.out (Below.refl _ _)
    · intro ac V yl K hf hs hy hJ hK
      have e91 := Rby.at_val (hs 91 (by kernel_rfl)) (c := .bool true) (by kernel_rfl)
      have e106 := Rby.at_val (hs 106 (by kernel_rfl)) (c := .bool true) (by kernel_rfl)
      clear hf hs hy
      have HJ := hid hJ
      clear hJ
      go_simp
      exact hK.out _ _ (fun d hd => by cases hd; exact Rby.Ex.val (by kernel_rfl)) HJ.out (Below.refl _ _)
    · intro ac V yl K hf hs hy hJ hK
      have e107 := Rby.at_val (hs 107 (by kernel_rfl)) (c := .bool true) (by kernel_rfl)
      clear hf hs hy
      have HJ := hid hJ
      clear hJ
      go_simp
      exact hK.out _ _ (fun d hd => by cases hd; exact Rby.Ex.val (by kernel_rfl)) HJ.out (Below.refl _ _)
  case fin =>
    intro ac V hd hsz hf hh hJ
    have e6 := Rby.at_val (hh 6 (by kernel_rfl)) (c := .bool true) (by kernel_rfl)
    have HJ := hid hJ
    clear hf hh hJ hsz
    obtain ⟨tm, df⟩ := ac
    obtain rfl : df = [] := hd
    simp only at e6
    go_wp2_with (fail)
    go_ret
    exact ⟨by simp [e6], HJ.out.below⟩
/-- What each slot holds behind its operation. -/
def yesffT (n0 n1 : Int) : List (Nat × (Value ⊕ List Vl)) := [(25, .inl (.bool true)), (26, .inl (.bool true)), (27, .inl (vV (yesV false))), (28, .inl (vV (yesV false))), (29, .inr [yesV false, yesV false]), (30, .inl (vV (yesV false))), (31, .inl (.bool false)), (32, .inl (.bool false)), (33, .inl (undef)), (34, .inl (.bool false)), (35, .inl (vV (yesV false))), (36, .inl (.bool true)), (37, .inl (.bool true)), (38, .inl (.bool true)), (39, .inl (vV (yesV false))), (40, .inl (vV (yesV false))), (41, .inr [yesV false, yesV false]), (42, .inl (vV (yesV false))), (43, .inl (.bool false)), (44, .inl (.bool false)), (45, .inl (.bool false)), (46, .inl (.bool false)), (47, .inl (vV (yesV false))), (48, .inl (.bool true)), (49, .inl (.bool true)), (50, .inl (.bool true)), (51, .inl (vV (yesV false))), (52, .inr [yesV false]), (53, .inl (vV (yesV true))), (54, .inl (.bool false)), (55, .inl (.bool true)), (56, .inl (vV (yesV true))), (57, .inl (.bool true)), (58, .inl (.bool true)), (59, .inl (.bool true)), (60, .inl (vV (yesV false))), (61, .inl (vV (yesV false))), (62, .inr [yesV false, yesV false]), (63, .inl (vV (yesV true))), (64, .inl (.bool false)), (65, .inl (.bool false)), (66, .inl (.bool true)), (67, .inl (vV (yesV true))), (68, .inl (.bool true)), (69, .inl (.bool true)), (70, .inl (.bool true)), (71, .inl (vV (yesV false))), (72, .inl (vV (numV n0))), (73, .inl (vV (numV n1))), (74, .inr [yesV false, numV n0, numV n1]), (75, .inl (vV (numV n1))), (76, .inl (vV (numV n1))), (77, .inl (.bool true)), (78, .inl (.bool true)), (79, .inl (.bool true)), (80, .inl (vV (yesV false))), (81, .inl (vV (yesV false))), (82, .inl (vV (yesV false))), (83, .inr [yesV false, yesV false, yesV false]), (84, .inl (vV (yesV false))), (85, .inl (vV (yesV false))), (86, .inl (vV (yesV false))), (87, .inr [yesV false, yesV false]), (88, .inl (vV (yesV false))), (89, .inl (.bool true)), (90, .inl (.bool true)), (91, .inl (.bool true)), (92, .inl (vV (yesV false))), (93, .inl (vV (yesV false))), (94, .inr [yesV false, yesV false]), (95, .inl (vV (yesV false))), (96, .inr [yesV false]), (97, .inl (vV (yesV true))), (98, .inl (vV (yesV false))), (99, .inr [yesV false]), (100, .inl (vV (yesV true))), (101, .inl (vV (yesV false))), (102, .inr [yesV false]), (103, .inl (vV (yesV true))), (104, .inr [yesV true, yesV true]), (105, .inl (vV (yesV true))), (106, .inl (.bool true)), (107, .inl (.bool true)), (6, .inl (.bool true))]
set_option maxRecDepth 100000 in
theorem walk6ff (n0 n1 : Int) (w : World) (hT : TabP w) : Calls Tryd.prog 6 #[.bool false, .bool false, .agg #[.int .i64 n0, .int .i64 n1]] w fun e w' => e = .returned (.bool true) ∧ Below w.heap.size w w' := by
  have R0 := hid (LV.start hT)
  have E0 : Hid (doE 15 [yesV false, yesV false] = yesV false) := hid rfl
  have E1 : Hid (doE 16 [yesV false, yesV false] = yesV false) := hid rfl
  have E2 : Hid (doE 5 [yesV false] = yesV true) := hid rfl
  have E3 : Hid (doE 11 [yesV false, yesV false] = yesV true) := hid rfl
  have E4 : Hid (doE 17 [yesV false, numV n0, numV n1] = numV n1) := hid rfl
  have E5 : Hid (doE 17 [yesV false, yesV false, yesV false] = yesV false) := hid rfl
  have E6 : Hid (doE 16 [yesV true, yesV true] = yesV true) := hid rfl
  replace R0 := hid (R0.out.alloc (.cells #[.int .i64 n0, .int .i64 n1] 33))
  have y0 : (w.alloc (.cells #[.int .i64 n0, .int .i64 n1] 33)).heap[w.heap.size]? = some (.cells #[.int .i64 n0, .int .i64 n1] 33 (0, 0)) := heap_alloc_new w _
  have Y0 := hid y0
  clear hT y0
  go_enter Tryd.func6, Tryd.ntmps6
  go_wp2_with (fail)
  generalize hW0 : w.alloc (.cells #[.int .i64 n0, .int .i64 n1] 33) = W0 at *
  have HW0 := hid hW0
  clear hW0
  refine (lyes_at _ _).mono ?_
  rintro e v1 ⟨rfl, hb⟩
  have R1 := hid (R0.out.step hb)
  replace Y0 := hid (keep_row Y0.out hb)
  clear hb
  have R2 := hid (R1.out.push (yesV false) (b := v1.heap.size) rfl)
  go_wp2_with (fail)
  refine (lyes_at _ _).mono ?_
  rintro e v3 ⟨rfl, hb⟩
  have R3 := hid (R2.out.step hb)
  replace Y0 := hid (keep_row (push_old Y0.out) hb)
  clear hb
  generalize v1.heap.size = ba at *
  have R4 := hid (R3.out.push (yesV false) (b := v3.heap.size) rfl)
  have z0 := (cell_of_row _ _ 0 _ 33 (0, 0) (push_old (o' := .cells (vC (yesV false)) 24) Y0.out)).trans (show _ = some (.int .i64 n0) from rfl)
  go_wp2_with (fail)
  clear z0
  refine (lnumber_at _ _).mono ?_
  rintro e v5 ⟨rfl, hb⟩
  have R5 := hid (R4.out.step hb)
  replace Y0 := hid (keep_row (push_old Y0.out) hb)
  clear hb
  generalize v3.heap.size = bb at *
  have R6 := hid (R5.out.push (numV n0) (b := v5.heap.size) rfl)
  have z0 := (cell_of_row _ _ 1 _ 33 (0, 0) (push_old (o' := .cells (vC (numV n0)) 24) Y0.out)).trans (show _ = some (.int .i64 n1) from rfl)
  go_wp2_with (fail)
  clear z0
  refine (lnumber_at _ _).mono ?_
  rintro e v7 ⟨rfl, hb⟩
  have R7 := hid (R6.out.step hb)
  replace Y0 := hid (keep_row (push_old Y0.out) hb)
  clear hb
  generalize v5.heap.size = bx at *
  have R8 := hid (R7.out.push (numV n1) (b := v7.heap.size) rfl)
  have RW := hid (R8.out.push (numV n1) (b := v7.heap.size + 1) (by simp))
  obtain ⟨c00, c01⟩ := R8.out.cs (v7.heap.size) (numV n1) (by simp)
  obtain ⟨c10, c11⟩ := R8.out.cs (bx) (numV n0) (by simp)
  obtain ⟨c20, c21⟩ := R8.out.cs (bb) (yesV false) (by simp)
  obtain ⟨c30, c31⟩ := R8.out.cs (ba) (yesV false) (by simp)
  go_wp2_with (fail)
  clear c00 c01 c10 c11 c20 c21 c30 c31
  have RV := RW
  generalize (v7.alloc (.cells (vC (numV n1)) 24)).alloc (.cells (vC (numV n1)) 24) = W8 at *
  have RS := hid RV.out.rebase
  clear RV RW R8 Y0 HW0
  generalize v7.heap.size + 1 = bw at *
  generalize v7.heap.size = by_ at *
  refine Rby.region_by (J := fun V => LV w W8.heap.size [(bw, numV n1), (by_, numV n1), (bx, numV n0), (bb, yesV false), (ba, yesV false)] [] V) (E := Rby.Ex (yesffT n0 n1)) (by kernel_rfl) (by kernel_rfl) (by kernel_rfl) (by kernel_rfl) (Rby.Ex.keep _) RS.out.drew ?step ?fin
  case step =>
    refine Rby.AllL.cons ?_ <| Rby.AllL.cons ?_ <| Rby.AllL.cons ?_ <| Rby.AllL.cons ?_ <| Rby.AllL.cons ?_ <| Rby.AllL.cons ?_ <| Rby.AllL.cons ?_ <| Rby.AllL.cons ?_ <| Rby.AllL.cons ?_ <| Rby.AllL.cons ?_ <| Rby.AllL.cons ?_ <| Rby.AllL.cons ?_ <| Rby.AllL.cons ?_ <| Rby.AllL.cons ?_ <| Rby.AllL.cons ?_ <| Rby.AllL.cons ?_ <| Rby.AllL.cons ?_ <| Rby.AllL.cons ?_ <| Rby.AllL.cons ?_ <| Rby.AllL.cons ?_ <| Rby.AllL.cons ?_ <| Rby.AllL.cons ?_ <| Rby.AllL.cons ?_ <| Rby.AllL.cons ?_ <| Rby.AllL.cons ?_ <| Rby.AllL.cons ?_ <| Rby.AllL.cons ?_ <| Rby.AllL.cons ?_ <| Rby.AllL.cons ?_ <| Rby.AllL.cons ?_ <| Rby.AllL.cons ?_ <| Rby.AllL.cons ?_ <| Rby.AllL.cons ?_ <| Rby.AllL.cons ?_ <| Rby.AllL.cons ?_ <| Rby.AllL.cons ?_ <| Rby.AllL.cons ?_ <| Rby.AllL.cons ?_ <| Rby.AllL.cons ?_ <| Rby.AllL.cons ?_ <| Rby.AllL.cons ?_ <| Rby.AllL.cons ?_ <| Rby.AllL.cons ?_ <| Rby.AllL.cons ?_ <| Rby.AllL.cons ?_ <| Rby.AllL.cons ?_ <| Rby.AllL.cons ?_ <| Rby.AllL.cons ?_ <| Rby.AllL.cons ?_ <| Rby.AllL.cons ?_ <| Rby.AllL.cons ?_ <| Rby.AllL.cons ?_ <| Rby.AllL.cons ?_ <| Rby.AllL.cons ?_ <| Rby.AllL.cons ?_ <| Rby.AllL.cons ?_ <| Rby.AllL.cons ?_ <| Rby.AllL.cons ?_ <| Rby.AllL.cons ?_ <| Rby.AllL.cons ?_ <| Rby.AllL.cons ?_ <| Rby.AllL.cons ?_ <| Rby.AllL.cons ?_ <| Rby.AllL.cons ?_ <| Rby.AllL.cons ?_ <| Rby.AllL.cons ?_ <| Rby.AllL.cons ?_ <| Rby.AllL.cons ?_ <| Rby.AllL.cons ?_ <| Rby.AllL.cons ?_ <| Rby.AllL.cons ?_ <| Rby.AllL.cons ?_ <| Rby.AllL.cons ?_ <| Rby.AllL.cons ?_ <| Rby.AllL.cons ?_ <| Rby.AllL.cons ?_ <| Rby.AllL.cons ?_ <| Rby.AllL.cons ?_ <| Rby.AllL.cons ?_ <| Rby.AllL.cons ?_ <| Rby.AllL.cons ?_ <| Rby.AllL.cons ?_ <| Rby.AllL.cons ?_ <| Rby.AllL.cons ?_ <| Rby.AllL.nil
    · intro ac V yl K hf hs hy hJ hK
      clear hf hs hy
      have HJ := hid hJ
      clear hJ
      go_simp
      refine (alive_at _ HJ.out.tab).mono ?_
      rintro e V2 ⟨rfl, hb⟩
      have HB := hid hb
      clear hb
      go_wp2_with fail
      exact hK.out _ _ (fun d hd => by cases hd; exact Rby.Ex.val (by kernel_rfl)) (HJ.out.step HB.out) HB.out
    · intro ac V yl K hf hs hy hJ hK
      have e25 := Rby.at_val (hs 25 (by kernel_rfl)) (c := .bool true) (by kernel_rfl)
      clear hf hs hy
      have HJ := hid hJ
      clear hJ
      go_simp
      exact hK.out _ _ (fun d hd => by cases hd; exact Rby.Ex.val (by kernel_rfl)) HJ.out (Below.refl _ _)
    · intro ac V yl K hf hs hy hJ hK
      have g0 := Rby.at_val (hs 26 (by kernel_rfl)) (c := .bool true) (by kernel_rfl)
      have gy : yl 1 = some true := hy 1 26 (by kernel_rfl) true g0
      have e7 : ac.tmps[7]? = some (.pointer (some ⟨ba, 0, none⟩)) := (hf 7 (by kernel_rfl)).trans rfl
      obtain ⟨c0, c1⟩ := hJ.cs (ba) (yesV false) (by simp)
      clear hf hs hy
      have HJ := hid hJ
      clear hJ
      go_simp
      exact hK.out _ _ (fun d hd => by cases hd; exact Rby.Ex.val (by kernel_rfl)) HJ.out (Below.refl _ _)
    · intro ac V yl K hf hs hy hJ hK
      have g0 := Rby.at_val (hs 26 (by kernel_rfl)) (c := .bool true) (by kernel_rfl)
      have gy : yl 1 = some true := hy 1 26 (by kernel_rfl) true g0
      have e8 : ac.tmps[8]? = some (.pointer (some ⟨bb, 0, none⟩)) := (hf 8 (by kernel_rfl)).trans rfl
      obtain ⟨c0, c1⟩ := hJ.cs (bb) (yesV false) (by simp)
      clear hf hs hy
      have HJ := hid hJ
      clear hJ
      go_simp
      exact hK.out _ _ (fun d hd => by cases hd; exact Rby.Ex.val (by kernel_rfl)) HJ.out (Below.refl _ _)
    · intro ac V yl K hf hs hy hJ hK
      have g0 := Rby.at_val (hs 26 (by kernel_rfl)) (c := .bool true) (by kernel_rfl)
      have gy : yl 1 = some true := hy 1 26 (by kernel_rfl) true g0
      have e27 := Rby.at_val (hs 27 (by kernel_rfl)) (c := vV (yesV false)) (by kernel_rfl)
      have e28 := Rby.at_val (hs 28 (by kernel_rfl)) (c := vV (yesV false)) (by kernel_rfl)
      clear hf hs hy
      have HJ := hid hJ
      clear hJ
      go_simp
      exact hK.out _ _ (fun d hd => by cases hd; exact Rby.Ex.sl (l := [yesV false, yesV false]) (by kernel_rfl) (vsl2 (yesV false) (yesV false) V)) (HJ.out.alloc _) ((Below.refl _ _).alloc (Nat.le_refl _) _)
    · intro ac V yl K hf hs hy hJ hK
      have g0 := Rby.at_val (hs 26 (by kernel_rfl)) (c := .bool true) (by kernel_rfl)
      have gy : yl 1 = some true := hy 1 26 (by kernel_rfl) true g0
      obtain ⟨sb, e29, hsl⟩ := Rby.at_sl (hs 29 (by kernel_rfl)) (l := [yesV false, yesV false]) (by kernel_rfl)
      clear hf hs hy
      have HJ := hid hJ
      clear hJ
      have HSL := hid hsl
      clear hsl
      go_simp
      refine (ldo_at 15 [yesV false, yesV false] _ _ HSL.out).mono ?_
      rintro e V2 ⟨rfl, hb⟩
      rw [E0.out]
      have HB := hid hb
      clear hb
      go_wp2_with fail
      exact hK.out _ _ (fun d hd => by cases hd; exact Rby.Ex.val (by kernel_rfl)) (HJ.out.step HB.out) HB.out
    · intro ac V yl K hf hs hy hJ hK
      have g0 := Rby.at_val (hs 26 (by kernel_rfl)) (c := .bool true) (by kernel_rfl)
      have gy : yl 1 = some true := hy 1 26 (by kernel_rfl) true g0
      have e0 : ac.tmps[0]? = some (.bool false) := (hf 0 (by kernel_rfl)).trans rfl
      clear hf hs hy
      have HJ := hid hJ
      clear hJ
      go_simp
      exact hK.out _ _ (fun d hd => by cases hd; exact Rby.Ex.val (by kernel_rfl)) HJ.out (Below.refl _ _)
    · intro ac V yl K hf hs hy hJ hK
      have g0 := Rby.at_val (hs 26 (by kernel_rfl)) (c := .bool true) (by kernel_rfl)
      have gy : yl 1 = some true := hy 1 26 (by kernel_rfl) true g0
      have e31 := Rby.at_val (hs 31 (by kernel_rfl)) (c := .bool false) (by kernel_rfl)
      clear hf hs hy
      have HJ := hid hJ
      clear hJ
      go_simp
      exact hK.out _ _ (fun d hd => by cases hd; exact Rby.Ex.val (by kernel_rfl)) HJ.out (Below.refl _ _)
    · intro ac V yl K hf hs hy hJ hK
      have g0 := Rby.at_val (hs 32 (by kernel_rfl)) (c := .bool false) (by kernel_rfl)
      have gy : yl 7 = some false := hy 7 32 (by kernel_rfl) false g0
      clear hf hs hy
      go_simp
      exact hK.out _ _ (fun d hd => by cases hd; exact Rby.Ex.val (by kernel_rfl)) hJ (Below.refl _ _)
    · intro ac V yl K hf hs hy hJ hK
      have g0 := Rby.at_val (hs 26 (by kernel_rfl)) (c := .bool true) (by kernel_rfl)
      have gy : yl 1 = some true := hy 1 26 (by kernel_rfl) true g0
      have e32 := Rby.at_val (hs 32 (by kernel_rfl)) (c := .bool false) (by kernel_rfl)
      have e33 := Rby.at_val (hs 33 (by kernel_rfl)) (c := undef) (by kernel_rfl)
      clear hf hs hy
      have HJ := hid hJ
      clear hJ
      go_simp
      exact hK.out _ _ (fun d hd => by cases hd; exact Rby.Ex.val (by kernel_rfl)) HJ.out (Below.refl _ _)
    · intro ac V yl K hf hs hy hJ hK
      have g0 := Rby.at_val (hs 26 (by kernel_rfl)) (c := .bool true) (by kernel_rfl)
      have gy : yl 1 = some true := hy 1 26 (by kernel_rfl) true g0
      have e34 := Rby.at_val (hs 34 (by kernel_rfl)) (c := .bool false) (by kernel_rfl)
      clear hf hs hy
      have HJ := hid hJ
      clear hJ
      go_simp
      refine (lyes_at _ _).mono ?_
      rintro e V2 ⟨rfl, hb⟩
      have HB := hid hb
      clear hb
      go_wp2_with fail
      exact hK.out _ _ (fun d hd => by cases hd; exact Rby.Ex.val (by kernel_rfl)) (HJ.out.step HB.out) HB.out
    · intro ac V yl K hf hs hy hJ hK
      have g0 := Rby.at_val (hs 26 (by kernel_rfl)) (c := .bool true) (by kernel_rfl)
      have gy : yl 1 = some true := hy 1 26 (by kernel_rfl) true g0
      have e30 := Rby.at_val (hs 30 (by kernel_rfl)) (c := vV (yesV false)) (by kernel_rfl)
      have e35 := Rby.at_val (hs 35 (by kernel_rfl)) (c := vV (yesV false)) (by kernel_rfl)
      clear hf hs hy
      have HJ := hid hJ
      clear hJ
      go_simp
      exact hK.out _ _ (fun d hd => by cases hd; exact Rby.Ex.val (by kernel_rfl)) HJ.out (Below.refl _ _)
    · intro ac V yl K hf hs hy hJ hK
      have e26 := Rby.at_val (hs 26 (by kernel_rfl)) (c := .bool true) (by kernel_rfl)
      have e36 := Rby.at_val (hs 36 (by kernel_rfl)) (c := .bool true) (by kernel_rfl)
      clear hf hs hy
      have HJ := hid hJ
      clear hJ
      go_simp
      exact hK.out _ _ (fun d hd => by cases hd; exact Rby.Ex.val (by kernel_rfl)) HJ.out (Below.refl _ _)
    · intro ac V yl K hf hs hy hJ hK
      have e37 := Rby.at_val (hs 37 (by kernel_rfl)) (c := .bool true) (by kernel_rfl)
      clear hf hs hy
      have HJ := hid hJ
      clear hJ
      go_simp
      exact hK.out _ _ (fun d hd => by cases hd; exact Rby.Ex.val (by kernel_rfl)) HJ.out (Below.refl _ _)
    · intro ac V yl K hf hs hy hJ hK
      have g0 := Rby.at_val (hs 38 (by kernel_rfl)) (c := .bool true) (by kernel_rfl)
      have gy : yl 13 = some true := hy 13 38 (by kernel_rfl) true g0
      have e7 : ac.tmps[7]? = some (.pointer (some ⟨ba, 0, none⟩)) := (hf 7 (by kernel_rfl)).trans rfl
      obtain ⟨c0, c1⟩ := hJ.cs (ba) (yesV false) (by simp)
      clear hf hs hy
      have HJ := hid hJ
      clear hJ
      go_simp
      exact hK.out _ _ (fun d hd => by cases hd; exact Rby.Ex.val (by kernel_rfl)) HJ.out (Below.refl _ _)
    · intro ac V yl K hf hs hy hJ hK
      have g0 := Rby.at_val (hs 38 (by kernel_rfl)) (c := .bool true) (by kernel_rfl)
      have gy : yl 13 = some true := hy 13 38 (by kernel_rfl) true g0
      have e8 : ac.tmps[8]? = some (.pointer (some ⟨bb, 0, none⟩)) := (hf 8 (by kernel_rfl)).trans rfl
      obtain ⟨c0, c1⟩ := hJ.cs (bb) (yesV false) (by simp)
      clear hf hs hy
      have HJ := hid hJ
      clear hJ
      go_simp
      exact hK.out _ _ (fun d hd => by cases hd; exact Rby.Ex.val (by kernel_rfl)) HJ.out (Below.refl _ _)
    · intro ac V yl K hf hs hy hJ hK
      have g0 := Rby.at_val (hs 38 (by kernel_rfl)) (c := .bool true) (by kernel_rfl)
      have gy : yl 13 = some true := hy 13 38 (by kernel_rfl) true g0
      have e39 := Rby.at_val (hs 39 (by kernel_rfl)) (c := vV (yesV false)) (by kernel_rfl)
      have e40 := Rby.at_val (hs 40 (by kernel_rfl)) (c := vV (yesV false)) (by kernel_rfl)
      clear hf hs hy
      have HJ := hid hJ
      clear hJ
      go_simp
      exact hK.out _ _ (fun d hd => by cases hd; exact Rby.Ex.sl (l := [yesV false, yesV false]) (by kernel_rfl) (vsl2 (yesV false) (yesV false) V)) (HJ.out.alloc _) ((Below.refl _ _).alloc (Nat.le_refl _) _)
    · intro ac V yl K hf hs hy hJ hK
      have g0 := Rby.at_val (hs 38 (by kernel_rfl)) (c := .bool true) (by kernel_rfl)
      have gy : yl 13 = some true := hy 13 38 (by kernel_rfl) true g0
      obtain ⟨sb, e41, hsl⟩ := Rby.at_sl (hs 41 (by kernel_rfl)) (l := [yesV false, yesV false]) (by kernel_rfl)
      clear hf hs hy
      have HJ := hid hJ
      clear hJ
      have HSL := hid hsl
      clear hsl
      go_simp
      refine (ldo_at 16 [yesV false, yesV false] _ _ HSL.out).mono ?_
      rintro e V2 ⟨rfl, hb⟩
      rw [E1.out]
      have HB := hid hb
      clear hb
      go_wp2_with fail
      exact hK.out _ _ (fun d hd => by cases hd; exact Rby.Ex.val (by kernel_rfl)) (HJ.out.step HB.out) HB.out
    · intro ac V yl K hf hs hy hJ hK
      have g0 := Rby.at_val (hs 38 (by kernel_rfl)) (c := .bool true) (by kernel_rfl)
      have gy : yl 13 = some true := hy 13 38 (by kernel_rfl) true g0
      have e0 : ac.tmps[0]? = some (.bool false) := (hf 0 (by kernel_rfl)).trans rfl
      clear hf hs hy
      have HJ := hid hJ
      clear hJ
      go_simp
      exact hK.out _ _ (fun d hd => by cases hd; exact Rby.Ex.val (by kernel_rfl)) HJ.out (Below.refl _ _)
    · intro ac V yl K hf hs hy hJ hK
      have g0 := Rby.at_val (hs 38 (by kernel_rfl)) (c := .bool true) (by kernel_rfl)
      have gy : yl 13 = some true := hy 13 38 (by kernel_rfl) true g0
      have e43 := Rby.at_val (hs 43 (by kernel_rfl)) (c := .bool false) (by kernel_rfl)
      clear hf hs hy
      have HJ := hid hJ
      clear hJ
      go_simp
      exact hK.out _ _ (fun d hd => by cases hd; exact Rby.Ex.val (by kernel_rfl)) HJ.out (Below.refl _ _)
    · intro ac V yl K hf hs hy hJ hK
      have g0 := Rby.at_val (hs 44 (by kernel_rfl)) (c := .bool false) (by kernel_rfl)
      have gy : yl 19 = some false := hy 19 44 (by kernel_rfl) false g0
      have e1 : ac.tmps[1]? = some (.bool false) := (hf 1 (by kernel_rfl)).trans rfl
      clear hf hs hy
      have HJ := hid hJ
      clear hJ
      go_simp
      exact hK.out _ _ (fun d hd => by cases hd; exact Rby.Ex.val (by kernel_rfl)) HJ.out (Below.refl _ _)
    · intro ac V yl K hf hs hy hJ hK
      have g0 := Rby.at_val (hs 38 (by kernel_rfl)) (c := .bool true) (by kernel_rfl)
      have gy : yl 13 = some true := hy 13 38 (by kernel_rfl) true g0
      have e44 := Rby.at_val (hs 44 (by kernel_rfl)) (c := .bool false) (by kernel_rfl)
      have e45 := Rby.at_val (hs 45 (by kernel_rfl)) (c := .bool false) (by kernel_rfl)
      clear hf hs hy
      have HJ := hid hJ
      clear hJ
      go_simp
      exact hK.out _ _ (fun d hd => by cases hd; exact Rby.Ex.val (by kernel_rfl)) HJ.out (Below.refl _ _)
    · intro ac V yl K hf hs hy hJ hK
      have g0 := Rby.at_val (hs 38 (by kernel_rfl)) (c := .bool true) (by kernel_rfl)
      have gy : yl 13 = some true := hy 13 38 (by kernel_rfl) true g0
      have e46 := Rby.at_val (hs 46 (by kernel_rfl)) (c := .bool false) (by kernel_rfl)
      clear hf hs hy
      have HJ := hid hJ
      clear hJ
      go_simp
      refine (lyes_at _ _).mono ?_
      rintro e V2 ⟨rfl, hb⟩
      have HB := hid hb
      clear hb
      go_wp2_with fail
      exact hK.out _ _ (fun d hd => by cases hd; exact Rby.Ex.val (by kernel_rfl)) (HJ.out.step HB.out) HB.out
    · intro ac V yl K hf hs hy hJ hK
      have g0 := Rby.at_val (hs 38 (by kernel_rfl)) (c := .bool true) (by kernel_rfl)
      have gy : yl 13 = some true := hy 13 38 (by kernel_rfl) true g0
      have e42 := Rby.at_val (hs 42 (by kernel_rfl)) (c := vV (yesV false)) (by kernel_rfl)
      have e47 := Rby.at_val (hs 47 (by kernel_rfl)) (c := vV (yesV false)) (by kernel_rfl)
      clear hf hs hy
      have HJ := hid hJ
      clear hJ
      go_simp
      exact hK.out _ _ (fun d hd => by cases hd; exact Rby.Ex.val (by kernel_rfl)) HJ.out (Below.refl _ _)
    · intro ac V yl K hf hs hy hJ hK
      have e38 := Rby.at_val (hs 38 (by kernel_rfl)) (c := .bool true) (by kernel_rfl)
      have e48 := Rby.at_val (hs 48 (by kernel_rfl)) (c := .bool true) (by kernel_rfl)
      clear hf hs hy
      have HJ := hid hJ
      clear hJ
      go_simp
      exact hK.out _ _ (fun d hd => by cases hd; exact Rby.Ex.val (by kernel_rfl)) HJ.out (Below.refl _ _)
    · intro ac V yl K hf hs hy hJ hK
      have e49 := Rby.at_val (hs 49 (by kernel_rfl)) (c := .bool true) (by kernel_rfl)
      clear hf hs hy
      have HJ := hid hJ
      clear hJ
      go_simp
      exact hK.out _ _ (fun d hd => by cases hd; exact Rby.Ex.val (by kernel_rfl)) HJ.out (Below.refl _ _)
    · intro ac V yl K hf hs hy hJ hK
      have g0 := Rby.at_val (hs 50 (by kernel_rfl)) (c := .bool true) (by kernel_rfl)
      have gy : yl 25 = some true := hy 25 50 (by kernel_rfl) true g0
      have e7 : ac.tmps[7]? = some (.pointer (some ⟨ba, 0, none⟩)) := (hf 7 (by kernel_rfl)).trans rfl
      obtain ⟨c0, c1⟩ := hJ.cs (ba) (yesV false) (by simp)
      clear hf hs hy
      have HJ := hid hJ
      clear hJ
      go_simp
      exact hK.out _ _ (fun d hd => by cases hd; exact Rby.Ex.val (by kernel_rfl)) HJ.out (Below.refl _ _)
    · intro ac V yl K hf hs hy hJ hK
      have g0 := Rby.at_val (hs 50 (by kernel_rfl)) (c := .bool true) (by kernel_rfl)
      have gy : yl 25 = some true := hy 25 50 (by kernel_rfl) true g0
      have e51 := Rby.at_val (hs 51 (by kernel_rfl)) (c := vV (yesV false)) (by kernel_rfl)
      clear hf hs hy
      have HJ := hid hJ
      clear hJ
      go_simp
      exact hK.out _ _ (fun d hd => by cases hd; exact Rby.Ex.sl (l := [yesV false]) (by kernel_rfl) (vsl1 (yesV false) V)) (HJ.out.alloc _) ((Below.refl _ _).alloc (Nat.le_refl _) _)
    · intro ac V yl K hf hs hy hJ hK
      have g0 := Rby.at_val (hs 50 (by kernel_rfl)) (c := .bool true) (by kernel_rfl)
      have gy : yl 25 = some true := hy 25 50 (by kernel_rfl) true g0
      obtain ⟨sb, e52, hsl⟩ := Rby.at_sl (hs 52 (by kernel_rfl)) (l := [yesV false]) (by kernel_rfl)
      clear hf hs hy
      have HJ := hid hJ
      clear hJ
      have HSL := hid hsl
      clear hsl
      go_simp
      refine (ldo_at 5 [yesV false] _ _ HSL.out).mono ?_
      rintro e V2 ⟨rfl, hb⟩
      rw [E2.out]
      have HB := hid hb
      clear hb
      go_wp2_with fail
      exact hK.out _ _ (fun d hd => by cases hd; exact Rby.Ex.val (by kernel_rfl)) (HJ.out.step HB.out) HB.out
    · intro ac V yl K hf hs hy hJ hK
      have g0 := Rby.at_val (hs 50 (by kernel_rfl)) (c := .bool true) (by kernel_rfl)
      have gy : yl 25 = some true := hy 25 50 (by kernel_rfl) true g0
      have e0 : ac.tmps[0]? = some (.bool false) := (hf 0 (by kernel_rfl)).trans rfl
      clear hf hs hy
      have HJ := hid hJ
      clear hJ
      go_simp
      exact hK.out _ _ (fun d hd => by cases hd; exact Rby.Ex.val (by kernel_rfl)) HJ.out (Below.refl _ _)
    · intro ac V yl K hf hs hy hJ hK
      have g0 := Rby.at_val (hs 50 (by kernel_rfl)) (c := .bool true) (by kernel_rfl)
      have gy : yl 25 = some true := hy 25 50 (by kernel_rfl) true g0
      have e54 := Rby.at_val (hs 54 (by kernel_rfl)) (c := .bool false) (by kernel_rfl)
      clear hf hs hy
      have HJ := hid hJ
      clear hJ
      go_simp
      exact hK.out _ _ (fun d hd => by cases hd; exact Rby.Ex.val (by kernel_rfl)) HJ.out (Below.refl _ _)
    · intro ac V yl K hf hs hy hJ hK
      have g0 := Rby.at_val (hs 50 (by kernel_rfl)) (c := .bool true) (by kernel_rfl)
      have gy : yl 25 = some true := hy 25 50 (by kernel_rfl) true g0
      have e55 := Rby.at_val (hs 55 (by kernel_rfl)) (c := .bool true) (by kernel_rfl)
      clear hf hs hy
      have HJ := hid hJ
      clear hJ
      go_simp
      refine (lyes_at _ _).mono ?_
      rintro e V2 ⟨rfl, hb⟩
      have HB := hid hb
      clear hb
      go_wp2_with fail
      exact hK.out _ _ (fun d hd => by cases hd; exact Rby.Ex.val (by kernel_rfl)) (HJ.out.step HB.out) HB.out
    · intro ac V yl K hf hs hy hJ hK
      have g0 := Rby.at_val (hs 50 (by kernel_rfl)) (c := .bool true) (by kernel_rfl)
      have gy : yl 25 = some true := hy 25 50 (by kernel_rfl) true g0
      have e53 := Rby.at_val (hs 53 (by kernel_rfl)) (c := vV (yesV true)) (by kernel_rfl)
      have e56 := Rby.at_val (hs 56 (by kernel_rfl)) (c := vV (yesV true)) (by kernel_rfl)
      clear hf hs hy
      have HJ := hid hJ
      clear hJ
      go_simp
      exact hK.out _ _ (fun d hd => by cases hd; exact Rby.Ex.val (by kernel_rfl)) HJ.out (Below.refl _ _)
    · intro ac V yl K hf hs hy hJ hK
      have e50 := Rby.at_val (hs 50 (by kernel_rfl)) (c := .bool true) (by kernel_rfl)
      have e57 := Rby.at_val (hs 57 (by kernel_rfl)) (c := .bool true) (by kernel_rfl)
      clear hf hs hy
      have HJ := hid hJ
      clear hJ
      go_simp
      exact hK.out _ _ (fun d hd => by cases hd; exact Rby.Ex.val (by kernel_rfl)) HJ.out (Below.refl _ _)
    · intro ac V yl K hf hs hy hJ hK
      have e58 := Rby.at_val (hs 58 (by kernel_rfl)) (c := .bool true) (by kernel_rfl)
      clear hf hs hy
      have HJ := hid hJ
      clear hJ
      go_simp
      exact hK.out _ _ (fun d hd => by cases hd; exact Rby.Ex.val (by kernel_rfl)) HJ.out (Below.refl _ _)
    · intro ac V yl K hf hs hy hJ hK
      have g0 := Rby.at_val (hs 59 (by kernel_rfl)) (c := .bool true) (by kernel_rfl)
      have gy : yl 34 = some true := hy 34 59 (by kernel_rfl) true g0
      have e7 : ac.tmps[7]? = some (.pointer (some ⟨ba, 0, none⟩)) := (hf 7 (by kernel_rfl)).trans rfl
      obtain ⟨c0, c1⟩ := hJ.cs (ba) (yesV false) (by simp)
      clear hf hs hy
      have HJ := hid hJ
      clear hJ
      go_simp
      exact hK.out _ _ (fun d hd => by cases hd; exact Rby.Ex.val (by kernel_rfl)) HJ.out (Below.refl _ _)
    · intro ac V yl K hf hs hy hJ hK
      have g0 := Rby.at_val (hs 59 (by kernel_rfl)) (c := .bool true) (by kernel_rfl)
      have gy : yl 34 = some true := hy 34 59 (by kernel_rfl) true g0
      have e8 : ac.tmps[8]? = some (.pointer (some ⟨bb, 0, none⟩)) := (hf 8 (by kernel_rfl)).trans rfl
      obtain ⟨c0, c1⟩ := hJ.cs (bb) (yesV false) (by simp)
      clear hf hs hy
      have HJ := hid hJ
      clear hJ
      go_simp
      exact hK.out _ _ (fun d hd => by cases hd; exact Rby.Ex.val (by kernel_rfl)) HJ.out (Below.refl _ _)
    · intro ac V yl K hf hs hy hJ hK
      have g0 := Rby.at_val (hs 59 (by kernel_rfl)) (c := .bool true) (by kernel_rfl)
      have gy : yl 34 = some true := hy 34 59 (by kernel_rfl) true g0
      have e60 := Rby.at_val (hs 60 (by kernel_rfl)) (c := vV (yesV false)) (by kernel_rfl)
      have e61 := Rby.at_val (hs 61 (by kernel_rfl)) (c := vV (yesV false)) (by kernel_rfl)
      clear hf hs hy
      have HJ := hid hJ
      clear hJ
      go_simp
      exact hK.out _ _ (fun d hd => by cases hd; exact Rby.Ex.sl (l := [yesV false, yesV false]) (by kernel_rfl) (vsl2 (yesV false) (yesV false) V)) (HJ.out.alloc _) ((Below.refl _ _).alloc (Nat.le_refl _) _)
    · intro ac V yl K hf hs hy hJ hK
      have g0 := Rby.at_val (hs 59 (by kernel_rfl)) (c := .bool true) (by kernel_rfl)
      have gy : yl 34 = some true := hy 34 59 (by kernel_rfl) true g0
      obtain ⟨sb, e62, hsl⟩ := Rby.at_sl (hs 62 (by kernel_rfl)) (l := [yesV false, yesV false]) (by kernel_rfl)
      clear hf hs hy
      have HJ := hid hJ
      clear hJ
      have HSL := hid hsl
      clear hsl
      go_simp
      refine (ldo_at 11 [yesV false, yesV false] _ _ HSL.out).mono ?_
      rintro e V2 ⟨rfl, hb⟩
      rw [E3.out]
      have HB := hid hb
      clear hb
      go_wp2_with fail
      exact hK.out _ _ (fun d hd => by cases hd; exact Rby.Ex.val (by kernel_rfl)) (HJ.out.step HB.out) HB.out
    · intro ac V yl K hf hs hy hJ hK
      have g0 := Rby.at_val (hs 59 (by kernel_rfl)) (c := .bool true) (by kernel_rfl)
      have gy : yl 34 = some true := hy 34 59 (by kernel_rfl) true g0
      have e0 : ac.tmps[0]? = some (.bool false) := (hf 0 (by kernel_rfl)).trans rfl
      clear hf hs hy
      have HJ := hid hJ
      clear hJ
      go_simp
      exact hK.out _ _ (fun d hd => by cases hd; exact Rby.Ex.val (by kernel_rfl)) HJ.out (Below.refl _ _)
    · intro ac V yl K hf hs hy hJ hK
      have g0 := Rby.at_val (hs 59 (by kernel_rfl)) (c := .bool true) (by kernel_rfl)
      have gy : yl 34 = some true := hy 34 59 (by kernel_rfl) true g0
      have e1 : ac.tmps[1]? = some (.bool false) := (hf 1 (by kernel_rfl)).trans rfl
      clear hf hs hy
      have HJ := hid hJ
      clear hJ
      go_simp
      exact hK.out _ _ (fun d hd => by cases hd; exact Rby.Ex.val (by kernel_rfl)) HJ.out (Below.refl _ _)
    · intro ac V yl K hf hs hy hJ hK
      have g0 := Rby.at_val (hs 59 (by kernel_rfl)) (c := .bool true) (by kernel_rfl)
      have gy : yl 34 = some true := hy 34 59 (by kernel_rfl) true g0
      have e64 := Rby.at_val (hs 64 (by kernel_rfl)) (c := .bool false) (by kernel_rfl)
      have e65 := Rby.at_val (hs 65 (by kernel_rfl)) (c := .bool false) (by kernel_rfl)
      clear hf hs hy
      have HJ := hid hJ
      clear hJ
      go_simp
      exact hK.out _ _ (fun d hd => by cases hd; exact Rby.Ex.val (by kernel_rfl)) HJ.out (Below.refl _ _)
    · intro ac V yl K hf hs hy hJ hK
      have g0 := Rby.at_val (hs 59 (by kernel_rfl)) (c := .bool true) (by kernel_rfl)
      have gy : yl 34 = some true := hy 34 59 (by kernel_rfl) true g0
      have e66 := Rby.at_val (hs 66 (by kernel_rfl)) (c := .bool true) (by kernel_rfl)
      clear hf hs hy
      have HJ := hid hJ
      clear hJ
      go_simp
      refine (lyes_at _ _).mono ?_
      rintro e V2 ⟨rfl, hb⟩
      have HB := hid hb
      clear hb
      go_wp2_with fail
      exact hK.out _ _ (fun d hd => by cases hd; exact Rby.Ex.val (by kernel_rfl)) (HJ.out.step HB.out) HB.out
    · intro ac V yl K hf hs hy hJ hK
      have g0 := Rby.at_val (hs 59 (by kernel_rfl)) (c := .bool true) (by kernel_rfl)
      have gy : yl 34 = some true := hy 34 59 (by kernel_rfl) true g0
      have e63 := Rby.at_val (hs 63 (by kernel_rfl)) (c := vV (yesV true)) (by kernel_rfl)
      have e67 := Rby.at_val (hs 67 (by kernel_rfl)) (c := vV (yesV true)) (by kernel_rfl)
      clear hf hs hy
      have HJ := hid hJ
      clear hJ
      go_simp
      exact hK.out _ _ (fun d hd => by cases hd; exact Rby.Ex.val (by kernel_rfl)) HJ.out (Below.refl _ _)
    · intro ac V yl K hf hs hy hJ hK
      have e59 := Rby.at_val (hs 59 (by kernel_rfl)) (c := .bool true) (by kernel_rfl)
      have e68 := Rby.at_val (hs 68 (by kernel_rfl)) (c := .bool true) (by kernel_rfl)
      clear hf hs hy
      have HJ := hid hJ
      clear hJ
      go_simp
      exact hK.out _ _ (fun d hd => by cases hd; exact Rby.Ex.val (by kernel_rfl)) HJ.out (Below.refl _ _)
    · intro ac V yl K hf hs hy hJ hK
      have e69 := Rby.at_val (hs 69 (by kernel_rfl)) (c := .bool true) (by kernel_rfl)
      clear hf hs hy
      have HJ := hid hJ
      clear hJ
      go_simp
      exact hK.out _ _ (fun d hd => by cases hd; exact Rby.Ex.val (by kernel_rfl)) HJ.out (Below.refl _ _)
    · intro ac V yl K hf hs hy hJ hK
      have g0 := Rby.at_val (hs 70 (by kernel_rfl)) (c := .bool true) (by kernel_rfl)
      have gy : yl 45 = some true := hy 45 70 (by kernel_rfl) true g0
      have e7 : ac.tmps[7]? = some (.pointer (some ⟨ba, 0, none⟩)) := (hf 7 (by kernel_rfl)).trans rfl
      obtain ⟨c0, c1⟩ := hJ.cs (ba) (yesV false) (by simp)
      clear hf hs hy
      have HJ := hid hJ
      clear hJ
      go_simp
      exact hK.out _ _ (fun d hd => by cases hd; exact Rby.Ex.val (by kernel_rfl)) HJ.out (Below.refl _ _)
    · intro ac V yl K hf hs hy hJ hK
      have g0 := Rby.at_val (hs 70 (by kernel_rfl)) (c := .bool true) (by kernel_rfl)
      have gy : yl 45 = some true := hy 45 70 (by kernel_rfl) true g0
      have e9 : ac.tmps[9]? = some (.pointer (some ⟨bx, 0, none⟩)) := (hf 9 (by kernel_rfl)).trans rfl
      obtain ⟨c0, c1⟩ := hJ.cs (bx) (numV n0) (by simp)
      clear hf hs hy
      have HJ := hid hJ
      clear hJ
      go_simp
      exact hK.out _ _ (fun d hd => by cases hd; exact Rby.Ex.val (by kernel_rfl)) HJ.out (Below.refl _ _)
    · intro ac V yl K hf hs hy hJ hK
      have g0 := Rby.at_val (hs 70 (by kernel_rfl)) (c := .bool true) (by kernel_rfl)
      have gy : yl 45 = some true := hy 45 70 (by kernel_rfl) true g0
      have e10 : ac.tmps[10]? = some (.pointer (some ⟨by_, 0, none⟩)) := (hf 10 (by kernel_rfl)).trans rfl
      obtain ⟨c0, c1⟩ := hJ.cs (by_) (numV n1) (by simp)
      clear hf hs hy
      have HJ := hid hJ
      clear hJ
      go_simp
      exact hK.out _ _ (fun d hd => by cases hd; exact Rby.Ex.val (by kernel_rfl)) HJ.out (Below.refl _ _)
    · intro ac V yl K hf hs hy hJ hK
      have g0 := Rby.at_val (hs 70 (by kernel_rfl)) (c := .bool true) (by kernel_rfl)
      have gy : yl 45 = some true := hy 45 70 (by kernel_rfl) true g0
      have e71 := Rby.at_val (hs 71 (by kernel_rfl)) (c := vV (yesV false)) (by kernel_rfl)
      have e72 := Rby.at_val (hs 72 (by kernel_rfl)) (c := vV (numV n0)) (by kernel_rfl)
      have e73 := Rby.at_val (hs 73 (by kernel_rfl)) (c := vV (numV n1)) (by kernel_rfl)
      clear hf hs hy
      have HJ := hid hJ
      clear hJ
      go_simp
      exact hK.out _ _ (fun d hd => by cases hd; exact Rby.Ex.sl (l := [yesV false, numV n0, numV n1]) (by kernel_rfl) (vsl3 (yesV false) (numV n0) (numV n1) V)) (HJ.out.alloc _) ((Below.refl _ _).alloc (Nat.le_refl _) _)
    · intro ac V yl K hf hs hy hJ hK
      have g0 := Rby.at_val (hs 70 (by kernel_rfl)) (c := .bool true) (by kernel_rfl)
      have gy : yl 45 = some true := hy 45 70 (by kernel_rfl) true g0
      obtain ⟨sb, e74, hsl⟩ := Rby.at_sl (hs 74 (by kernel_rfl)) (l := [yesV false, numV n0, numV n1]) (by kernel_rfl)
      clear hf hs hy
      have HJ := hid hJ
      clear hJ
      have HSL := hid hsl
      clear hsl
      go_simp
      refine (ldo_at 17 [yesV false, numV n0, numV n1] _ _ HSL.out).mono ?_
      rintro e V2 ⟨rfl, hb⟩
      rw [E4.out]
      have HB := hid hb
      clear hb
      go_wp2_with fail
      exact hK.out _ _ (fun d hd => by cases hd; exact Rby.Ex.val (by kernel_rfl)) (HJ.out.step HB.out) HB.out
    · intro ac V yl K hf hs hy hJ hK
      have g0 := Rby.at_val (hs 70 (by kernel_rfl)) (c := .bool true) (by kernel_rfl)
      have gy : yl 45 = some true := hy 45 70 (by kernel_rfl) true g0
      have e11 : ac.tmps[11]? = some (.pointer (some ⟨bw, 0, none⟩)) := (hf 11 (by kernel_rfl)).trans rfl
      obtain ⟨c0, c1⟩ := hJ.cs (bw) (numV n1) (by simp)
      clear hf hs hy
      have HJ := hid hJ
      clear hJ
      go_simp
      exact hK.out _ _ (fun d hd => by cases hd; exact Rby.Ex.val (by kernel_rfl)) HJ.out (Below.refl _ _)
    · intro ac V yl K hf hs hy hJ hK
      have g0 := Rby.at_val (hs 70 (by kernel_rfl)) (c := .bool true) (by kernel_rfl)
      have gy : yl 45 = some true := hy 45 70 (by kernel_rfl) true g0
      have e75 := Rby.at_val (hs 75 (by kernel_rfl)) (c := vV (numV n1)) (by kernel_rfl)
      have e76 := Rby.at_val (hs 76 (by kernel_rfl)) (c := vV (numV n1)) (by kernel_rfl)
      clear hf hs hy
      have HJ := hid hJ
      clear hJ
      go_simp
      exact hK.out _ _ (fun d hd => by cases hd; exact Rby.Ex.val (by kernel_rfl)) HJ.out (Below.refl _ _)
    · intro ac V yl K hf hs hy hJ hK
      have e70 := Rby.at_val (hs 70 (by kernel_rfl)) (c := .bool true) (by kernel_rfl)
      have e77 := Rby.at_val (hs 77 (by kernel_rfl)) (c := .bool true) (by kernel_rfl)
      clear hf hs hy
      have HJ := hid hJ
      clear hJ
      go_simp
      exact hK.out _ _ (fun d hd => by cases hd; exact Rby.Ex.val (by kernel_rfl)) HJ.out (Below.refl _ _)
    · intro ac V yl K hf hs hy hJ hK
      have e78 := Rby.at_val (hs 78 (by kernel_rfl)) (c := .bool true) (by kernel_rfl)
      clear hf hs hy
      have HJ := hid hJ
      clear hJ
      go_simp
      exact hK.out _ _ (fun d hd => by cases hd; exact Rby.Ex.val (by kernel_rfl)) HJ.out (Below.refl _ _)
    · intro ac V yl K hf hs hy hJ hK
      have g0 := Rby.at_val (hs 79 (by kernel_rfl)) (c := .bool true) (by kernel_rfl)
      have gy : yl 54 = some true := hy 54 79 (by kernel_rfl) true g0
      have e7 : ac.tmps[7]? = some (.pointer (some ⟨ba, 0, none⟩)) := (hf 7 (by kernel_rfl)).trans rfl
      obtain ⟨c0, c1⟩ := hJ.cs (ba) (yesV false) (by simp)
      clear hf hs hy
      have HJ := hid hJ
      clear hJ
      go_simp
      exact hK.out _ _ (fun d hd => by cases hd; exact Rby.Ex.val (by kernel_rfl)) HJ.out (Below.refl _ _)
    · intro ac V yl K hf hs hy hJ hK
      have g0 := Rby.at_val (hs 79 (by kernel_rfl)) (c := .bool true) (by kernel_rfl)
      have gy : yl 54 = some true := hy 54 79 (by kernel_rfl) true g0
      have e8 : ac.tmps[8]? = some (.pointer (some ⟨bb, 0, none⟩)) := (hf 8 (by kernel_rfl)).trans rfl
      obtain ⟨c0, c1⟩ := hJ.cs (bb) (yesV false) (by simp)
      clear hf hs hy
      have HJ := hid hJ
      clear hJ
      go_simp
      exact hK.out _ _ (fun d hd => by cases hd; exact Rby.Ex.val (by kernel_rfl)) HJ.out (Below.refl _ _)
    · intro ac V yl K hf hs hy hJ hK
      have g0 := Rby.at_val (hs 79 (by kernel_rfl)) (c := .bool true) (by kernel_rfl)
      have gy : yl 54 = some true := hy 54 79 (by kernel_rfl) true g0
      have e7 : ac.tmps[7]? = some (.pointer (some ⟨ba, 0, none⟩)) := (hf 7 (by kernel_rfl)).trans rfl
      obtain ⟨c0, c1⟩ := hJ.cs (ba) (yesV false) (by simp)
      clear hf hs hy
      have HJ := hid hJ
      clear hJ
      go_simp
      exact hK.out _ _ (fun d hd => by cases hd; exact Rby.Ex.val (by kernel_rfl)) HJ.out (Below.refl _ _)
    · intro ac V yl K hf hs hy hJ hK
      have g0 := Rby.at_val (hs 79 (by kernel_rfl)) (c := .bool true) (by kernel_rfl)
      have gy : yl 54 = some true := hy 54 79 (by kernel_rfl) true g0
      have e80 := Rby.at_val (hs 80 (by kernel_rfl)) (c := vV (yesV false)) (by kernel_rfl)
      have e81 := Rby.at_val (hs 81 (by kernel_rfl)) (c := vV (yesV false)) (by kernel_rfl)
      have e82 := Rby.at_val (hs 82 (by kernel_rfl)) (c := vV (yesV false)) (by kernel_rfl)
      clear hf hs hy
      have HJ := hid hJ
      clear hJ
      go_simp
      exact hK.out _ _ (fun d hd => by cases hd; exact Rby.Ex.sl (l := [yesV false, yesV false, yesV false]) (by kernel_rfl) (vsl3 (yesV false) (yesV false) (yesV false) V)) (HJ.out.alloc _) ((Below.refl _ _).alloc (Nat.le_refl _) _)
    · intro ac V yl K hf hs hy hJ hK
      have g0 := Rby.at_val (hs 79 (by kernel_rfl)) (c := .bool true) (by kernel_rfl)
      have gy : yl 54 = some true := hy 54 79 (by kernel_rfl) true g0
      obtain ⟨sb, e83, hsl⟩ := Rby.at_sl (hs 83 (by kernel_rfl)) (l := [yesV false, yesV false, yesV false]) (by kernel_rfl)
      clear hf hs hy
      have HJ := hid hJ
      clear hJ
      have HSL := hid hsl
      clear hsl
      go_simp
      refine (ldo_at 17 [yesV false, yesV false, yesV false] _ _ HSL.out).mono ?_
      rintro e V2 ⟨rfl, hb⟩
      rw [E5.out]
      have HB := hid hb
      clear hb
      go_wp2_with fail
      exact hK.out _ _ (fun d hd => by cases hd; exact Rby.Ex.val (by kernel_rfl)) (HJ.out.step HB.out) HB.out
    · intro ac V yl K hf hs hy hJ hK
      have g0 := Rby.at_val (hs 79 (by kernel_rfl)) (c := .bool true) (by kernel_rfl)
      have gy : yl 54 = some true := hy 54 79 (by kernel_rfl) true g0
      have e7 : ac.tmps[7]? = some (.pointer (some ⟨ba, 0, none⟩)) := (hf 7 (by kernel_rfl)).trans rfl
      obtain ⟨c0, c1⟩ := hJ.cs (ba) (yesV false) (by simp)
      clear hf hs hy
      have HJ := hid hJ
      clear hJ
      go_simp
      exact hK.out _ _ (fun d hd => by cases hd; exact Rby.Ex.val (by kernel_rfl)) HJ.out (Below.refl _ _)
    · intro ac V yl K hf hs hy hJ hK
      have g0 := Rby.at_val (hs 79 (by kernel_rfl)) (c := .bool true) (by kernel_rfl)
      have gy : yl 54 = some true := hy 54 79 (by kernel_rfl) true g0
      have e8 : ac.tmps[8]? = some (.pointer (some ⟨bb, 0, none⟩)) := (hf 8 (by kernel_rfl)).trans rfl
      obtain ⟨c0, c1⟩ := hJ.cs (bb) (yesV false) (by simp)
      clear hf hs hy
      have HJ := hid hJ
      clear hJ
      go_simp
      exact hK.out _ _ (fun d hd => by cases hd; exact Rby.Ex.val (by kernel_rfl)) HJ.out (Below.refl _ _)
    · intro ac V yl K hf hs hy hJ hK
      have g0 := Rby.at_val (hs 79 (by kernel_rfl)) (c := .bool true) (by kernel_rfl)
      have gy : yl 54 = some true := hy 54 79 (by kernel_rfl) true g0
      have e85 := Rby.at_val (hs 85 (by kernel_rfl)) (c := vV (yesV false)) (by kernel_rfl)
      have e86 := Rby.at_val (hs 86 (by kernel_rfl)) (c := vV (yesV false)) (by kernel_rfl)
      clear hf hs hy
      have HJ := hid hJ
      clear hJ
      go_simp
      exact hK.out _ _ (fun d hd => by cases hd; exact Rby.Ex.sl (l := [yesV false, yesV false]) (by kernel_rfl) (vsl2 (yesV false) (yesV false) V)) (HJ.out.alloc _) ((Below.refl _ _).alloc (Nat.le_refl _) _)
    · intro ac V yl K hf hs hy hJ hK
      have g0 := Rby.at_val (hs 79 (by kernel_rfl)) (c := .bool true) (by kernel_rfl)
      have gy : yl 54 = some true := hy 54 79 (by kernel_rfl) true g0
      obtain ⟨sb, e87, hsl⟩ := Rby.at_sl (hs 87 (by kernel_rfl)) (l := [yesV false, yesV false]) (by kernel_rfl)
      clear hf hs hy
      have HJ := hid hJ
      clear hJ
      have HSL := hid hsl
      clear hsl
      go_simp
      refine (ldo_at 15 [yesV false, yesV false] _ _ HSL.out).mono ?_
      rintro e V2 ⟨rfl, hb⟩
      rw [E0.out]
      have HB := hid hb
      clear hb
      go_wp2_with fail
      exact hK.out _ _ (fun d hd => by cases hd; exact Rby.Ex.val (by kernel_rfl)) (HJ.out.step HB.out) HB.out
    · intro ac V yl K hf hs hy hJ hK
      have g0 := Rby.at_val (hs 79 (by kernel_rfl)) (c := .bool true) (by kernel_rfl)
      have gy : yl 54 = some true := hy 54 79 (by kernel_rfl) true g0
      have e84 := Rby.at_val (hs 84 (by kernel_rfl)) (c := vV (yesV false)) (by kernel_rfl)
      have e88 := Rby.at_val (hs 88 (by kernel_rfl)) (c := vV (yesV false)) (by kernel_rfl)
      clear hf hs hy
      have HJ := hid hJ
      clear hJ
      go_simp
      exact hK.out _ _ (fun d hd => by cases hd; exact Rby.Ex.val (by kernel_rfl)) HJ.out (Below.refl _ _)
    · intro ac V yl K hf hs hy hJ hK
      have e79 := Rby.at_val (hs 79 (by kernel_rfl)) (c := .bool true) (by kernel_rfl)
      have e89 := Rby.at_val (hs 89 (by kernel_rfl)) (c := .bool true) (by kernel_rfl)
      clear hf hs hy
      have HJ := hid hJ
      clear hJ
      go_simp
      exact hK.out _ _ (fun d hd => by cases hd; exact Rby.Ex.val (by kernel_rfl)) HJ.out (Below.refl _ _)
    · intro ac V yl K hf hs hy hJ hK
      have e90 := Rby.at_val (hs 90 (by kernel_rfl)) (c := .bool true) (by kernel_rfl)
      clear hf hs hy
      have HJ := hid hJ
      clear hJ
      go_simp
      exact hK.out _ _ (fun d hd => by cases hd; exact Rby.Ex.val (by kernel_rfl)) HJ.out (Below.refl _ _)
    · intro ac V yl K hf hs hy hJ hK
      have g0 := Rby.at_val (hs 91 (by kernel_rfl)) (c := .bool true) (by kernel_rfl)
      have gy : yl 66 = some true := hy 66 91 (by kernel_rfl) true g0
      have e7 : ac.tmps[7]? = some (.pointer (some ⟨ba, 0, none⟩)) := (hf 7 (by kernel_rfl)).trans rfl
      obtain ⟨c0, c1⟩ := hJ.cs (ba) (yesV false) (by simp)
      clear hf hs hy
      have HJ := hid hJ
      clear hJ
      go_simp
      exact hK.out _ _ (fun d hd => by cases hd; exact Rby.Ex.val (by kernel_rfl)) HJ.out (Below.refl _ _)
    · intro ac V yl K hf hs hy hJ hK
      have g0 := Rby.at_val (hs 91 (by kernel_rfl)) (c := .bool true) (by kernel_rfl)
      have gy : yl 66 = some true := hy 66 91 (by kernel_rfl) true g0
      have e8 : ac.tmps[8]? = some (.pointer (some ⟨bb, 0, none⟩)) := (hf 8 (by kernel_rfl)).trans rfl
      obtain ⟨c0, c1⟩ := hJ.cs (bb) (yesV false) (by simp)
      clear hf hs hy
      have HJ := hid hJ
      clear hJ
      go_simp
      exact hK.out _ _ (fun d hd => by cases hd; exact Rby.Ex.val (by kernel_rfl)) HJ.out (Below.refl _ _)
    · intro ac V yl K hf hs hy hJ hK
      have g0 := Rby.at_val (hs 91 (by kernel_rfl)) (c := .bool true) (by kernel_rfl)
      have gy : yl 66 = some true := hy 66 91 (by kernel_rfl) true g0
      have e92 := Rby.at_val (hs 92 (by kernel_rfl)) (c := vV (yesV false)) (by kernel_rfl)
      have e93 := Rby.at_val (hs 93 (by kernel_rfl)) (c := vV (yesV false)) (by kernel_rfl)
      clear hf hs hy
      have HJ := hid hJ
      clear hJ
      go_simp
      exact hK.out _ _ (fun d hd => by cases hd; exact Rby.Ex.sl (l := [yesV false, yesV false]) (by kernel_rfl) (vsl2 (yesV false) (yesV false) V)) (HJ.out.alloc _) ((Below.refl _ _).alloc (Nat.le_refl _) _)
    · intro ac V yl K hf hs hy hJ hK
      have g0 := Rby.at_val (hs 91 (by kernel_rfl)) (c := .bool true) (by kernel_rfl)
      have gy : yl 66 = some true := hy 66 91 (by kernel_rfl) true g0
      obtain ⟨sb, e94, hsl⟩ := Rby.at_sl (hs 94 (by kernel_rfl)) (l := [yesV false, yesV false]) (by kernel_rfl)
      clear hf hs hy
      have HJ := hid hJ
      clear hJ
      have HSL := hid hsl
      clear hsl
      go_simp
      refine (ldo_at 15 [yesV false, yesV false] _ _ HSL.out).mono ?_
      rintro e V2 ⟨rfl, hb⟩
      rw [E0.out]
      have HB := hid hb
      clear hb
      go_wp2_with fail
      exact hK.out _ _ (fun d hd => by cases hd; exact Rby.Ex.val (by kernel_rfl)) (HJ.out.step HB.out) HB.out
    · intro ac V yl K hf hs hy hJ hK
      have g0 := Rby.at_val (hs 91 (by kernel_rfl)) (c := .bool true) (by kernel_rfl)
      have gy : yl 66 = some true := hy 66 91 (by kernel_rfl) true g0
      have e95 := Rby.at_val (hs 95 (by kernel_rfl)) (c := vV (yesV false)) (by kernel_rfl)
      clear hf hs hy
      have HJ := hid hJ
      clear hJ
      go_simp
      exact hK.out _ _ (fun d hd => by cases hd; exact Rby.Ex.sl (l := [yesV false]) (by kernel_rfl) (vsl1 (yesV false) V)) (HJ.out.alloc _) ((Below.refl _ _).alloc (Nat.le_refl _) _)
    · intro ac V yl K hf hs hy hJ hK
      have g0 := Rby.at_val (hs 91 (by kernel_rfl)) (c := .bool true) (by kernel_rfl)
      have gy : yl 66 = some true := hy 66 91 (by kernel_rfl) true g0
      obtain ⟨sb, e96, hsl⟩ := Rby.at_sl (hs 96 (by kernel_rfl)) (l := [yesV false]) (by kernel_rfl)
      clear hf hs hy
      have HJ := hid hJ
      clear hJ
      have HSL := hid hsl
      clear hsl
      go_simp
      refine (ldo_at 5 [yesV false] _ _ HSL.out).mono ?_
      rintro e V2 ⟨rfl, hb⟩
      rw [E2.out]
      have HB := hid hb
      clear hb
      go_wp2_with fail
      exact hK.out _ _ (fun d hd => by cases hd; exact Rby.Ex.val (by kernel_rfl)) (HJ.out.step HB.out) HB.out
    · intro ac V yl K hf hs hy hJ hK
      have g0 := Rby.at_val (hs 91 (by kernel_rfl)) (c := .bool true) (by kernel_rfl)
      have gy : yl 66 = some true := hy 66 91 (by kernel_rfl) true g0
      have e7 : ac.tmps[7]? = some (.pointer (some ⟨ba, 0, none⟩)) := (hf 7 (by kernel_rfl)).trans rfl
      obtain ⟨c0, c1⟩ := hJ.cs (ba) (yesV false) (by simp)
      clear hf hs hy
      have HJ := hid hJ
      clear hJ
      go_simp
      exact hK.out _ _ (fun d hd => by cases hd; exact Rby.Ex.val (by kernel_rfl)) HJ.out (Below.refl _ _)
    · intro ac V yl K hf hs hy hJ hK
      have g0 := Rby.at_val (hs 91 (by kernel_rfl)) (c := .bool true) (by kernel_rfl)
      have gy : yl 66 = some true := hy 66 91 (by kernel_rfl) true g0
      have e98 := Rby.at_val (hs 98 (by kernel_rfl)) (c := vV (yesV false)) (by kernel_rfl)
      clear hf hs hy
      have HJ := hid hJ
      clear hJ
      go_simp
      exact hK.out _ _ (fun d hd => by cases hd; exact Rby.Ex.sl (l := [yesV false]) (by kernel_rfl) (vsl1 (yesV false) V)) (HJ.out.alloc _) ((Below.refl _ _).alloc (Nat.le_refl _) _)
    · intro ac V yl K hf hs hy hJ hK
      have g0 := Rby.at_val (hs 91 (by kernel_rfl)) (c := .bool true) (by kernel_rfl)
      have gy : yl 66 = some true := hy 66 91 (by kernel_rfl) true g0
      obtain ⟨sb, e99, hsl⟩ := Rby.at_sl (hs 99 (by kernel_rfl)) (l := [yesV false]) (by kernel_rfl)
      clear hf hs hy
      have HJ := hid hJ
      clear hJ
      have HSL := hid hsl
      clear hsl
      go_simp
      refine (ldo_at 5 [yesV false] _ _ HSL.out).mono ?_
      rintro e V2 ⟨rfl, hb⟩
      rw [E2.out]
      have HB := hid hb
      clear hb
      go_wp2_with fail
      exact hK.out _ _ (fun d hd => by cases hd; exact Rby.Ex.val (by kernel_rfl)) (HJ.out.step HB.out) HB.out
    · intro ac V yl K hf hs hy hJ hK
      have g0 := Rby.at_val (hs 91 (by kernel_rfl)) (c := .bool true) (by kernel_rfl)
      have gy : yl 66 = some true := hy 66 91 (by kernel_rfl) true g0
      have e8 : ac.tmps[8]? = some (.pointer (some ⟨bb, 0, none⟩)) := (hf 8 (by kernel_rfl)).trans rfl
      obtain ⟨c0, c1⟩ := hJ.cs (bb) (yesV false) (by simp)
      clear hf hs hy
      have HJ := hid hJ
      clear hJ
      go_simp
      exact hK.out _ _ (fun d hd => by cases hd; exact Rby.Ex.val (by kernel_rfl)) HJ.out (Below.refl _ _)
    · intro ac V yl K hf hs hy hJ hK
      have g0 := Rby.at_val (hs 91 (by kernel_rfl)) (c := .bool true) (by kernel_rfl)
      have gy : yl 66 = some true := hy 66 91 (by kernel_rfl) true g0
      have e101 := Rby.at_val (hs 101 (by kernel_rfl)) (c := vV (yesV false)) (by kernel_rfl)
      clear hf hs hy
      have HJ := hid hJ
      clear hJ
      go_simp
      exact hK.out _ _ (fun d hd => by cases hd; exact Rby.Ex.sl (l := [yesV false]) (by kernel_rfl) (vsl1 (yesV false) V)) (HJ.out.alloc _) ((Below.refl _ _).alloc (Nat.le_refl _) _)
    · intro ac V yl K hf hs hy hJ hK
      have g0 := Rby.at_val (hs 91 (by kernel_rfl)) (c := .bool true) (by kernel_rfl)
      have gy : yl 66 = some true := hy 66 91 (by kernel_rfl) true g0
      obtain ⟨sb, e102, hsl⟩ := Rby.at_sl (hs 102 (by kernel_rfl)) (l := [yesV false]) (by kernel_rfl)
      clear hf hs hy
      have HJ := hid hJ
      clear hJ
      have HSL := hid hsl
      clear hsl
      go_simp
      refine (ldo_at 5 [yesV false] _ _ HSL.out).mono ?_
      rintro e V2 ⟨rfl, hb⟩
      rw [E2.out]
      have HB := hid hb
      clear hb
      go_wp2_with fail
      exact hK.out _ _ (fun d hd => by cases hd; exact Rby.Ex.val (by kernel_rfl)) (HJ.out.step HB.out) HB.out
    · intro ac V yl K hf hs hy hJ hK
      have g0 := Rby.at_val (hs 91 (by kernel_rfl)) (c := .bool true) (by kernel_rfl)
      have gy : yl 66 = some true := hy 66 91 (by kernel_rfl) true g0
      have e100 := Rby.at_val (hs 100 (by kernel_rfl)) (c := vV (yesV true)) (by kernel_rfl)
      have e103 := Rby.at_val (hs 103 (by kernel_rfl)) (c := vV (yesV true)) (by kernel_rfl)
      clear hf hs hy
      have HJ := hid hJ
      clear hJ
      go_simp
      exact hK.out _ _ (fun d hd => by cases hd; exact Rby.Ex.sl (l := [yesV true, yesV true]) (by kernel_rfl) (vsl2 (yesV true) (yesV true) V)) (HJ.out.alloc _) ((Below.refl _ _).alloc (Nat.le_refl _) _)
    · intro ac V yl K hf hs hy hJ hK
      have g0 := Rby.at_val (hs 91 (by kernel_rfl)) (c := .bool true) (by kernel_rfl)
      have gy : yl 66 = some true := hy 66 91 (by kernel_rfl) true g0
      obtain ⟨sb, e104, hsl⟩ := Rby.at_sl (hs 104 (by kernel_rfl)) (l := [yesV true, yesV true]) (by kernel_rfl)
      clear hf hs hy
      have HJ := hid hJ
      clear hJ
      have HSL := hid hsl
      clear hsl
      go_simp
      refine (ldo_at 16 [yesV true, yesV true] _ _ HSL.out).mono ?_
      rintro e V2 ⟨rfl, hb⟩
      rw [E6.out]
      have HB := hid hb
      clear hb
      go_wp2_with fail
      exact hK.out _ _ (fun d hd => by cases hd; exact Rby.Ex.val (by kernel_rfl)) (HJ.out.step HB.out) HB.out
    · intro ac V yl K hf hs hy hJ hK
      have g0 := Rby.at_val (hs 91 (by kernel_rfl)) (c := .bool true) (by kernel_rfl)
      have gy : yl 66 = some true := hy 66 91 (by kernel_rfl) true g0
      have e97 := Rby.at_val (hs 97 (by kernel_rfl)) (c := vV (yesV true)) (by kernel_rfl)
      have e105 := Rby.at_val (hs 105 (by kernel_rfl)) (c := vV (yesV true)) (by kernel_rfl)
      clear hf hs hy
      have HJ := hid hJ
      clear hJ
      go_simp
      exact hK.out _ _ (fun d hd => by cases hd; exact Rby.Ex.val (by kernel_rfl)) HJ.out (Below.refl _ _)
    · intro ac V yl K hf hs hy hJ hK
      have e91 := Rby.at_val (hs 91 (by kernel_rfl)) (c := .bool true) (by kernel_rfl)
      have e106 := Rby.at_val (hs 106 (by kernel_rfl)) (c := .bool true) (by kernel_rfl)
      clear hf hs hy
      have HJ := hid hJ
      clear hJ
      go_simp
      exact hK.out _ _ (fun d hd => by cases hd; exact Rby.Ex.val (by kernel_rfl)) HJ.out (Below.refl _ _)
    · intro ac V yl K hf hs hy hJ hK
      have e107 := Rby.at_val (hs 107 (by kernel_rfl)) (c := .bool true) (by kernel_rfl)
      clear hf hs hy
      have HJ := hid hJ
      clear hJ
      go_simp
      exact hK.out _ _ (fun d hd => by cases hd; exact Rby.Ex.val (by kernel_rfl)) HJ.out (Below.refl _ _)
  case fin =>
    intro ac V hd hsz hf hh hJ
    have e6 := Rby.at_val (hh 6 (by kernel_rfl)) (c := .bool true) (by kernel_rfl)
    have HJ := hid hJ
    clear hf hh hJ hsz
    obtain ⟨tm, df⟩ := ac
    obtain rfl : df = [] := hd
    simp only at e6
    go_wp2_with (fail)
    go_ret
    exact ⟨by simp [e6], HJ.out.below⟩
theorem walk6 (p q : Bool) (n0 n1 : Int) (w : World) (hT : TabP w) : Calls Tryd.prog 6 #[.bool p, .bool q, .agg #[.int .i64 n0, .int .i64 n1]] w fun e w' => e = .returned (.bool true) ∧ Below w.heap.size w w' := by
  cases p <;> cases q
  · exact walk6ff n0 n1 w hT
  · exact walk6ft n0 n1 w hT
  · exact walk6tf n0 n1 w hT
  · exact walk6tt n0 n1 w hT
end Go.Proofs.YtkniacdfhajogaaDoor.Val
