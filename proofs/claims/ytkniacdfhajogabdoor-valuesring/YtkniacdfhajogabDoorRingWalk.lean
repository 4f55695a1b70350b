/-
  The walk of the law ValuesRing.
-/
import Derived.Test.YtkniacdfhajogabDoorNumM
import Derived.Test.YtkniacdfhajogabDoorArr
namespace Go.Proofs.YtkniacdfhajogabDoor.Val
open Go.ChangeShapes Go.WideShapes Go.ChangeAt Go.RowKit Go.Joins
set_option maxHeartbeats 2000000
set_option linter.unusedVariables false
/-- What each slot holds behind its operation. -/
def ringT (a b c sv pv mv tv yv qv dv xv : Int) : List (Nat × (Value ⊕ List Vl)) := [(21, .inl (.bool true)), (22, .inl (.bool true)), (23, .inl (vV (numV a))), (24, .inl (vV (numV b))), (25, .inr [numV a, numV b]), (26, .inl (vV (numV pv))), (27, .inl (vV (numV b))), (28, .inl (vV (numV a))), (29, .inr [numV b, numV a]), (30, .inl (vV (numV pv))), (31, .inl (.bool true)), (32, .inl (.bool true)), (33, .inl (.bool true)), (34, .inl (vV (numV a))), (35, .inl (vV (numV b))), (36, .inr [numV a, numV b]), (37, .inl (vV (numV mv))), (38, .inl (vV (numV b))), (39, .inl (vV (numV a))), (40, .inr [numV b, numV a]), (41, .inl (vV (numV mv))), (42, .inl (.bool true)), (43, .inl (.bool true)), (44, .inl (.bool true)), (45, .inl (vV (numV a))), (46, .inl (vV (numV b))), (47, .inr [numV a, numV b]), (48, .inl (vV (numV pv))), (49, .inl (vV (numV c))), (50, .inr [numV pv, numV c]), (51, .inl (vV (numV tv))), (52, .inl (vV (numV a))), (53, .inl (vV (numV sv))), (54, .inr [numV a, numV sv]), (55, .inl (vV (numV tv))), (56, .inl (.bool true)), (57, .inl (.bool true)), (58, .inl (.bool true)), (59, .inl (vV (numV a))), (60, .inl (vV (numV b))), (61, .inr [numV a, numV b]), (62, .inl (vV (numV mv))), (63, .inl (vV (numV c))), (64, .inr [numV mv, numV c]), (65, .inl (vV (numV qv))), (66, .inl (vV (numV a))), (67, .inl (vV (numV b))), (68, .inl (vV (numV c))), (69, .inr [numV b, numV c]), (70, .inl (vV (numV yv))), (71, .inr [numV a, numV yv]), (72, .inl (vV (numV qv))), (73, .inl (.bool true)), (74, .inl (.bool true)), (75, .inl (.bool true)), (76, .inl (vV (numV a))), (77, .inl (vV (numV sv))), (78, .inr [numV a, numV sv]), (79, .inl (vV (numV dv))), (80, .inl (vV (numV a))), (81, .inl (vV (numV b))), (82, .inr [numV a, numV b]), (83, .inl (vV (numV mv))), (84, .inl (vV (numV a))), (85, .inl (vV (numV c))), (86, .inr [numV a, numV c]), (87, .inl (vV (numV xv))), (88, .inr [numV mv, numV xv]), (89, .inl (vV (numV dv))), (90, .inl (.bool true)), (91, .inl (.bool true)), (92, .inl (.bool true)), (93, .inl (vV (numV a))), (94, .inl (vV (numV 0))), (95, .inr [numV a, numV 0]), (96, .inl (vV (numV a))), (97, .inl (vV (numV a))), (98, .inl (.bool true)), (99, .inl (.bool true)), (100, .inl (.bool true)), (101, .inl (vV (numV a))), (102, .inl (vV (numV 1))), (103, .inr [numV a, numV 1]), (104, .inl (vV (numV a))), (105, .inl (vV (numV a))), (106, .inl (.bool true)), (107, .inl (.bool true)), (6, .inl (.bool true))]
set_option maxRecDepth 100000 in
theorem walk4_at (a b c sv pv mv tv yv qv dv xv : Int) (w : World) (e1 : doE 6 [numV b, numV c] = numV sv) (e2 : doE 6 [numV a, numV b] = numV pv) (e3 : doE 6 [numV b, numV a] = numV pv) (e4 : doE 8 [numV a, numV b] = numV mv) (e5 : doE 8 [numV b, numV a] = numV mv) (e6 : doE 6 [numV pv, numV c] = numV tv) (e7 : doE 6 [numV a, numV sv] = numV tv) (e8 : doE 8 [numV mv, numV c] = numV qv) (e9 : doE 8 [numV b, numV c] = numV yv) (e10 : doE 8 [numV a, numV yv] = numV qv) (e11 : doE 8 [numV a, numV sv] = numV dv) (e12 : doE 8 [numV a, numV c] = numV xv) (e13 : doE 6 [numV mv, numV xv] = numV dv) (e14 : doE 6 [numV a, numV 0] = numV a) (e15 : doE 8 [numV a, numV 1] = numV a) (hT : TabP w) : Calls Tryd.prog 4 #[.int .i64 a, .int .i64 b, .int .i64 c] w fun e w' => e = .returned (.bool true) ∧ Below w.heap.size w w' := by
  have R0 := hid (LV.start hT)
  have E1 := hid e1
  have E2 := hid e2
  have E3 := hid e3
  have E4 := hid e4
  have E5 := hid e5
  have E6 := hid e6
  have E7 := hid e7
  have E8 := hid e8
  have E9 := hid e9
  have E10 := hid e10
  have E11 := hid e11
  have E12 := hid e12
  have E13 := hid e13
  have E14 := hid e14
  have E15 := hid e15
  clear hT e1 e2 e3 e4 e5 e6 e7 e8 e9 e10 e11 e12 e13 e14 e15
  go_enter Tryd.func4, Tryd.ntmps4
  go_wp2_with (fail)
  refine (lnumber_at _ _).mono ?_
  rintro e v1 ⟨rfl, hb⟩
  have R1 := hid (R0.out.step hb)
  clear hb
  have R2 := hid (R1.out.push (numV a) (b := v1.heap.size) rfl)
  go_wp2_with (fail)
  refine (lnumber_at _ _).mono ?_
  rintro e v3 ⟨rfl, hb⟩
  have R3 := hid (R2.out.step hb)
  clear hb
  generalize v1.heap.size = bx at *
  have R4 := hid (R3.out.push (numV b) (b := v3.heap.size) rfl)
  go_wp2_with (fail)
  refine (lnumber_at _ _).mono ?_
  rintro e v5 ⟨rfl, hb⟩
  have R5 := hid (R4.out.step hb)
  clear hb
  generalize v3.heap.size = by_ at *
  have R6 := hid (R5.out.push (numV c) (b := v5.heap.size) rfl)
  obtain ⟨c00, c01⟩ := R6.out.cs (v5.heap.size) (numV c) (by simp)
  obtain ⟨c10, c11⟩ := R6.out.cs (by_) (numV b) (by simp)
  obtain ⟨c20, c21⟩ := R6.out.cs (bx) (numV a) (by simp)
  go_wp2_with (fail)
  clear c00 c01 c10 c11 c20 c21
  have R7 := hid (R6.out.build [numV b, numV c] (by simp) (b := v5.heap.size + 1) (by simp))
  refine (ldo_sl R7.out 6 [numV b, numV c] (v5.heap.size + 1) (by simp)).mono ?_
  rintro e v8 ⟨rfl, hb⟩
  rw [E1.out]
  have R8 := hid (R7.out.step hb)
  clear hb
  replace R8 := hid (R8.out.less (fun _ h => h) (M2 := []) (fun _ h => (List.not_mem_nil h).elim))
  generalize v5.heap.size = bz at *
  have R9 := hid (R8.out.push (numV sv) (b := v8.heap.size) rfl)
  obtain ⟨c00, c01⟩ := R9.out.cs (v8.heap.size) (numV sv) (by simp)
  obtain ⟨c10, c11⟩ := R9.out.cs (bz) (numV c) (by simp)
  obtain ⟨c20, c21⟩ := R9.out.cs (by_) (numV b) (by simp)
  obtain ⟨c30, c31⟩ := R9.out.cs (bx) (numV a) (by simp)
  go_wp2_with (fail)
  clear c00 c01 c10 c11 c20 c21 c30 c31
  generalize v8.alloc (.cells (vC (numV sv)) 25) = W6 at *
  generalize v8.heap.size = bs at *
  have RS6 := hid (R9.out.rebase)
  refine Rby.region_by (J := fun V => LV w W6.heap.size [(bs, numV sv), (bz, numV c), (by_, numV b), (bx, numV a)] [] V) (E := Rby.Ex (ringT a b c sv pv mv tv yv qv dv xv)) (by kernel_rfl) (by kernel_rfl) (by kernel_rfl) (by kernel_rfl) (Rby.Ex.keep _) RS6.out.drew ?step ?fin
  case step =>
    refine Rby.AllL.cons ?_ <| Rby.AllL.cons ?_ <| Rby.AllL.cons ?_ <| Rby.AllL.cons ?_ <| Rby.AllL.cons ?_ <| Rby.AllL.cons ?_ <| Rby.AllL.cons ?_ <| Rby.AllL.cons ?_ <| Rby.AllL.cons ?_ <| Rby.AllL.cons ?_ <| Rby.AllL.cons ?_ <| Rby.AllL.cons ?_ <| Rby.AllL.cons ?_ <| Rby.AllL.cons ?_ <| Rby.AllL.cons ?_ <| Rby.AllL.cons ?_ <| Rby.AllL.cons ?_ <| Rby.AllL.cons ?_ <| Rby.AllL.cons ?_ <| Rby.AllL.cons ?_ <| Rby.AllL.cons ?_ <| Rby.AllL.cons ?_ <| Rby.AllL.cons ?_ <| Rby.AllL.cons ?_ <| Rby.AllL.cons ?_ <| Rby.AllL.cons ?_ <| Rby.AllL.cons ?_ <| Rby.AllL.cons ?_ <| Rby.AllL.cons ?_ <| Rby.AllL.cons ?_ <| Rby.AllL.cons ?_ <| Rby.AllL.cons ?_ <| Rby.AllL.cons ?_ <| Rby.AllL.cons ?_ <| Rby.AllL.cons ?_ <| Rby.AllL.cons ?_ <| Rby.AllL.cons ?_ <| Rby.AllL.cons ?_ <| Rby.AllL.cons ?_ <| Rby.AllL.cons ?_ <| Rby.AllL.cons ?_ <| Rby.AllL.cons ?_ <| Rby.AllL.cons ?_ <| Rby.AllL.cons ?_ <| Rby.AllL.cons ?_ <| Rby.AllL.cons ?_ <| Rby.AllL.cons ?_ <| Rby.AllL.cons ?_ <| Rby.AllL.cons ?_ <| Rby.AllL.cons ?_ <| Rby.AllL.cons ?_ <| Rby.AllL.cons ?_ <| Rby.AllL.cons ?_ <| Rby.AllL.cons ?_ <| Rby.AllL.cons ?_ <| Rby.AllL.cons ?_ <| Rby.AllL.cons ?_ <| Rby.AllL.cons ?_ <| Rby.AllL.cons ?_ <| Rby.AllL.cons ?_ <| Rby.AllL.cons ?_ <| Rby.AllL.cons ?_ <| Rby.AllL.cons ?_ <| Rby.AllL.cons ?_ <| Rby.AllL.cons ?_ <| Rby.AllL.cons ?_ <| Rby.AllL.cons ?_ <| Rby.AllL.cons ?_ <| Rby.AllL.cons ?_ <| Rby.AllL.cons ?_ <| Rby.AllL.cons ?_ <| Rby.AllL.cons ?_ <| Rby.AllL.cons ?_ <| Rby.AllL.cons ?_ <| Rby.AllL.cons ?_ <| Rby.AllL.cons ?_ <| Rby.AllL.cons ?_ <| Rby.AllL.cons ?_ <| Rby.AllL.cons ?_ <| Rby.AllL.cons ?_ <| Rby.AllL.cons ?_ <| Rby.AllL.cons ?_ <| Rby.AllL.cons ?_ <| Rby.AllL.cons ?_ <| Rby.AllL.cons ?_ <| Rby.AllL.cons ?_ <| Rby.AllL.cons ?_ <| Rby.AllL.cons ?_ <| Rby.AllL.nil
    · intro ac V yl K hf hs hy hJ hK
      clear hf hs hy
      have HJ := hid hJ
      clear hJ
      go_simp
      refine (alive_at _ HJ.out.tab).mono ?_
      rintro e V2 ⟨rfl, hb⟩
      have HB := hid hb
      clear hb
      go_wp2_with fail
      exact hK.out _ _ (fun d hd => by cases hd; exact Rby.Ex.val (by kernel_rfl)) (HJ.out.step HB.out) HB.out
    · intro ac V yl K hf hs hy hJ hK
      have e21 := Rby.at_val (hs 21 (by kernel_rfl)) (c := .bool true) (by kernel_rfl)
      clear hf hs hy
      have HJ := hid hJ
      clear hJ
      go_simp
      exact hK.out _ _ (fun d hd => by cases hd; exact Rby.Ex.val (by kernel_rfl)) HJ.out (Below.refl _ _)
    · intro ac V yl K hf hs hy hJ hK
      have g0 := Rby.at_val (hs 22 (by kernel_rfl)) (c := .bool true) (by kernel_rfl)
      have gy : yl 1 = some true := hy 1 22 (by kernel_rfl) true g0
      have e7 : ac.tmps[7]? = some (.pointer (some ⟨bx, 0, none⟩)) := (hf 7 (by kernel_rfl)).trans rfl
      obtain ⟨c0, c1⟩ := hJ.cs (bx) (numV a) (by simp)
      clear hf hs hy
      have HJ := hid hJ
      clear hJ
      go_simp
      exact hK.out _ _ (fun d hd => by cases hd; exact Rby.Ex.val (by kernel_rfl)) HJ.out (Below.refl _ _)
    · intro ac V yl K hf hs hy hJ hK
      have g0 := Rby.at_val (hs 22 (by kernel_rfl)) (c := .bool true) (by kernel_rfl)
      have gy : yl 1 = some true := hy 1 22 (by kernel_rfl) true g0
      have e8 : ac.tmps[8]? = some (.pointer (some ⟨by_, 0, none⟩)) := (hf 8 (by kernel_rfl)).trans rfl
      obtain ⟨c0, c1⟩ := hJ.cs (by_) (numV b) (by simp)
      clear hf hs hy
      have HJ := hid hJ
      clear hJ
      go_simp
      exact hK.out _ _ (fun d hd => by cases hd; exact Rby.Ex.val (by kernel_rfl)) HJ.out (Below.refl _ _)
    · intro ac V yl K hf hs hy hJ hK
      have g0 := Rby.at_val (hs 22 (by kernel_rfl)) (c := .bool true) (by kernel_rfl)
      have gy : yl 1 = some true := hy 1 22 (by kernel_rfl) true g0
      have e23 := Rby.at_val (hs 23 (by kernel_rfl)) (c := vV (numV a)) (by kernel_rfl)
      have e24 := Rby.at_val (hs 24 (by kernel_rfl)) (c := vV (numV b)) (by kernel_rfl)
      clear hf hs hy
      have HJ := hid hJ
      clear hJ
      go_simp
      exact hK.out _ _ (fun d hd => by cases hd; exact Rby.Ex.sl (l := [numV a, numV b]) (by kernel_rfl) (vsl2 (numV a) (numV b) V)) (HJ.out.alloc _) ((Below.refl _ _).alloc (Nat.le_refl _) _)
    · intro ac V yl K hf hs hy hJ hK
      have g0 := Rby.at_val (hs 22 (by kernel_rfl)) (c := .bool true) (by kernel_rfl)
      have gy : yl 1 = some true := hy 1 22 (by kernel_rfl) true g0
      obtain ⟨sb, e25, hsl⟩ := Rby.at_sl (hs 25 (by kernel_rfl)) (l := [numV a, numV b]) (by kernel_rfl)
      clear hf hs hy
      have HJ := hid hJ
      clear hJ
      have HSL := hid hsl
      clear hsl
      go_simp
      refine (ldo_at 6 [numV a, numV b] _ _ HSL.out).mono ?_
      rintro e V2 ⟨rfl, hb⟩
      rw [E2.out]
      have HB := hid hb
      clear hb
      go_wp2_with fail
      exact hK.out _ _ (fun d hd => by cases hd; exact Rby.Ex.val (by kernel_rfl)) (HJ.out.step HB.out) HB.out
    · intro ac V yl K hf hs hy hJ hK
      have g0 := Rby.at_val (hs 22 (by kernel_rfl)) (c := .bool true) (by kernel_rfl)
      have gy : yl 1 = some true := hy 1 22 (by kernel_rfl) true g0
      have e8 : ac.tmps[8]? = some (.pointer (some ⟨by_, 0, none⟩)) := (hf 8 (by kernel_rfl)).trans rfl
      obtain ⟨c0, c1⟩ := hJ.cs (by_) (numV b) (by simp)
      clear hf hs hy
      have HJ := hid hJ
      clear hJ
      go_simp
      exact hK.out _ _ (fun d hd => by cases hd; exact Rby.Ex.val (by kernel_rfl)) HJ.out (Below.refl _ _)
    · intro ac V yl K hf hs hy hJ hK
      have g0 := Rby.at_val (hs 22 (by kernel_rfl)) (c := .bool true) (by kernel_rfl)
      have gy : yl 1 = some true := hy 1 22 (by kernel_rfl) true g0
      have e7 : ac.tmps[7]? = some (.pointer (some ⟨bx, 0, none⟩)) := (hf 7 (by kernel_rfl)).trans rfl
      obtain ⟨c0, c1⟩ := hJ.cs (bx) (numV a) (by simp)
      clear hf hs hy
      have HJ := hid hJ
      clear hJ
      go_simp
      exact hK.out _ _ (fun d hd => by cases hd; exact Rby.Ex.val (by kernel_rfl)) HJ.out (Below.refl _ _)
    · intro ac V yl K hf hs hy hJ hK
      have g0 := Rby.at_val (hs 22 (by kernel_rfl)) (c := .bool true) (by kernel_rfl)
      have gy : yl 1 = some true := hy 1 22 (by kernel_rfl) true g0
      have e27 := Rby.at_val (hs 27 (by kernel_rfl)) (c := vV (numV b)) (by kernel_rfl)
      have e28 := Rby.at_val (hs 28 (by kernel_rfl)) (c := vV (numV a)) (by kernel_rfl)
      clear hf hs hy
      have HJ := hid hJ
      clear hJ
      go_simp
      exact hK.out _ _ (fun d hd => by cases hd; exact Rby.Ex.sl (l := [numV b, numV a]) (by kernel_rfl) (vsl2 (numV b) (numV a) V)) (HJ.out.alloc _) ((Below.refl _ _).alloc (Nat.le_refl _) _)
    · intro ac V yl K hf hs hy hJ hK
      have g0 := Rby.at_val (hs 22 (by kernel_rfl)) (c := .bool true) (by kernel_rfl)
      have gy : yl 1 = some true := hy 1 22 (by kernel_rfl) true g0
      obtain ⟨sb, e29, hsl⟩ := Rby.at_sl (hs 29 (by kernel_rfl)) (l := [numV b, numV a]) (by kernel_rfl)
      clear hf hs hy
      have HJ := hid hJ
      clear hJ
      have HSL := hid hsl
      clear hsl
      go_simp
      refine (ldo_at 6 [numV b, numV a] _ _ HSL.out).mono ?_
      rintro e V2 ⟨rfl, hb⟩
      rw [E3.out]
      have HB := hid hb
      clear hb
      go_wp2_with fail
      exact hK.out _ _ (fun d hd => by cases hd; exact Rby.Ex.val (by kernel_rfl)) (HJ.out.step HB.out) HB.out
    · intro ac V yl K hf hs hy hJ hK
      have g0 := Rby.at_val (hs 22 (by kernel_rfl)) (c := .bool true) (by kernel_rfl)
      have gy : yl 1 = some true := hy 1 22 (by kernel_rfl) true g0
      have e26 := Rby.at_val (hs 26 (by kernel_rfl)) (c := vV (numV pv)) (by kernel_rfl)
      have e30 := Rby.at_val (hs 30 (by kernel_rfl)) (c := vV (numV pv)) (by kernel_rfl)
      clear hf hs hy
      have HJ := hid hJ
      clear hJ
      go_simp
      exact hK.out _ _ (fun d hd => by cases hd; exact Rby.Ex.val (by kernel_rfl)) HJ.out (Below.refl _ _)
    · intro ac V yl K hf hs hy hJ hK
      have e22 := Rby.at_val (hs 22 (by kernel_rfl)) (c := .bool true) (by kernel_rfl)
      have e31 := Rby.at_val (hs 31 (by kernel_rfl)) (c := .bool true) (by kernel_rfl)
      clear hf hs hy
      have HJ := hid hJ
      clear hJ
      go_simp
      exact hK.out _ _ (fun d hd => by cases hd; exact Rby.Ex.val (by kernel_rfl)) HJ.out (Below.refl _ _)
    · intro ac V yl K hf hs hy hJ hK
      have e32 := Rby.at_val (hs 32 (by kernel_rfl)) (c := .bool true) (by kernel_rfl)
      clear hf hs hy
      have HJ := hid hJ
      clear hJ
      go_simp
      exact hK.out _ _ (fun d hd => by cases hd; exact Rby.Ex.val (by kernel_rfl)) HJ.out (Below.refl _ _)
    · intro ac V yl K hf hs hy hJ hK
      have g0 := Rby.at_val (hs 33 (by kernel_rfl)) (c := .bool true) (by kernel_rfl)
      have gy : yl 12 = some true := hy 12 33 (by kernel_rfl) true g0
      have e7 : ac.tmps[7]? = some (.pointer (some ⟨bx, 0, none⟩)) := (hf 7 (by kernel_rfl)).trans rfl
      obtain ⟨c0, c1⟩ := hJ.cs (bx) (numV a) (by simp)
      clear hf hs hy
      have HJ := hid hJ
      clear hJ
      go_simp
      exact hK.out _ _ (fun d hd => by cases hd; exact Rby.Ex.val (by kernel_rfl)) HJ.out (Below.refl _ _)
    · intro ac V yl K hf hs hy hJ hK
      have g0 := Rby.at_val (hs 33 (by kernel_rfl)) (c := .bool true) (by kernel_rfl)
      have gy : yl 12 = some true := hy 12 33 (by kernel_rfl) true g0
      have e8 : ac.tmps[8]? = some (.pointer (some ⟨by_, 0, none⟩)) := (hf 8 (by kernel_rfl)).trans rfl
      obtain ⟨c0, c1⟩ := hJ.cs (by_) (numV b) (by simp)
      clear hf hs hy
      have HJ := hid hJ
      clear hJ
      go_simp
      exact hK.out _ _ (fun d hd => by cases hd; exact Rby.Ex.val (by kernel_rfl)) HJ.out (Below.refl _ _)
    · intro ac V yl K hf hs hy hJ hK
      have g0 := Rby.at_val (hs 33 (by kernel_rfl)) (c := .bool true) (by kernel_rfl)
      have gy : yl 12 = some true := hy 12 33 (by kernel_rfl) true g0
      have e34 := Rby.at_val (hs 34 (by kernel_rfl)) (c := vV (numV a)) (by kernel_rfl)
      have e35 := Rby.at_val (hs 35 (by kernel_rfl)) (c := vV (numV b)) (by kernel_rfl)
      clear hf hs hy
      have HJ := hid hJ
      clear hJ
      go_simp
      exact hK.out _ _ (fun d hd => by cases hd; exact Rby.Ex.sl (l := [numV a, numV b]) (by kernel_rfl) (vsl2 (numV a) (numV b) V)) (HJ.out.alloc _) ((Below.refl _ _).alloc (Nat.le_refl _) _)
    · intro ac V yl K hf hs hy hJ hK
      have g0 := Rby.at_val (hs 33 (by kernel_rfl)) (c := .bool true) (by kernel_rfl)
      have gy : yl 12 = some true := hy 12 33 (by kernel_rfl) true g0
      obtain ⟨sb, e36, hsl⟩ := Rby.at_sl (hs 36 (by kernel_rfl)) (l := [numV a, numV b]) (by kernel_rfl)
      clear hf hs hy
      have HJ := hid hJ
      clear hJ
      have HSL := hid hsl
      clear hsl
      go_simp
      refine (ldo_at 8 [numV a, numV b] _ _ HSL.out).mono ?_
      rintro e V2 ⟨rfl, hb⟩
      rw [E4.out]
      have HB := hid hb
      clear hb
      go_wp2_with fail
      exact hK.out _ _ (fun d hd => by cases hd; exact Rby.Ex.val (by kernel_rfl)) (HJ.out.step HB.out) HB.out
    · intro ac V yl K hf hs hy hJ hK
      have g0 := Rby.at_val (hs 33 (by kernel_rfl)) (c := .bool true) (by kernel_rfl)
      have gy : yl 12 = some true := hy 12 33 (by kernel_rfl) true g0
      have e8 : ac.tmps[8]? = some (.pointer (some ⟨by_, 0, none⟩)) := (hf 8 (by kernel_rfl)).trans rfl
      obtain ⟨c0, c1⟩ := hJ.cs (by_) (numV b) (by simp)
      clear hf hs hy
      have HJ := hid hJ
      clear hJ
      go_simp
      exact hK.out _ _ (fun d hd => by cases hd; exact Rby.Ex.val (by kernel_rfl)) HJ.out (Below.refl _ _)
    · intro ac V yl K hf hs hy hJ hK
      have g0 := Rby.at_val (hs 33 (by kernel_rfl)) (c := .bool true) (by kernel_rfl)
      have gy : yl 12 = some true := hy 12 33 (by kernel_rfl) true g0
      have e7 : ac.tmps[7]? = some (.pointer (some ⟨bx, 0, none⟩)) := (hf 7 (by kernel_rfl)).trans rfl
      obtain ⟨c0, c1⟩ := hJ.cs (bx) (numV a) (by simp)
      clear hf hs hy
      have HJ := hid hJ
      clear hJ
      go_simp
      exact hK.out _ _ (fun d hd => by cases hd; exact Rby.Ex.val (by kernel_rfl)) HJ.out (Below.refl _ _)
    · intro ac V yl K hf hs hy hJ hK
      have g0 := Rby.at_val (hs 33 (by kernel_rfl)) (c := .bool true) (by kernel_rfl)
      have gy : yl 12 = some true := hy 12 33 (by kernel_rfl) true g0
      have e38 := Rby.at_val (hs 38 (by kernel_rfl)) (c := vV (numV b)) (by kernel_rfl)
      have e39 := Rby.at_val (hs 39 (by kernel_rfl)) (c := vV (numV a)) (by kernel_rfl)
      clear hf hs hy
      have HJ := hid hJ
      clear hJ
      go_simp
      exact hK.out _ _ (fun d hd => by cases hd; exact Rby.Ex.sl (l := [numV b, numV a]) (by kernel_rfl) (vsl2 (numV b) (numV a) V)) (HJ.out.alloc _) ((Below.refl _ _).alloc (Nat.le_refl _) _)
    · intro ac V yl K hf hs hy hJ hK
      have g0 := Rby.at_val (hs 33 (by kernel_rfl)) (c := .bool true) (by kernel_rfl)
      have gy : yl 12 = some true := hy 12 33 (by kernel_rfl) true g0
      obtain ⟨sb, e40, hsl⟩ := Rby.at_sl (hs 40 (by kernel_rfl)) (l := [numV b, numV a]) (by kernel_rfl)
      clear hf hs hy
      have HJ := hid hJ
      clear hJ
      have HSL := hid hsl
      clear hsl
      go_simp
      refine (ldo_at 8 [numV b, numV a] _ _ HSL.out).mono ?_
      rintro e V2 ⟨rfl, hb⟩
      rw [E5.out]
      have HB := hid hb
      clear hb
      go_wp2_with fail
      exact hK.out _ _ (fun d hd => by cases hd; exact Rby.Ex.val (by kernel_rfl)) (HJ.out.step HB.out) HB.out
    · intro ac V yl K hf hs hy hJ hK
      have g0 := Rby.at_val (hs 33 (by kernel_rfl)) (c := .bool true) (by kernel_rfl)
      have gy : yl 12 = some true := hy 12 33 (by kernel_rfl) true g0
      have e37 := Rby.at_val (hs 37 (by kernel_rfl)) (c := vV (numV mv)) (by kernel_rfl)
      have e41 := Rby.at_val (hs 41 (by kernel_rfl)) (c := vV (numV mv)) (by kernel_rfl)
      clear hf hs hy
      have HJ := hid hJ
      clear hJ
      go_simp
      exact hK.out _ _ (fun d hd => by cases hd; exact Rby.Ex.val (by kernel_rfl)) HJ.out (Below.refl _ _)
    · intro ac V yl K hf hs hy hJ hK
      have e33 := Rby.at_val (hs 33 (by kernel_rfl)) (c := .bool true) (by kernel_rfl)
      have e42 := Rby.at_val (hs 42 (by kernel_rfl)) (c := .bool true) (by kernel_rfl)
      clear hf hs hy
      have HJ := hid hJ
      clear hJ
      go_simp
      exact hK.out _ _ (fun d hd => by cases hd; exact Rby.Ex.val (by kernel_rfl)) HJ.out (Below.refl _ _)
    · intro ac V yl K hf hs hy hJ hK
      have e43 := Rby.at_val (hs 43 (by kernel_rfl)) (c := .bool true) (by kernel_rfl)
      clear hf hs hy
      have HJ := hid hJ
      clear hJ
      go_simp
      exact hK.out _ _ (fun d hd => by cases hd; exact Rby.Ex.val (by kernel_rfl)) HJ.out (Below.refl _ _)
    · intro ac V yl K hf hs hy hJ hK
      have g0 := Rby.at_val (hs 44 (by kernel_rfl)) (c := .bool true) (by kernel_rfl)
      have gy : yl 23 = some true := hy 23 44 (by kernel_rfl) true g0
      have e7 : ac.tmps[7]? = some (.pointer (some ⟨bx, 0, none⟩)) := (hf 7 (by kernel_rfl)).trans rfl
      obtain ⟨c0, c1⟩ := hJ.cs (bx) (numV a) (by simp)
      clear hf hs hy
      have HJ := hid hJ
      clear hJ
      go_simp
      exact hK.out _ _ (fun d hd => by cases hd; exact Rby.Ex.val (by kernel_rfl)) HJ.out (Below.refl _ _)
    · intro ac V yl K hf hs hy hJ hK
      have g0 := Rby.at_val (hs 44 (by kernel_rfl)) (c := .bool true) (by kernel_rfl)
      have gy : yl 23 = some true := hy 23 44 (by kernel_rfl) true g0
      have e8 : ac.tmps[8]? = some (.pointer (some ⟨by_, 0, none⟩)) := (hf 8 (by kernel_rfl)).trans rfl
      obtain ⟨c0, c1⟩ := hJ.cs (by_) (numV b) (by simp)
      clear hf hs hy
      have HJ := hid hJ
      clear hJ
      go_simp
      exact hK.out _ _ (fun d hd => by cases hd; exact Rby.Ex.val (by kernel_rfl)) HJ.out (Below.refl _ _)
    · intro ac V yl K hf hs hy hJ hK
      have g0 := Rby.at_val (hs 44 (by kernel_rfl)) (c := .bool true) (by kernel_rfl)
      have gy : yl 23 = some true := hy 23 44 (by kernel_rfl) true g0
      have e45 := Rby.at_val (hs 45 (by kernel_rfl)) (c := vV (numV a)) (by kernel_rfl)
      have e46 := Rby.at_val (hs 46 (by kernel_rfl)) (c := vV (numV b)) (by kernel_rfl)
      clear hf hs hy
      have HJ := hid hJ
      clear hJ
      go_simp
      exact hK.out _ _ (fun d hd => by cases hd; exact Rby.Ex.sl (l := [numV a, numV b]) (by kernel_rfl) (vsl2 (numV a) (numV b) V)) (HJ.out.alloc _) ((Below.refl _ _).alloc (Nat.le_refl _) _)
    · intro ac V yl K hf hs hy hJ hK
      have g0 := Rby.at_val (hs 44 (by kernel_rfl)) (c := .bool true) (by kernel_rfl)
      have gy : yl 23 = some true := hy 23 44 (by kernel_rfl) true g0
      obtain ⟨sb, e47, hsl⟩ := Rby.at_sl (hs 47 (by kernel_rfl)) (l := [numV a, numV b]) (by kernel_rfl)
      clear hf hs hy
      have HJ := hid hJ
      clear hJ
      have HSL := hid hsl
      clear hsl
      go_simp
      refine (ldo_at 6 [numV a, numV b] _ _ HSL.out).mono ?_
      rintro e V2 ⟨rfl, hb⟩
      rw [E2.out]
      have HB := hid hb
      clear hb
      go_wp2_with fail
      exact hK.out _ _ (fun d hd => by cases hd; exact Rby.Ex.val (by kernel_rfl)) (HJ.out.step HB.out) HB.out
    · intro ac V yl K hf hs hy hJ hK
      have g0 := Rby.at_val (hs 44 (by kernel_rfl)) (c := .bool true) (by kernel_rfl)
      have gy : yl 23 = some true := hy 23 44 (by kernel_rfl) true g0
      have e9 : ac.tmps[9]? = some (.pointer (some ⟨bz, 0, none⟩)) := (hf 9 (by kernel_rfl)).trans rfl
      obtain ⟨c0, c1⟩ := hJ.cs (bz) (numV c) (by simp)
      clear hf hs hy
      have HJ := hid hJ
      clear hJ
      go_simp
      exact hK.out _ _ (fun d hd => by cases hd; exact Rby.Ex.val (by kernel_rfl)) HJ.out (Below.refl _ _)
    · intro ac V yl K hf hs hy hJ hK
      have g0 := Rby.at_val (hs 44 (by kernel_rfl)) (c := .bool true) (by kernel_rfl)
      have gy : yl 23 = some true := hy 23 44 (by kernel_rfl) true g0
      have e48 := Rby.at_val (hs 48 (by kernel_rfl)) (c := vV (numV pv)) (by kernel_rfl)
      have e49 := Rby.at_val (hs 49 (by kernel_rfl)) (c := vV (numV c)) (by kernel_rfl)
      clear hf hs hy
      have HJ := hid hJ
      clear hJ
      go_simp
      exact hK.out _ _ (fun d hd => by cases hd; exact Rby.Ex.sl (l := [numV pv, numV c]) (by kernel_rfl) (vsl2 (numV pv) (numV c) V)) (HJ.out.alloc _) ((Below.refl _ _).alloc (Nat.le_refl _) _)
    · intro ac V yl K hf hs hy hJ hK
      have g0 := Rby.at_val (hs 44 (by kernel_rfl)) (c := .bool true) (by kernel_rfl)
      have gy : yl 23 = some true := hy 23 44 (by kernel_rfl) true g0
      obtain ⟨sb, e50, hsl⟩ := Rby.at_sl (hs 50 (by kernel_rfl)) (l := [numV pv, numV c]) (by kernel_rfl)
      clear hf hs hy
      have HJ := hid hJ
      clear hJ
      have HSL := hid hsl
      clear hsl
      go_simp
      refine (ldo_at 6 [numV pv, numV c] _ _ HSL.out).mono ?_
      rintro e V2 ⟨rfl, hb⟩
      rw [E6.out]
      have HB := hid hb
      clear hb
      go_wp2_with fail
      exact hK.out _ _ (fun d hd => by cases hd; exact Rby.Ex.val (by kernel_rfl)) (HJ.out.step HB.out) HB.out
    · intro ac V yl K hf hs hy hJ hK
      have g0 := Rby.at_val (hs 44 (by kernel_rfl)) (c := .bool true) (by kernel_rfl)
      have gy : yl 23 = some true := hy 23 44 (by kernel_rfl) true g0
      have e7 : ac.tmps[7]? = some (.pointer (some ⟨bx, 0, none⟩)) := (hf 7 (by kernel_rfl)).trans rfl
      obtain ⟨c0, c1⟩ := hJ.cs (bx) (numV a) (by simp)
      clear hf hs hy
      have HJ := hid hJ
      clear hJ
      go_simp
      exact hK.out _ _ (fun d hd => by cases hd; exact Rby.Ex.val (by kernel_rfl)) HJ.out (Below.refl _ _)
    · intro ac V yl K hf hs hy hJ hK
      have g0 := Rby.at_val (hs 44 (by kernel_rfl)) (c := .bool true) (by kernel_rfl)
      have gy : yl 23 = some true := hy 23 44 (by kernel_rfl) true g0
      have e10 : ac.tmps[10]? = some (.pointer (some ⟨bs, 0, none⟩)) := (hf 10 (by kernel_rfl)).trans rfl
      obtain ⟨c0, c1⟩ := hJ.cs (bs) (numV sv) (by simp)
      clear hf hs hy
      have HJ := hid hJ
      clear hJ
      go_simp
      exact hK.out _ _ (fun d hd => by cases hd; exact Rby.Ex.val (by kernel_rfl)) HJ.out (Below.refl _ _)
    · intro ac V yl K hf hs hy hJ hK
      have g0 := Rby.at_val (hs 44 (by kernel_rfl)) (c := .bool true) (by kernel_rfl)
      have gy : yl 23 = some true := hy 23 44 (by kernel_rfl) true g0
      have e52 := Rby.at_val (hs 52 (by kernel_rfl)) (c := vV (numV a)) (by kernel_rfl)
      have e53 := Rby.at_val (hs 53 (by kernel_rfl)) (c := vV (numV sv)) (by kernel_rfl)
      clear hf hs hy
      have HJ := hid hJ
      clear hJ
      go_simp
      exact hK.out _ _ (fun d hd => by cases hd; exact Rby.Ex.sl (l := [numV a, numV sv]) (by kernel_rfl) (vsl2 (numV a) (numV sv) V)) (HJ.out.alloc _) ((Below.refl _ _).alloc (Nat.le_refl _) _)
    · intro ac V yl K hf hs hy hJ hK
      have g0 := Rby.at_val (hs 44 (by kernel_rfl)) (c := .bool true) (by kernel_rfl)
      have gy : yl 23 = some true := hy 23 44 (by kernel_rfl) true g0
      obtain ⟨sb, e54, hsl⟩ := Rby.at_sl (hs 54 (by kernel_rfl)) (l := [numV a, numV sv]) (by kernel_rfl)
      clear hf hs hy
      have HJ := hid hJ
      clear hJ
      have HSL := hid hsl
      clear hsl
      go_simp
      refine (ldo_at 6 [numV a, numV sv] _ _ HSL.out).mono ?_
      rintro e V2 ⟨rfl, hb⟩
      rw [E7.out]
      have HB := hid hb
      clear hb
      go_wp2_with fail
      exact hK.out _ _ (fun d hd => by cases hd; exact Rby.Ex.val (by kernel_rfl)) (HJ.out.step HB.out) HB.out
    · intro ac V yl K hf hs hy hJ hK
      have g0 := Rby.at_val (hs 44 (by kernel_rfl)) (c := .bool true) (by kernel_rfl)
      have gy : yl 23 = some true := hy 23 44 (by kernel_rfl) true g0
      have e51 := Rby.at_val (hs 51 (by kernel_rfl)) (c := vV (numV tv)) (by kernel_rfl)
      have e55 := Rby.at_val (hs 55 (by kernel_rfl)) (c := vV (numV tv)) (by kernel_rfl)
      clear hf hs hy
      have HJ := hid hJ
      clear hJ
      go_simp
      exact hK.out _ _ (fun d hd => by cases hd; exact Rby.Ex.val (by kernel_rfl)) HJ.out (Below.refl _ _)
    · intro ac V yl K hf hs hy hJ hK
      have e44 := Rby.at_val (hs 44 (by kernel_rfl)) (c := .bool true) (by kernel_rfl)
      have e56 := Rby.at_val (hs 56 (by kernel_rfl)) (c := .bool true) (by kernel_rfl)
      clear hf hs hy
      have HJ := hid hJ
      clear hJ
      go_simp
      exact hK.out _ _ (fun d hd => by cases hd; exact Rby.Ex.val (by kernel_rfl)) HJ.out (Below.refl _ _)
    · intro ac V yl K hf hs hy hJ hK
      have e57 := Rby.at_val (hs 57 (by kernel_rfl)) (c := .bool true) (by kernel_rfl)
      clear hf hs hy
      have HJ := hid hJ
      clear hJ
      go_simp
      exact hK.out _ _ (fun d hd => by cases hd; exact Rby.Ex.val (by kernel_rfl)) HJ.out (Below.refl _ _)
    · intro ac V yl K hf hs hy hJ hK
      have g0 := Rby.at_val (hs 58 (by kernel_rfl)) (c := .bool true) (by kernel_rfl)
      have gy : yl 37 = some true := hy 37 58 (by kernel_rfl) true g0
      have e7 : ac.tmps[7]? = some (.pointer (some ⟨bx, 0, none⟩)) := (hf 7 (by kernel_rfl)).trans rfl
      obtain ⟨c0, c1⟩ := hJ.cs (bx) (numV a) (by simp)
      clear hf hs hy
      have HJ := hid hJ
      clear hJ
      go_simp
      exact hK.out _ _ (fun d hd => by cases hd; exact Rby.Ex.val (by kernel_rfl)) HJ.out (Below.refl _ _)
    · intro ac V yl K hf hs hy hJ hK
      have g0 := Rby.at_val (hs 58 (by kernel_rfl)) (c := .bool true) (by kernel_rfl)
      have gy : yl 37 = some true := hy 37 58 (by kernel_rfl) true g0
      have e8 : ac.tmps[8]? = some (.pointer (some ⟨by_, 0, none⟩)) := (hf 8 (by kernel_rfl)).trans rfl
      obtain ⟨c0, c1⟩ := hJ.cs (by_) (numV b) (by simp)
      clear hf hs hy
      have HJ := hid hJ
      clear hJ
      go_simp
      exact hK.out _ _ (fun d hd => by cases hd; exact Rby.Ex.val (by kernel_rfl)) HJ.out (Below.refl _ _)
    · intro ac V yl K hf hs hy hJ hK
      have g0 := Rby.at_val (hs 58 (by kernel_rfl)) (c := .bool true) (by kernel_rfl)
      have gy : yl 37 = some true := hy 37 58 (by kernel_rfl) true g0
      have e59 := Rby.at_val (hs 59 (by kernel_rfl)) (c := vV (numV a)) (by kernel_rfl)
      have e60 := Rby.at_val (hs 60 (by kernel_rfl)) (c := vV (numV b)) (by kernel_rfl)
      clear hf hs hy
      have HJ := hid hJ
      clear hJ
      go_simp
      exact hK.out _ _ (fun d hd => by cases hd; exact Rby.Ex.sl (l := [numV a, numV b]) (by kernel_rfl) (vsl2 (numV a) (numV b) V)) (HJ.out.alloc _) ((Below.refl _ _).alloc (Nat.le_refl _) _)
    · intro ac V yl K hf hs hy hJ hK
      have g0 := Rby.at_val (hs 58 (by kernel_rfl)) (c := .bool true) (by kernel_rfl)
      have gy : yl 37 = some true := hy 37 58 (by kernel_rfl) true g0
      obtain ⟨sb, e61, hsl⟩ := Rby.at_sl (hs 61 (by kernel_rfl)) (l := [numV a, numV b]) (by kernel_rfl)
      clear hf hs hy
      have HJ := hid hJ
      clear hJ
      have HSL := hid hsl
      clear hsl
      go_simp
      refine (ldo_at 8 [numV a, numV b] _ _ HSL.out).mono ?_
      rintro e V2 ⟨rfl, hb⟩
      rw [E4.out]
      have HB := hid hb
      clear hb
      go_wp2_with fail
      exact hK.out _ _ (fun d hd => by cases hd; exact Rby.Ex.val (by kernel_rfl)) (HJ.out.step HB.out) HB.out
    · intro ac V yl K hf hs hy hJ hK
      have g0 := Rby.at_val (hs 58 (by kernel_rfl)) (c := .bool true) (by kernel_rfl)
      have gy : yl 37 = some true := hy 37 58 (by kernel_rfl) true g0
      have e9 : ac.tmps[9]? = some (.pointer (some ⟨bz, 0, none⟩)) := (hf 9 (by kernel_rfl)).trans rfl
      obtain ⟨c0, c1⟩ := hJ.cs (bz) (numV c) (by simp)
      clear hf hs hy
      have HJ := hid hJ
      clear hJ
      go_simp
      exact hK.out _ _ (fun d hd => by cases hd; exact Rby.Ex.val (by kernel_rfl)) HJ.out (Below.refl _ _)
    · intro ac V yl K hf hs hy hJ hK
      have g0 := Rby.at_val (hs 58 (by kernel_rfl)) (c := .bool true) (by kernel_rfl)
      have gy : yl 37 = some true := hy 37 58 (by kernel_rfl) true g0
      have e62 := Rby.at_val (hs 62 (by kernel_rfl)) (c := vV (numV mv)) (by kernel_rfl)
      have e63 := Rby.at_val (hs 63 (by kernel_rfl)) (c := vV (numV c)) (by kernel_rfl)
      clear hf hs hy
      have HJ := hid hJ
      clear hJ
      go_simp
      exact hK.out _ _ (fun d hd => by cases hd; exact Rby.Ex.sl (l := [numV mv, numV c]) (by kernel_rfl) (vsl2 (numV mv) (numV c) V)) (HJ.out.alloc _) ((Below.refl _ _).alloc (Nat.le_refl _) _)
    · intro ac V yl K hf hs hy hJ hK
      have g0 := Rby.at_val (hs 58 (by kernel_rfl)) (c := .bool true) (by kernel_rfl)
      have gy : yl 37 = some true := hy 37 58 (by kernel_rfl) true g0
      obtain ⟨sb, e64, hsl⟩ := Rby.at_sl (hs 64 (by kernel_rfl)) (l := [numV mv, numV c]) (by kernel_rfl)
      clear hf hs hy
      have HJ := hid hJ
      clear hJ
      have HSL := hid hsl
      clear hsl
      go_simp
      refine (ldo_at 8 [numV mv, numV c] _ _ HSL.out).mono ?_
      rintro e V2 ⟨rfl, hb⟩
      rw [E8.out]
      have HB := hid hb
      clear hb
      go_wp2_with fail
      exact hK.out _ _ (fun d hd => by cases hd; exact Rby.Ex.val (by kernel_rfl)) (HJ.out.step HB.out) HB.out
    · intro ac V yl K hf hs hy hJ hK
      have g0 := Rby.at_val (hs 58 (by kernel_rfl)) (c := .bool true) (by kernel_rfl)
      have gy : yl 37 = some true := hy 37 58 (by kernel_rfl) true g0
      have e7 : ac.tmps[7]? = some (.pointer (some ⟨bx, 0, none⟩)) := (hf 7 (by kernel_rfl)).trans rfl
      obtain ⟨c0, c1⟩ := hJ.cs (bx) (numV a) (by simp)
      clear hf hs hy
      have HJ := hid hJ
      clear hJ
      go_simp
      exact hK.out _ _ (fun d hd => by cases hd; exact Rby.Ex.val (by kernel_rfl)) HJ.out (Below.refl _ _)
    · intro ac V yl K hf hs hy hJ hK
      have g0 := Rby.at_val (hs 58 (by kernel_rfl)) (c := .bool true) (by kernel_rfl)
      have gy : yl 37 = some true := hy 37 58 (by kernel_rfl) true g0
      have e8 : ac.tmps[8]? = some (.pointer (some ⟨by_, 0, none⟩)) := (hf 8 (by kernel_rfl)).trans rfl
      obtain ⟨c0, c1⟩ := hJ.cs (by_) (numV b) (by simp)
      clear hf hs hy
      have HJ := hid hJ
      clear hJ
      go_simp
      exact hK.out _ _ (fun d hd => by cases hd; exact Rby.Ex.val (by kernel_rfl)) HJ.out (Below.refl _ _)
    · intro ac V yl K hf hs hy hJ hK
      have g0 := Rby.at_val (hs 58 (by kernel_rfl)) (c := .bool true) (by kernel_rfl)
      have gy : yl 37 = some true := hy 37 58 (by kernel_rfl) true g0
      have e9 : ac.tmps[9]? = some (.pointer (some ⟨bz, 0, none⟩)) := (hf 9 (by kernel_rfl)).trans rfl
      obtain ⟨c0, c1⟩ := hJ.cs (bz) (numV c) (by simp)
      clear hf hs hy
      have HJ := hid hJ
      clear hJ
      go_simp
      exact hK.out _ _ (fun d hd => by cases hd; exact Rby.Ex.val (by kernel_rfl)) HJ.out (Below.refl _ _)
    · intro ac V yl K hf hs hy hJ hK
      have g0 := Rby.at_val (hs 58 (by kernel_rfl)) (c := .bool true) (by kernel_rfl)
      have gy : yl 37 = some true := hy 37 58 (by kernel_rfl) true g0
      have e67 := Rby.at_val (hs 67 (by kernel_rfl)) (c := vV (numV b)) (by kernel_rfl)
      have e68 := Rby.at_val (hs 68 (by kernel_rfl)) (c := vV (numV c)) (by kernel_rfl)
      clear hf hs hy
      have HJ := hid hJ
      clear hJ
      go_simp
      exact hK.out _ _ (fun d hd => by cases hd; exact Rby.Ex.sl (l := [numV b, numV c]) (by kernel_rfl) (vsl2 (numV b) (numV c) V)) (HJ.out.alloc _) ((Below.refl _ _).alloc (Nat.le_refl _) _)
    · intro ac V yl K hf hs hy hJ hK
      have g0 := Rby.at_val (hs 58 (by kernel_rfl)) (c := .bool true) (by kernel_rfl)
      have gy : yl 37 = some true := hy 37 58 (by kernel_rfl) true g0
      obtain ⟨sb, e69, hsl⟩ := Rby.at_sl (hs 69 (by kernel_rfl)) (l := [numV b, numV c]) (by kernel_rfl)
      clear hf hs hy
      have HJ := hid hJ
      clear hJ
      have HSL := hid hsl
      clear hsl
      go_simp
      refine (ldo_at 8 [numV b, numV c] _ _ HSL.out).mono ?_
      rintro e V2 ⟨rfl, hb⟩
      rw [E9.out]
      have HB := hid hb
      clear hb
      go_wp2_with fail
      exact hK.out _ _ (fun d hd => by cases hd; exact Rby.Ex.val (by kernel_rfl)) (HJ.out.step HB.out) HB.out
    · intro ac V yl K hf hs hy hJ hK
      have g0 := Rby.at_val (hs 58 (by kernel_rfl)) (c := .bool true) (by kernel_rfl)
      have gy : yl 37 = some true := hy 37 58 (by kernel_rfl) true g0
      have e66 := Rby.at_val (hs 66 (by kernel_rfl)) (c := vV (numV a)) (by kernel_rfl)
      have e70 := Rby.at_val (hs 70 (by kernel_rfl)) (c := vV (numV yv)) (by kernel_rfl)
      clear hf hs hy
      have HJ := hid hJ
      clear hJ
      go_simp
      exact hK.out _ _ (fun d hd => by cases hd; exact Rby.Ex.sl (l := [numV a, numV yv]) (by kernel_rfl) (vsl2 (numV a) (numV yv) V)) (HJ.out.alloc _) ((Below.refl _ _).alloc (Nat.le_refl _) _)
    · intro ac V yl K hf hs hy hJ hK
      have g0 := Rby.at_val (hs 58 (by kernel_rfl)) (c := .bool true) (by kernel_rfl)
      have gy : yl 37 = some true := hy 37 58 (by kernel_rfl) true g0
      obtain ⟨sb, e71, hsl⟩ := Rby.at_sl (hs 71 (by kernel_rfl)) (l := [numV a, numV yv]) (by kernel_rfl)
      clear hf hs hy
      have HJ := hid hJ
      clear hJ
      have HSL := hid hsl
      clear hsl
      go_simp
      refine (ldo_at 8 [numV a, numV yv] _ _ HSL.out).mono ?_
      rintro e V2 ⟨rfl, hb⟩
      rw [E10.out]
      have HB := hid hb
      clear hb
      go_wp2_with fail
      exact hK.out _ _ (fun d hd => by cases hd; exact Rby.Ex.val (by kernel_rfl)) (HJ.out.step HB.out) HB.out
    · intro ac V yl K hf hs hy hJ hK
      have g0 := Rby.at_val (hs 58 (by kernel_rfl)) (c := .bool true) (by kernel_rfl)
      have gy : yl 37 = some true := hy 37 58 (by kernel_rfl) true g0
      have e65 := Rby.at_val (hs 65 (by kernel_rfl)) (c := vV (numV qv)) (by kernel_rfl)
      have e72 := Rby.at_val (hs 72 (by kernel_rfl)) (c := vV (numV qv)) (by kernel_rfl)
      clear hf hs hy
      have HJ := hid hJ
      clear hJ
      go_simp
      exact hK.out _ _ (fun d hd => by cases hd; exact Rby.Ex.val (by kernel_rfl)) HJ.out (Below.refl _ _)
    · intro ac V yl K hf hs hy hJ hK
      have e58 := Rby.at_val (hs 58 (by kernel_rfl)) (c := .bool true) (by kernel_rfl)
      have e73 := Rby.at_val (hs 73 (by kernel_rfl)) (c := .bool true) (by kernel_rfl)
      clear hf hs hy
      have HJ := hid hJ
      clear hJ
      go_simp
      exact hK.out _ _ (fun d hd => by cases hd; exact Rby.Ex.val (by kernel_rfl)) HJ.out (Below.refl _ _)
    · intro ac V yl K hf hs hy hJ hK
      have e74 := Rby.at_val (hs 74 (by kernel_rfl)) (c := .bool true) (by kernel_rfl)
      clear hf hs hy
      have HJ := hid hJ
      clear hJ
      go_simp
      exact hK.out _ _ (fun d hd => by cases hd; exact Rby.Ex.val (by kernel_rfl)) HJ.out (Below.refl _ _)
    · intro ac V yl K hf hs hy hJ hK
      have g0 := Rby.at_val (hs 75 (by kernel_rfl)) (c := .bool true) (by kernel_rfl)
      have gy : yl 54 = some true := hy 54 75 (by kernel_rfl) true g0
      have e7 : ac.tmps[7]? = some (.pointer (some ⟨bx, 0, none⟩)) := (hf 7 (by kernel_rfl)).trans rfl
      obtain ⟨c0, c1⟩ := hJ.cs (bx) (numV a) (by simp)
      clear hf hs hy
      have HJ := hid hJ
      clear hJ
      go_simp
      exact hK.out _ _ (fun d hd => by cases hd; exact Rby.Ex.val (by kernel_rfl)) HJ.out (Below.refl _ _)
    · intro ac V yl K hf hs hy hJ hK
      have g0 := Rby.at_val (hs 75 (by kernel_rfl)) (c := .bool true) (by kernel_rfl)
      have gy : yl 54 = some true := hy 54 75 (by kernel_rfl) true g0
      have e10 : ac.tmps[10]? = some (.pointer (some ⟨bs, 0, none⟩)) := (hf 10 (by kernel_rfl)).trans rfl
      obtain ⟨c0, c1⟩ := hJ.cs (bs) (numV sv) (by simp)
      clear hf hs hy
      have HJ := hid hJ
      clear hJ
      go_simp
      exact hK.out _ _ (fun d hd => by cases hd; exact Rby.Ex.val (by kernel_rfl)) HJ.out (Below.refl _ _)
    · intro ac V yl K hf hs hy hJ hK
      have g0 := Rby.at_val (hs 75 (by kernel_rfl)) (c := .bool true) (by kernel_rfl)
      have gy : yl 54 = some true := hy 54 75 (by kernel_rfl) true g0
      have e76 := Rby.at_val (hs 76 (by kernel_rfl)) (c := vV (numV a)) (by kernel_rfl)
      have e77 := Rby.at_val (hs 77 (by kernel_rfl)) (c := vV (numV sv)) (by kernel_rfl)
      clear hf hs hy
      have HJ := hid hJ
      clear hJ
      go_simp
      exact hK.out _ _ (fun d hd => by cases hd; exact Rby.Ex.sl (l := [numV a, numV sv]) (by kernel_rfl) (vsl2 (numV a) (numV sv) V)) (HJ.out.alloc _) ((Below.refl _ _).alloc (Nat.le_refl _) _)
    · intro ac V yl K hf hs hy hJ hK
      have g0 := Rby.at_val (hs 75 (by kernel_rfl)) (c := .bool true) (by kernel_rfl)
      have gy : yl 54 = some true := hy 54 75 (by kernel_rfl) true g0
      obtain ⟨sb, e78, hsl⟩ := Rby.at_sl (hs 78 (by kernel_rfl)) (l := [numV a, numV sv]) (by kernel_rfl)
      clear hf hs hy
      have HJ := hid hJ
      clear hJ
      have HSL := hid hsl
      clear hsl
      go_simp
      refine (ldo_at 8 [numV a, numV sv] _ _ HSL.out).mono ?_
      rintro e V2 ⟨rfl, hb⟩
      rw [E11.out]
      have HB := hid hb
      clear hb
      go_wp2_with fail
      exact hK.out _ _ (fun d hd => by cases hd; exact Rby.Ex.val (by kernel_rfl)) (HJ.out.step HB.out) HB.out
    · intro ac V yl K hf hs hy hJ hK
      have g0 := Rby.at_val (hs 75 (by kernel_rfl)) (c := .bool true) (by kernel_rfl)
      have gy : yl 54 = some true := hy 54 75 (by kernel_rfl) true g0
      have e7 : ac.tmps[7]? = some (.pointer (some ⟨bx, 0, none⟩)) := (hf 7 (by kernel_rfl)).trans rfl
      obtain ⟨c0, c1⟩ := hJ.cs (bx) (numV a) (by simp)
      clear hf hs hy
      have HJ := hid hJ
      clear hJ
      go_simp
      exact hK.out _ _ (fun d hd => by cases hd; exact Rby.Ex.val (by kernel_rfl)) HJ.out (Below.refl _ _)
    · intro ac V yl K hf hs hy hJ hK
      have g0 := Rby.at_val (hs 75 (by kernel_rfl)) (c := .bool true) (by kernel_rfl)
      have gy : yl 54 = some true := hy 54 75 (by kernel_rfl) true g0
      have e8 : ac.tmps[8]? = some (.pointer (some ⟨by_, 0, none⟩)) := (hf 8 (by kernel_rfl)).trans rfl
      obtain ⟨c0, c1⟩ := hJ.cs (by_) (numV b) (by simp)
      clear hf hs hy
      have HJ := hid hJ
      clear hJ
      go_simp
      exact hK.out _ _ (fun d hd => by cases hd; exact Rby.Ex.val (by kernel_rfl)) HJ.out (Below.refl _ _)
    · intro ac V yl K hf hs hy hJ hK
      have g0 := Rby.at_val (hs 75 (by kernel_rfl)) (c := .bool true) (by kernel_rfl)
      have gy : yl 54 = some true := hy 54 75 (by kernel_rfl) true g0
      have e80 := Rby.at_val (hs 80 (by kernel_rfl)) (c := vV (numV a)) (by kernel_rfl)
      have e81 := Rby.at_val (hs 81 (by kernel_rfl)) (c := vV (numV b)) (by kernel_rfl)
      clear hf hs hy
      have HJ := hid hJ
      clear hJ
      go_simp
      exact hK.out _ _ (fun d hd => by cases hd; exact Rby.Ex.sl (l := [numV a, numV b]) (by kernel_rfl) (vsl2 (numV a) (numV b) V)) (HJ.out.alloc _) ((Below.refl _ _).alloc (Nat.le_refl _) _)
    · intro ac V yl K hf hs hy hJ hK
      have g0 := Rby.at_val (hs 75 (by kernel_rfl)) (c := .bool true) (by kernel_rfl)
      have gy : yl 54 = some true := hy 54 75 (by kernel_rfl) true g0
      obtain ⟨sb, e82, hsl⟩ := Rby.at_sl (hs 82 (by kernel_rfl)) (l := [numV a, numV b]) (by kernel_rfl)
      clear hf hs hy
      have HJ := hid hJ
      clear hJ
      have HSL := hid hsl
      clear hsl
      go_simp
      refine (ldo_at 8 [numV a, numV b] _ _ HSL.out).mono ?_
      rintro e V2 ⟨rfl, hb⟩
      rw [E4.out]
      have HB := hid hb
      clear hb
      go_wp2_with fail
      exact hK.out _ _ (fun d hd => by cases hd; exact Rby.Ex.val (by kernel_rfl)) (HJ.out.step HB.out) HB.out
    · intro ac V yl K hf hs hy hJ hK
      have g0 := Rby.at_val (hs 75 (by kernel_rfl)) (c := .bool true) (by kernel_rfl)
      have gy : yl 54 = some true := hy 54 75 (by kernel_rfl) true g0
      have e7 : ac.tmps[7]? = some (.pointer (some ⟨bx, 0, none⟩)) := (hf 7 (by kernel_rfl)).trans rfl
      obtain ⟨c0, c1⟩ := hJ.cs (bx) (numV a) (by simp)
      clear hf hs hy
      have HJ := hid hJ
      clear hJ
      go_simp
      exact hK.out _ _ (fun d hd => by cases hd; exact Rby.Ex.val (by kernel_rfl)) HJ.out (Below.refl _ _)
    · intro ac V yl K hf hs hy hJ hK
      have g0 := Rby.at_val (hs 75 (by kernel_rfl)) (c := .bool true) (by kernel_rfl)
      have gy : yl 54 = some true := hy 54 75 (by kernel_rfl) true g0
      have e9 : ac.tmps[9]? = some (.pointer (some ⟨bz, 0, none⟩)) := (hf 9 (by kernel_rfl)).trans rfl
      obtain ⟨c0, c1⟩ := hJ.cs (bz) (numV c) (by simp)
      clear hf hs hy
      have HJ := hid hJ
      clear hJ
      go_simp
      exact hK.out _ _ (fun d hd => by cases hd; exact Rby.Ex.val (by kernel_rfl)) HJ.out (Below.refl _ _)
    · intro ac V yl K hf hs hy hJ hK
      have g0 := Rby.at_val (hs 75 (by kernel_rfl)) (c := .bool true) (by kernel_rfl)
      have gy : yl 54 = some true := hy 54 75 (by kernel_rfl) true g0
      have e84 := Rby.at_val (hs 84 (by kernel_rfl)) (c := vV (numV a)) (by kernel_rfl)
      have e85 := Rby.at_val (hs 85 (by kernel_rfl)) (c := vV (numV c)) (by kernel_rfl)
      clear hf hs hy
      have HJ := hid hJ
      clear hJ
      go_simp
      exact hK.out _ _ (fun d hd => by cases hd; exact Rby.Ex.sl (l := [numV a, numV c]) (by kernel_rfl) (vsl2 (numV a) (numV c) V)) (HJ.out.alloc _) ((Below.refl _ _).alloc (Nat.le_refl _) _)
    · intro ac V yl K hf hs hy hJ hK
      have g0 := Rby.at_val (hs 75 (by kernel_rfl)) (c := .bool true) (by kernel_rfl)
      have gy : yl 54 = some true := hy 54 75 (by kernel_rfl) true g0
      obtain ⟨sb, e86, hsl⟩ := Rby.at_sl (hs 86 (by kernel_rfl)) (l := [numV a, numV c]) (by kernel_rfl)
      clear hf hs hy
      have HJ := hid hJ
      clear hJ
      have HSL := hid hsl
      clear hsl
      go_simp
      refine (ldo_at 8 [numV a, numV c] _ _ HSL.out).mono ?_
      rintro e V2 ⟨rfl, hb⟩
      rw [E12.out]
      have HB := hid hb
      clear hb
      go_wp2_with fail
      exact hK.out _ _ (fun d hd => by cases hd; exact Rby.Ex.val (by kernel_rfl)) (HJ.out.step HB.out) HB.out
    · intro ac V yl K hf hs hy hJ hK
      have g0 := Rby.at_val (hs 75 (by kernel_rfl)) (c := .bool true) (by kernel_rfl)
      have gy : yl 54 = some true := hy 54 75 (by kernel_rfl) true g0
      have e83 := Rby.at_val (hs 83 (by kernel_rfl)) (c := vV (numV mv)) (by kernel_rfl)
      have e87 := Rby.at_val (hs 87 (by kernel_rfl)) (c := vV (numV xv)) (by kernel_rfl)
      clear hf hs hy
      have HJ := hid hJ
      clear hJ
      go_simp
      exact hK.out _ _ (fun d hd => by cases hd; exact Rby.Ex.sl (l := [numV mv, numV xv]) (by kernel_rfl) (vsl2 (numV mv) (numV xv) V)) (HJ.out.alloc _) ((Below.refl _ _).alloc (Nat.le_refl _) _)
    · intro ac V yl K hf hs hy hJ hK
      have g0 := Rby.at_val (hs 75 (by kernel_rfl)) (c := .bool true) (by kernel_rfl)
      have gy : yl 54 = some true := hy 54 75 (by kernel_rfl) true g0
      obtain ⟨sb, e88, hsl⟩ := Rby.at_sl (hs 88 (by kernel_rfl)) (l := [numV mv, numV xv]) (by kernel_rfl)
      clear hf hs hy
      have HJ := hid hJ
      clear hJ
      have HSL := hid hsl
      clear hsl
      go_simp
      refine (ldo_at 6 [numV mv, numV xv] _ _ HSL.out).mono ?_
      rintro e V2 ⟨rfl, hb⟩
      rw [E13.out]
      have HB := hid hb
      clear hb
      go_wp2_with fail
      exact hK.out _ _ (fun d hd => by cases hd; exact Rby.Ex.val (by kernel_rfl)) (HJ.out.step HB.out) HB.out
    · intro ac V yl K hf hs hy hJ hK
      have g0 := Rby.at_val (hs 75 (by kernel_rfl)) (c := .bool true) (by kernel_rfl)
      have gy : yl 54 = some true := hy 54 75 (by kernel_rfl) true g0
      have e79 := Rby.at_val (hs 79 (by kernel_rfl)) (c := vV (numV dv)) (by kernel_rfl)
      have e89 := Rby.at_val (hs 89 (by kernel_rfl)) (c := vV (numV dv)) (by kernel_rfl)
      clear hf hs hy
      have HJ := hid hJ
      clear hJ
      go_simp
      exact hK.out _ _ (fun d hd => by cases hd; exact Rby.Ex.val (by kernel_rfl)) HJ.out (Below.refl _ _)
    · intro ac V yl K hf hs hy hJ hK
      have e75 := Rby.at_val (hs 75 (by kernel_rfl)) (c := .bool true) (by kernel_rfl)
      have e90 := Rby.at_val (hs 90 (by kernel_rfl)) (c := .bool true) (by kernel_rfl)
      clear hf hs hy
      have HJ := hid hJ
      clear hJ
      go_simp
      exact hK.out _ _ (fun d hd => by cases hd; exact Rby.Ex.val (by kernel_rfl)) HJ.out (Below.refl _ _)
    · intro ac V yl K hf hs hy hJ hK
      have e91 := Rby.at_val (hs 91 (by kernel_rfl)) (c := .bool true) (by kernel_rfl)
      clear hf hs hy
      have HJ := hid hJ
      clear hJ
      go_simp
      exact hK.out _ _ (fun d hd => by cases hd; exact Rby.Ex.val (by kernel_rfl)) HJ.out (Below.refl _ _)
    · intro ac V yl K hf hs hy hJ hK
      have g0 := Rby.at_val (hs 92 (by kernel_rfl)) (c := .bool true) (by kernel_rfl)
      have gy : yl 71 = some true := hy 71 92 (by kernel_rfl) true g0
      have e7 : ac.tmps[7]? = some (.pointer (some ⟨bx, 0, none⟩)) := (hf 7 (by kernel_rfl)).trans rfl
      obtain ⟨c0, c1⟩ := hJ.cs (bx) (numV a) (by simp)
      clear hf hs hy
      have HJ := hid hJ
      clear hJ
      go_simp
      exact hK.out _ _ (fun d hd => by cases hd; exact Rby.Ex.val (by kernel_rfl)) HJ.out (Below.refl _ _)
    · intro ac V yl K hf hs hy hJ hK
      have g0 := Rby.at_val (hs 92 (by kernel_rfl)) (c := .bool true) (by kernel_rfl)
      have gy : yl 71 = some true := hy 71 92 (by kernel_rfl) true g0
      clear hf hs hy
      have HJ := hid hJ
      clear hJ
      go_simp
      refine (lnumber_at _ _).mono ?_
      rintro e V2 ⟨rfl, hb⟩
      have HB := hid hb
      clear hb
      go_wp2_with fail
      exact hK.out _ _ (fun d hd => by cases hd; exact Rby.Ex.val (by kernel_rfl)) (HJ.out.step HB.out) HB.out
    · intro ac V yl K hf hs hy hJ hK
      have g0 := Rby.at_val (hs 92 (by kernel_rfl)) (c := .bool true) (by kernel_rfl)
      have gy : yl 71 = some true := hy 71 92 (by kernel_rfl) true g0
      have e93 := Rby.at_val (hs 93 (by kernel_rfl)) (c := vV (numV a)) (by kernel_rfl)
      have e94 := Rby.at_val (hs 94 (by kernel_rfl)) (c := vV (numV 0)) (by kernel_rfl)
      clear hf hs hy
      have HJ := hid hJ
      clear hJ
      go_simp
      exact hK.out _ _ (fun d hd => by cases hd; exact Rby.Ex.sl (l := [numV a, numV 0]) (by kernel_rfl) (vsl2 (numV a) (numV 0) V)) (HJ.out.alloc _) ((Below.refl _ _).alloc (Nat.le_refl _) _)
    · intro ac V yl K hf hs hy hJ hK
      have g0 := Rby.at_val (hs 92 (by kernel_rfl)) (c := .bool true) (by kernel_rfl)
      have gy : yl 71 = some true := hy 71 92 (by kernel_rfl) true g0
      obtain ⟨sb, e95, hsl⟩ := Rby.at_sl (hs 95 (by kernel_rfl)) (l := [numV a, numV 0]) (by kernel_rfl)
      clear hf hs hy
      have HJ := hid hJ
      clear hJ
      have HSL := hid hsl
      clear hsl
      go_simp
      refine (ldo_at 6 [numV a, numV 0] _ _ HSL.out).mono ?_
      rintro e V2 ⟨rfl, hb⟩
      rw [E14.out]
      have HB := hid hb
      clear hb
      go_wp2_with fail
      exact hK.out _ _ (fun d hd => by cases hd; exact Rby.Ex.val (by kernel_rfl)) (HJ.out.step HB.out) HB.out
    · intro ac V yl K hf hs hy hJ hK
      have g0 := Rby.at_val (hs 92 (by kernel_rfl)) (c := .bool true) (by kernel_rfl)
      have gy : yl 71 = some true := hy 71 92 (by kernel_rfl) true g0
      have e7 : ac.tmps[7]? = some (.pointer (some ⟨bx, 0, none⟩)) := (hf 7 (by kernel_rfl)).trans rfl
      obtain ⟨c0, c1⟩ := hJ.cs (bx) (numV a) (by simp)
      clear hf hs hy
      have HJ := hid hJ
      clear hJ
      go_simp
      exact hK.out _ _ (fun d hd => by cases hd; exact Rby.Ex.val (by kernel_rfl)) HJ.out (Below.refl _ _)
    · intro ac V yl K hf hs hy hJ hK
      have g0 := Rby.at_val (hs 92 (by kernel_rfl)) (c := .bool true) (by kernel_rfl)
      have gy : yl 71 = some true := hy 71 92 (by kernel_rfl) true g0
      have e96 := Rby.at_val (hs 96 (by kernel_rfl)) (c := vV (numV a)) (by kernel_rfl)
      have e97 := Rby.at_val (hs 97 (by kernel_rfl)) (c := vV (numV a)) (by kernel_rfl)
      clear hf hs hy
      have HJ := hid hJ
      clear hJ
      go_simp
      exact hK.out _ _ (fun d hd => by cases hd; exact Rby.Ex.val (by kernel_rfl)) HJ.out (Below.refl _ _)
    · intro ac V yl K hf hs hy hJ hK
      have e92 := Rby.at_val (hs 92 (by kernel_rfl)) (c := .bool true) (by kernel_rfl)
      have e98 := Rby.at_val (hs 98 (by kernel_rfl)) (c := .bool true) (by kernel_rfl)
      clear hf hs hy
      have HJ := hid hJ
      clear hJ
      go_simp
      exact hK.out _ _ (fun d hd => by cases hd; exact Rby.Ex.val (by kernel_rfl)) HJ.out (Below.refl _ _)
    · intro ac V yl K hf hs hy hJ hK
      have e99 := Rby.at_val (hs 99 (by kernel_rfl)) (c := .bool true) (by kernel_rfl)
      clear hf hs hy
      have HJ := hid hJ
      clear hJ
      go_simp
      exact hK.out _ _ (fun d hd => by cases hd; exact Rby.Ex.val (by kernel_rfl)) HJ.out (Below.refl _ _)
    · intro ac V yl K hf hs hy hJ hK
      have g0 := Rby.at_val (hs 100 (by kernel_rfl)) (c := .bool true) (by kernel_rfl)
      have gy : yl 79 = some true := hy 79 100 (by kernel_rfl) true g0
      have e7 : ac.tmps[7]? = some (.pointer (some ⟨bx, 0, none⟩)) := (hf 7 (by kernel_rfl)).trans rfl
      obtain ⟨c0, c1⟩ := hJ.cs (bx) (numV a) (by simp)
      clear hf hs hy
      have HJ := hid hJ
      clear hJ
      go_simp
      exact hK.out _ _ (fun d hd => by cases hd; exact Rby.Ex.val (by kernel_rfl)) HJ.out (Below.refl _ _)
    · intro ac V yl K hf hs hy hJ hK
      have g0 := Rby.at_val (hs 100 (by kernel_rfl)) (c := .bool true) (by kernel_rfl)
      have gy : yl 79 = some true := hy 79 100 (by kernel_rfl) true g0
      clear hf hs hy
      have HJ := hid hJ
      clear hJ
      go_simp
      refine (lnumber_at _ _).mono ?_
      rintro e V2 ⟨rfl, hb⟩
      have HB := hid hb
      clear hb
      go_wp2_with fail
      exact hK.out _ _ (fun d hd => by cases hd; exact Rby.Ex.val (by kernel_rfl)) (HJ.out.step HB.out) HB.out
    · intro ac V yl K hf hs hy hJ hK
      have g0 := Rby.at_val (hs 100 (by kernel_rfl)) (c := .bool true) (by kernel_rfl)
      have gy : yl 79 = some true := hy 79 100 (by kernel_rfl) true g0
      have e101 := Rby.at_val (hs 101 (by kernel_rfl)) (c := vV (numV a)) (by kernel_rfl)
      have e102 := Rby.at_val (hs 102 (by kernel_rfl)) (c := vV (numV 1)) (by kernel_rfl)
      clear hf hs hy
      have HJ := hid hJ
      clear hJ
      go_simp
      exact hK.out _ _ (fun d hd => by cases hd; exact Rby.Ex.sl (l := [numV a, numV 1]) (by kernel_rfl) (vsl2 (numV a) (numV 1) V)) (HJ.out.alloc _) ((Below.refl _ _).alloc (Nat.le_refl _) _)
    · intro ac V yl K hf hs hy hJ hK
      have g0 := Rby.at_val (hs 100 (by kernel_rfl)) (c := .bool true) (by kernel_rfl)
      have gy : yl 79 = some true := hy 79 100 (by kernel_rfl) true g0
      obtain ⟨sb, e103, hsl⟩ := Rby.at_sl (hs 103 (by kernel_rfl)) (l := [numV a, numV 1]) (by kernel_rfl)
      clear hf hs hy
      have HJ := hid hJ
      clear hJ
      have HSL := hid hsl
      clear hsl
      go_simp
      refine (ldo_at 8 [numV a, numV 1] _ _ HSL.out).mono ?_
      rintro e V2 ⟨rfl, hb⟩
      rw [E15.out]
      have HB := hid hb
      clear hb
      go_wp2_with fail
      exact hK.out _ _ (fun d hd => by cases hd; exact Rby.Ex.val (by kernel_rfl)) (HJ.out.step HB.out) HB.out
    · intro ac V yl K hf hs hy hJ hK
      have g0 := Rby.at_val (hs 100 (by kernel_rfl)) (c := .bool true) (by kernel_rfl)
      have gy : yl 79 = some true := hy 79 100 (by kernel_rfl) true g0
      have e7 : ac.tmps[7]? = some (.pointer (some ⟨bx, 0, none⟩)) := (hf 7 (by kernel_rfl)).trans rfl
      obtain ⟨c0, c1⟩ := hJ.cs (bx) (numV a) (by simp)
      clear hf hs hy
      have HJ := hid hJ
      clear hJ
      go_simp
      exact hK.out _ _ (fun d hd => by cases hd; exact Rby.Ex.val (by kernel_rfl)) HJ.out (Below.refl _ _)
    · intro ac V yl K hf hs hy hJ hK
      have g0 := Rby.at_val (hs 100 (by kernel_rfl)) (c := .bool true) (by kernel_rfl)
      have gy : yl 79 = some true := hy 79 100 (by kernel_rfl) true g0
      have e104 := Rby.at_val (hs 104 (by kernel_rfl)) (c := vV (numV a)) (by kernel_rfl)
      have e105 := Rby.at_val (hs 105 (by kernel_rfl)) (c := vV (numV a)) (by kernel_rfl)
      clear hf hs hy
      have HJ := hid hJ
      clear hJ
      go_simp
      exact hK.out _ _ (fun d hd => by cases hd; exact Rby.Ex.val (by kernel_rfl)) HJ.out (Below.refl _ _)
    · intro ac V yl K hf hs hy hJ hK
      have e100 := Rby.at_val (hs 100 (by kernel_rfl)) (c := .bool true) (by kernel_rfl)
      have e106 := Rby.at_val (hs 106 (by kernel_rfl)) (c := .bool true) (by kernel_rfl)
      clear hf hs hy
      have HJ := hid hJ
      clear hJ
      go_simp
      exact hK.out _ _ (fun d hd => by cases hd; exact Rby.Ex.val (by kernel_rfl)) HJ.out (Below.refl _ _)
    · intro ac V yl K hf hs hy hJ hK
      have e107 := Rby.at_val (hs 107 (by kernel_rfl)) (c := .bool true) (by kernel_rfl)
      clear hf hs hy
      have HJ := hid hJ
      clear hJ
      go_simp
      exact hK.out _ _ (fun d hd => by cases hd; exact Rby.Ex.val (by kernel_rfl)) HJ.out (Below.refl _ _)
  case fin =>
    intro ac V hd hsz hf hh hJ
    have e4 := Rby.at_val (hh 6 (by kernel_rfl)) (c := .bool true) (by kernel_rfl)
    have HJ := hid hJ
    clear hf hh hJ hsz
    obtain ⟨tm, df⟩ := ac
    obtain rfl : df = [] := hd
    simp only at e4
    go_wp2_with (fail)
    go_ret
    exact ⟨by simp [e4], HJ.out.below⟩
theorem add_is (a b : Int) : doE 6 [numV a, numV b] = numV (wr (a + b)) := rfl
theorem mul_is (a b : Int) : doE 8 [numV a, numV b] = numV (wr (a * b)) := rfl
theorem walk4 (a b c : Int) (w : World) (ha : -9223372036854775808 ≤ a ∧ a ≤ 9223372036854775807) (hb : -9223372036854775808 ≤ b ∧ b ≤ 9223372036854775807) (hc : -9223372036854775808 ≤ c ∧ c ≤ 9223372036854775807) (hT : TabP w) : Calls Tryd.prog 4 #[.int .i64 a, .int .i64 b, .int .i64 c] w fun e w' => e = .returned (.bool true) ∧ Below w.heap.size w w' :=
  walk4_at a b c (wr (b + c)) (wr (a + b)) (wr (a * b)) (wr (a + b + c)) (wr (b * c)) (wr (a * b * c)) (wr (a * (b + c))) (wr (a * c)) w rfl rfl ((add_is b a).trans (by rw [Int.add_comm])) rfl ((mul_is b a).trans (by rw [Int.mul_comm])) ((add_is _ _).trans (by rw [wr_add])) ((add_is _ _).trans (by rw [wr_add', Int.add_assoc])) ((mul_is _ _).trans (by rw [wr_mul])) rfl ((mul_is _ _).trans (by rw [wr_mul', Int.mul_assoc])) ((mul_is _ _).trans (by rw [wr_mul'])) rfl ((add_is _ _).trans (by rw [wr_add, wr_add', Int.mul_add])) ((add_is _ _).trans (by rw [Int.add_zero, wr_in ha])) ((mul_is _ _).trans (by rw [Int.mul_one, wr_in ha])) hT
end Go.Proofs.YtkniacdfhajogabDoor.Val
