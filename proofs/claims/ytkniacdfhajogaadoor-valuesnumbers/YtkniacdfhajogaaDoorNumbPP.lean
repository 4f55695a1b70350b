/-
  The walk of the law ValuesNumbers, by cases.
-/
import Derived.Test.YtkniacdfhajogaaDoorNumM
import Derived.Test.YtkniacdfhajogaaDoorArr
namespace Go.Proofs.YtkniacdfhajogaaDoor.Val
open Go.ChangeShapes Go.WideShapes Go.ChangeAt Go.RowKit Go.Joins
set_option maxHeartbeats 2000000
set_option linter.unusedVariables false
/-- Behind the sixth region. -/
def Num6pp (w : World) (a sv dv nv b qv rv pv : Int) (bx by_ bu bq br : Nat) : Act → World → Prop := fun t V => ∃ B, LV w B [(br, numV rv), (bq, numV qv), (bu, numV sv), (by_, numV b), (bx, numV a)] [] V ∧ ∃ f : Nat → Value, t = { tmps := #[.int .i64 a, .int .i64 b, f 2, f 3, .bool false, .pointer (some ⟨bx, 0, none⟩), .pointer (some ⟨by_, 0, none⟩), .pointer (some ⟨bu, 0, none⟩), .pointer (some ⟨bq, 0, none⟩), .pointer (some ⟨br, 0, none⟩), f 10, f 11, f 12, f 13, f 14, f 15, f 16, f 17, f 18, f 19, f 20, f 21, f 22, f 23, f 24, f 25, f 26, f 27, f 28, f 29, f 30, f 31, f 32, f 33, f 34, f 35, f 36, f 37, f 38, f 39, f 40, f 41, f 42, f 43, f 44, f 45, f 46, f 47, f 48, f 49, f 50, f 51, f 52, f 53, f 54, f 55, f 56, f 57, f 58, f 59, f 60, f 61, f 62, f 63, .bool false, f 65, f 66, f 67, f 68, f 69, f 70, f 71, f 72, f 73, f 74, f 75, f 76, f 77, f 78, f 79, f 80, f 81, f 82, f 83, f 84, f 85, f 86, f 87, f 88, f 89, f 90, f 91, f 92, f 93, f 94, f 95, f 96, f 97, f 98, f 99, f 100, f 101, f 102, f 103, f 104, f 105, f 106, f 107, f 108, f 109, f 110, f 111, f 112, f 113, f 114, f 115, f 116, f 117, f 118, f 119, f 120, f 121, f 122, f 123, f 124, f 125, f 126, f 127, f 128, f 129, f 130, f 131, f 132, f 133, f 134, f 135, f 136, f 137, f 138, f 139, f 140, f 141, f 142, f 143, f 144, f 145, f 146, f 147, f 148, f 149, f 150, f 151, f 152, f 153, f 154], defers := [] }
/-- What each slot holds behind its operation. -/
def num6Tpp (a sv dv nv b qv rv pv : Int) : List (Nat × (Value ⊕ List Vl)) := [(28, .inl (vV (numV sv))), (29, .inl (vV (numV b))), (30, .inr [numV sv, numV b]), (31, .inl (vV (numV a))), (32, .inl (vV (numV a))), (33, .inl (.bool false)), (34, .inl (.bool false)), (35, .inl (vV (numV a))), (36, .inl (vV (numV b))), (37, .inr [numV a, numV b]), (38, .inl (vV (numV dv))), (39, .inl (vV (numV b))), (40, .inr [numV dv, numV b]), (41, .inl (vV (numV a))), (42, .inl (vV (numV a))), (43, .inl (.bool false)), (44, .inl (.bool false)), (45, .inl (.bool false)), (46, .inl (vV (numV 0))), (47, .inl (vV (numV a))), (48, .inr [numV 0, numV a]), (49, .inl (vV (numV nv))), (50, .inl (vV (numV a))), (51, .inr [numV a]), (52, .inl (vV (numV nv))), (53, .inl (.bool false)), (54, .inl (.bool false)), (55, .inl (.bool false)), (56, .inl (vV (numV a))), (57, .inl (vV (numV (-1)))), (58, .inr [numV a, numV (-1)]), (59, .inl (vV (numV nv))), (60, .inl (vV (numV a))), (61, .inr [numV a]), (62, .inl (vV (numV nv))), (63, .inl (.bool false)), (64, .inl (.bool false))]
set_option maxRecDepth 100000 in
theorem walk4pp (a sv dv nv b qv rv pv : Int) (w : World) (r1 : 0 < rv) (a1 : 0 < a) (b1 : 0 < b) (r2 : rv < b) (e1 : doE 6 [numV a, numV b] = numV sv) (e2 : doE 9 [numV a, numV b] = numV qv) (e3 : doE 10 [numV a, numV b] = numV rv) (e4 : doE 7 [numV sv, numV b] = numV a) (e5 : doE 7 [numV a, numV b] = numV dv) (e6 : doE 6 [numV dv, numV b] = numV a) (e7 : doE 7 [numV 0, numV a] = numV nv) (e8 : doE 4 [numV a] = numV nv) (e9 : doE 8 [numV a, numV (-1)] = numV nv) (e10 : doE 8 [numV qv, numV b] = numV pv) (e11 : doE 6 [numV pv, numV rv] = numV a) (hT : TabP w) : Calls Tryd.prog 4 #[.int .i64 a, .int .i64 b] w fun e w' => e = .returned (.bool true) ∧ Below w.heap.size w w' := by
  have R0 := hid (LV.start hT)
  have E1 := hid e1
  have E2 := hid e2
  have E3 := hid e3
  have E4 := hid e4
  have E5 := hid e5
  have E6 := hid e6
  have E7 := hid e7
  have E8 := hid e8
  have E9 := hid e9
  have E10 := hid e10
  have E11 := hid e11
  clear hT e1 e2 e3 e4 e5 e6 e7 e8 e9 e10 e11
  have e0 : (b == 0) = false := by rw [beq_eq_false_iff_ne]; omega
  have q0 : ((numV rv).n == 0) = false := (show (rv == 0) = false from by rw [beq_eq_false_iff_ne]; omega)
  have q1 : (decide (0 < (numV rv).n)) = true := (show (decide (0 < rv)) = true from by rw [decide_eq_true_eq]; omega)
  have q2 : (decide ((numV rv).n < 0)) = false := (show (decide (rv < 0)) = false from by rw [decide_eq_false_iff_not]; omega)
  have a2 : (decide (0 < a)) = true := by rw [decide_eq_true_eq]; omega
  have c1 : (decide (b < 0)) = false := by rw [decide_eq_false_iff_not]; omega
  have c2 : (decide (0 < b)) = true := by rw [decide_eq_true_eq]; omega
  have c4 : (decide ((numV rv).n < b)) = true := (show (decide (rv < b)) = true from by rw [decide_eq_true_eq]; omega)
  clear r1 a1 b1 r2
  go_enter Tryd.func4, Tryd.ntmps4
  go_wp2_with (fail)
  refine (lnumber_at _ _).mono ?_
  rintro e v1 ⟨rfl, hb⟩
  have R1 := hid (R0.out.step hb)
  clear hb
  have R2 := hid (R1.out.push (numV a) (b := v1.heap.size) rfl)
  go_wp2_with (fail)
  refine (lnumber_at _ _).mono ?_
  rintro e v3 ⟨rfl, hb⟩
  have R3 := hid (R2.out.step hb)
  clear hb
  generalize v1.heap.size = bx at *
  have R4 := hid (R3.out.push (numV b) (b := v3.heap.size) rfl)
  obtain ⟨c00, c01⟩ := R4.out.cs (v3.heap.size) (numV b) (by simp)
  obtain ⟨c10, c11⟩ := R4.out.cs (bx) (numV a) (by simp)
  go_wp2_with (fail)
  clear c00 c01 c10 c11
  have R5 := hid (R4.out.build [numV a, numV b] (by simp) (b := v3.heap.size + 1) (by simp))
  refine (ldo_sl R5.out 6 [numV a, numV b] (v3.heap.size + 1) (by simp)).mono ?_
  rintro e v6 ⟨rfl, hb⟩
  rw [E1.out]
  have R6 := hid (R5.out.step hb)
  clear hb
  replace R6 := hid (R6.out.less (fun _ h => h) (M2 := []) (fun _ h => (List.not_mem_nil h).elim))
  generalize v3.heap.size = by_ at *
  have R7 := hid (R6.out.push (numV sv) (b := v6.heap.size) rfl)
  obtain ⟨c00, c01⟩ := R7.out.cs (v6.heap.size) (numV sv) (by simp)
  obtain ⟨c10, c11⟩ := R7.out.cs (by_) (numV b) (by simp)
  obtain ⟨c20, c21⟩ := R7.out.cs (bx) (numV a) (by simp)
  go_wp2_with (fail)
  clear c00 c01 c10 c11 c20 c21
  have R8 := hid (R7.out.build [numV a, numV b] (by simp) (b := v6.heap.size + 1) (by simp))
  refine (ldo_sl R8.out 9 [numV a, numV b] (v6.heap.size + 1) (by simp)).mono ?_
  rintro e v9 ⟨rfl, hb⟩
  rw [E2.out]
  have R9 := hid (R8.out.step hb)
  clear hb
  replace R9 := hid (R9.out.less (fun _ h => h) (M2 := []) (fun _ h => (List.not_mem_nil h).elim))
  generalize v6.heap.size = bu at *
  have R10 := hid (R9.out.push (numV qv) (b := v9.heap.size) rfl)
  obtain ⟨c00, c01⟩ := R10.out.cs (v9.heap.size) (numV qv) (by simp)
  obtain ⟨c10, c11⟩ := R10.out.cs (bu) (numV sv) (by simp)
  obtain ⟨c20, c21⟩ := R10.out.cs (by_) (numV b) (by simp)
  obtain ⟨c30, c31⟩ := R10.out.cs (bx) (numV a) (by simp)
  go_wp2_with (fail)
  clear c00 c01 c10 c11 c20 c21 c30 c31
  have R11 := hid (R10.out.build [numV a, numV b] (by simp) (b := v9.heap.size + 1) (by simp))
  refine (ldo_sl R11.out 10 [numV a, numV b] (v9.heap.size + 1) (by simp)).mono ?_
  rintro e v12 ⟨rfl, hb⟩
  rw [E3.out]
  have R12 := hid (R11.out.step hb)
  clear hb
  replace R12 := hid (R12.out.less (fun _ h => h) (M2 := []) (fun _ h => (List.not_mem_nil h).elim))
  generalize v9.heap.size = bq at *
  have R13 := hid (R12.out.push (numV rv) (b := v12.heap.size) rfl)
  obtain ⟨c00, c01⟩ := R13.out.cs (v12.heap.size) (numV rv) (by simp)
  obtain ⟨c10, c11⟩ := R13.out.cs (bq) (numV qv) (by simp)
  obtain ⟨c20, c21⟩ := R13.out.cs (bu) (numV sv) (by simp)
  obtain ⟨c30, c31⟩ := R13.out.cs (by_) (numV b) (by simp)
  obtain ⟨c40, c41⟩ := R13.out.cs (bx) (numV a) (by simp)
  go_wp2_with (fail)
  clear c00 c01 c10 c11 c20 c21 c30 c31 c40 c41
  generalize v12.alloc (.cells (vC (numV rv)) 24) = W6 at *
  generalize v12.heap.size = br at *
  have RS6 := hid (R13.out.rebase)
  refine wp_mono (Q := Exit.then (Num6pp w a sv dv nv b qv rv pv bx by_ bu bq br) (fun _ _ _ => False)) ?reg ?go
  case reg =>
    refine Rby.region_by (J := fun V => LV w W6.heap.size [(br, numV rv), (bq, numV qv), (bu, numV sv), (by_, numV b), (bx, numV a)] [] V) (E := Rby.Ex (num6Tpp a sv dv nv b qv rv pv)) (by kernel_rfl) (by kernel_rfl) (by kernel_rfl) (by kernel_rfl) (Rby.Ex.keep _) RS6.out.drew ?step ?fin
    case step =>
      refine Rby.AllL.cons ?_ <| Rby.AllL.cons ?_ <| Rby.AllL.cons ?_ <| Rby.AllL.cons ?_ <| Rby.AllL.cons ?_ <| Rby.AllL.cons ?_ <| Rby.AllL.cons ?_ <| Rby.AllL.cons ?_ <| Rby.AllL.cons ?_ <| Rby.AllL.cons ?_ <| Rby.AllL.cons ?_ <| Rby.AllL.cons ?_ <| Rby.AllL.cons ?_ <| Rby.AllL.cons ?_ <| Rby.AllL.cons ?_ <| Rby.AllL.cons ?_ <| Rby.AllL.cons ?_ <| Rby.AllL.cons ?_ <| Rby.AllL.cons ?_ <| Rby.AllL.cons ?_ <| Rby.AllL.cons ?_ <| Rby.AllL.cons ?_ <| Rby.AllL.cons ?_ <| Rby.AllL.cons ?_ <| Rby.AllL.cons ?_ <| Rby.AllL.cons ?_ <| Rby.AllL.cons ?_ <| Rby.AllL.cons ?_ <| Rby.AllL.cons ?_ <| Rby.AllL.cons ?_ <| Rby.AllL.cons ?_ <| Rby.AllL.cons ?_ <| Rby.AllL.cons ?_ <| Rby.AllL.cons ?_ <| Rby.AllL.cons ?_ <| Rby.AllL.cons ?_ <| Rby.AllL.cons ?_ <| Rby.AllL.nil
      · intro ac V yl K hf hs hy hJ hK
        have e7 : ac.tmps[7]? = some (.pointer (some ⟨bu, 0, none⟩)) := (hf 7 (by kernel_rfl)).trans rfl
        obtain ⟨c0, c1⟩ := hJ.cs (bu) (numV sv) (by simp)
        clear hf hs hy
        have HJ := hid hJ
        clear hJ
        go_simp
        exact hK.out _ _ (fun d hd => by cases hd; exact Rby.Ex.val (by kernel_rfl)) HJ.out (Below.refl _ _)
      · intro ac V yl K hf hs hy hJ hK
        have e6 : ac.tmps[6]? = some (.pointer (some ⟨by_, 0, none⟩)) := (hf 6 (by kernel_rfl)).trans rfl
        obtain ⟨c0, c1⟩ := hJ.cs (by_) (numV b) (by simp)
        clear hf hs hy
        have HJ := hid hJ
        clear hJ
        go_simp
        exact hK.out _ _ (fun d hd => by cases hd; exact Rby.Ex.val (by kernel_rfl)) HJ.out (Below.refl _ _)
      · intro ac V yl K hf hs hy hJ hK
        have e28 := Rby.at_val (hs 28 (by kernel_rfl)) (c := vV (numV sv)) (by kernel_rfl)
        have e29 := Rby.at_val (hs 29 (by kernel_rfl)) (c := vV (numV b)) (by kernel_rfl)
        clear hf hs hy
        have HJ := hid hJ
        clear hJ
        go_simp
        exact hK.out _ _ (fun d hd => by cases hd; exact Rby.Ex.sl (l := [numV sv, numV b]) (by kernel_rfl) (vsl2 (numV sv) (numV b) V)) (HJ.out.alloc _) ((Below.refl _ _).alloc (Nat.le_refl _) _)
      · intro ac V yl K hf hs hy hJ hK
        obtain ⟨sb, e30, hsl⟩ := Rby.at_sl (hs 30 (by kernel_rfl)) (l := [numV sv, numV b]) (by kernel_rfl)
        clear hf hs hy
        have HJ := hid hJ
        clear hJ
        have HSL := hid hsl
        clear hsl
        go_simp
        refine (ldo_at 7 [numV sv, numV b] _ _ HSL.out).mono ?_
        rintro e V2 ⟨rfl, hb⟩
        rw [E4.out]
        have HB := hid hb
        clear hb
        go_wp2_with fail
        exact hK.out _ _ (fun d hd => by cases hd; exact Rby.Ex.val (by kernel_rfl)) (HJ.out.step HB.out) HB.out
      · intro ac V yl K hf hs hy hJ hK
        have e5 : ac.tmps[5]? = some (.pointer (some ⟨bx, 0, none⟩)) := (hf 5 (by kernel_rfl)).trans rfl
        obtain ⟨c0, c1⟩ := hJ.cs (bx) (numV a) (by simp)
        clear hf hs hy
        have HJ := hid hJ
        clear hJ
        go_simp
        exact hK.out _ _ (fun d hd => by cases hd; exact Rby.Ex.val (by kernel_rfl)) HJ.out (Below.refl _ _)
      · intro ac V yl K hf hs hy hJ hK
        have e31 := Rby.at_val (hs 31 (by kernel_rfl)) (c := vV (numV a)) (by kernel_rfl)
        have e32 := Rby.at_val (hs 32 (by kernel_rfl)) (c := vV (numV a)) (by kernel_rfl)
        clear hf hs hy
        have HJ := hid hJ
        clear hJ
        go_simp
        exact hK.out _ _ (fun d hd => by cases hd; exact Rby.Ex.val (by kernel_rfl)) HJ.out (Below.refl _ _)
      · intro ac V yl K hf hs hy hJ hK
        have e33 := Rby.at_val (hs 33 (by kernel_rfl)) (c := .bool false) (by kernel_rfl)
        clear hf hs hy
        have HJ := hid hJ
        clear hJ
        go_simp
        exact hK.out _ _ (fun d hd => by cases hd; exact Rby.Ex.val (by kernel_rfl)) HJ.out (Below.refl _ _)
      · intro ac V yl K hf hs hy hJ hK
        have g0 := Rby.at_val (hs 34 (by kernel_rfl)) (c := .bool false) (by kernel_rfl)
        have gy : yl 6 = some false := hy 6 34 (by kernel_rfl) false g0
        have e5 : ac.tmps[5]? = some (.pointer (some ⟨bx, 0, none⟩)) := (hf 5 (by kernel_rfl)).trans rfl
        obtain ⟨c0, c1⟩ := hJ.cs (bx) (numV a) (by simp)
        clear hf hs hy
        have HJ := hid hJ
        clear hJ
        go_simp
        exact hK.out _ _ (fun d hd => by cases hd; exact Rby.Ex.val (by kernel_rfl)) HJ.out (Below.refl _ _)
      · intro ac V yl K hf hs hy hJ hK
        have g0 := Rby.at_val (hs 34 (by kernel_rfl)) (c := .bool false) (by kernel_rfl)
        have gy : yl 6 = some false := hy 6 34 (by kernel_rfl) false g0
        have e6 : ac.tmps[6]? = some (.pointer (some ⟨by_, 0, none⟩)) := (hf 6 (by kernel_rfl)).trans rfl
        obtain ⟨c0, c1⟩ := hJ.cs (by_) (numV b) (by simp)
        clear hf hs hy
        have HJ := hid hJ
        clear hJ
        go_simp
        exact hK.out _ _ (fun d hd => by cases hd; exact Rby.Ex.val (by kernel_rfl)) HJ.out (Below.refl _ _)
      · intro ac V yl K hf hs hy hJ hK
        have g0 := Rby.at_val (hs 34 (by kernel_rfl)) (c := .bool false) (by kernel_rfl)
        have gy : yl 6 = some false := hy 6 34 (by kernel_rfl) false g0
        have e35 := Rby.at_val (hs 35 (by kernel_rfl)) (c := vV (numV a)) (by kernel_rfl)
        have e36 := Rby.at_val (hs 36 (by kernel_rfl)) (c := vV (numV b)) (by kernel_rfl)
        clear hf hs hy
        have HJ := hid hJ
        clear hJ
        go_simp
        exact hK.out _ _ (fun d hd => by cases hd; exact Rby.Ex.sl (l := [numV a, numV b]) (by kernel_rfl) (vsl2 (numV a) (numV b) V)) (HJ.out.alloc _) ((Below.refl _ _).alloc (Nat.le_refl _) _)
      · intro ac V yl K hf hs hy hJ hK
        have g0 := Rby.at_val (hs 34 (by kernel_rfl)) (c := .bool false) (by kernel_rfl)
        have gy : yl 6 = some false := hy 6 34 (by kernel_rfl) false g0
        obtain ⟨sb, e37, hsl⟩ := Rby.at_sl (hs 37 (by kernel_rfl)) (l := [numV a, numV b]) (by kernel_rfl)
        clear hf hs hy
        have HJ := hid hJ
        clear hJ
        have HSL := hid hsl
        clear hsl
        go_simp
        refine (ldo_at 7 [numV a, numV b] _ _ HSL.out).mono ?_
        rintro e V2 ⟨rfl, hb⟩
        rw [E5.out]
        have HB := hid hb
        clear hb
        go_wp2_with fail
        exact hK.out _ _ (fun d hd => by cases hd; exact Rby.Ex.val (by kernel_rfl)) (HJ.out.step HB.out) HB.out
      · intro ac V yl K hf hs hy hJ hK
        have g0 := Rby.at_val (hs 34 (by kernel_rfl)) (c := .bool false) (by kernel_rfl)
        have gy : yl 6 = some false := hy 6 34 (by kernel_rfl) false g0
        have e6 : ac.tmps[6]? = some (.pointer (some ⟨by_, 0, none⟩)) := (hf 6 (by kernel_rfl)).trans rfl
        obtain ⟨c0, c1⟩ := hJ.cs (by_) (numV b) (by simp)
        clear hf hs hy
        have HJ := hid hJ
        clear hJ
        go_simp
        exact hK.out _ _ (fun d hd => by cases hd; exact Rby.Ex.val (by kernel_rfl)) HJ.out (Below.refl _ _)
      · intro ac V yl K hf hs hy hJ hK
        have g0 := Rby.at_val (hs 34 (by kernel_rfl)) (c := .bool false) (by kernel_rfl)
        have gy : yl 6 = some false := hy 6 34 (by kernel_rfl) false g0
        have e38 := Rby.at_val (hs 38 (by kernel_rfl)) (c := vV (numV dv)) (by kernel_rfl)
        have e39 := Rby.at_val (hs 39 (by kernel_rfl)) (c := vV (numV b)) (by kernel_rfl)
        clear hf hs hy
        have HJ := hid hJ
        clear hJ
        go_simp
        exact hK.out _ _ (fun d hd => by cases hd; exact Rby.Ex.sl (l := [numV dv, numV b]) (by kernel_rfl) (vsl2 (numV dv) (numV b) V)) (HJ.out.alloc _) ((Below.refl _ _).alloc (Nat.le_refl _) _)
      · intro ac V yl K hf hs hy hJ hK
        have g0 := Rby.at_val (hs 34 (by kernel_rfl)) (c := .bool false) (by kernel_rfl)
        have gy : yl 6 = some false := hy 6 34 (by kernel_rfl) false g0
        obtain ⟨sb, e40, hsl⟩ := Rby.at_sl (hs 40 (by kernel_rfl)) (l := [numV dv, numV b]) (by kernel_rfl)
        clear hf hs hy
        have HJ := hid hJ
        clear hJ
        have HSL := hid hsl
        clear hsl
        go_simp
        refine (ldo_at 6 [numV dv, numV b] _ _ HSL.out).mono ?_
        rintro e V2 ⟨rfl, hb⟩
        rw [E6.out]
        have HB := hid hb
        clear hb
        go_wp2_with fail
        exact hK.out _ _ (fun d hd => by cases hd; exact Rby.Ex.val (by kernel_rfl)) (HJ.out.step HB.out) HB.out
      · intro ac V yl K hf hs hy hJ hK
        have g0 := Rby.at_val (hs 34 (by kernel_rfl)) (c := .bool false) (by kernel_rfl)
        have gy : yl 6 = some false := hy 6 34 (by kernel_rfl) false g0
        have e5 : ac.tmps[5]? = some (.pointer (some ⟨bx, 0, none⟩)) := (hf 5 (by kernel_rfl)).trans rfl
        obtain ⟨c0, c1⟩ := hJ.cs (bx) (numV a) (by simp)
        clear hf hs hy
        have HJ := hid hJ
        clear hJ
        go_simp
        exact hK.out _ _ (fun d hd => by cases hd; exact Rby.Ex.val (by kernel_rfl)) HJ.out (Below.refl _ _)
      · intro ac V yl K hf hs hy hJ hK
        have g0 := Rby.at_val (hs 34 (by kernel_rfl)) (c := .bool false) (by kernel_rfl)
        have gy : yl 6 = some false := hy 6 34 (by kernel_rfl) false g0
        have e41 := Rby.at_val (hs 41 (by kernel_rfl)) (c := vV (numV a)) (by kernel_rfl)
        have e42 := Rby.at_val (hs 42 (by kernel_rfl)) (c := vV (numV a)) (by kernel_rfl)
        clear hf hs hy
        have HJ := hid hJ
        clear hJ
        go_simp
        exact hK.out _ _ (fun d hd => by cases hd; exact Rby.Ex.val (by kernel_rfl)) HJ.out (Below.refl _ _)
      · intro ac V yl K hf hs hy hJ hK
        have e34 := Rby.at_val (hs 34 (by kernel_rfl)) (c := .bool false) (by kernel_rfl)
        have e43 := Rby.at_val (hs 43 (by kernel_rfl)) (c := .bool false) (by kernel_rfl)
        clear hf hs hy
        have HJ := hid hJ
        clear hJ
        go_simp
        exact hK.out _ _ (fun d hd => by cases hd; exact Rby.Ex.val (by kernel_rfl)) HJ.out (Below.refl _ _)
      · intro ac V yl K hf hs hy hJ hK
        have e44 := Rby.at_val (hs 44 (by kernel_rfl)) (c := .bool false) (by kernel_rfl)
        clear hf hs hy
        have HJ := hid hJ
        clear hJ
        go_simp
        exact hK.out _ _ (fun d hd => by cases hd; exact Rby.Ex.val (by kernel_rfl)) HJ.out (Below.refl _ _)
      · intro ac V yl K hf hs hy hJ hK
        have g0 := Rby.at_val (hs 45 (by kernel_rfl)) (c := .bool false) (by kernel_rfl)
        have gy : yl 17 = some false := hy 17 45 (by kernel_rfl) false g0
        clear hf hs hy
        have HJ := hid hJ
        clear hJ
        go_simp
        refine (lnumber_at _ _).mono ?_
        rintro e V2 ⟨rfl, hb⟩
        have HB := hid hb
        clear hb
        go_wp2_with fail
        exact hK.out _ _ (fun d hd => by cases hd; exact Rby.Ex.val (by kernel_rfl)) (HJ.out.step HB.out) HB.out
      · intro ac V yl K hf hs hy hJ hK
        have g0 := Rby.at_val (hs 45 (by kernel_rfl)) (c := .bool false) (by kernel_rfl)
        have gy : yl 17 = some false := hy 17 45 (by kernel_rfl) false g0
        have e5 : ac.tmps[5]? = some (.pointer (some ⟨bx, 0, none⟩)) := (hf 5 (by kernel_rfl)).trans rfl
        obtain ⟨c0, c1⟩ := hJ.cs (bx) (numV a) (by simp)
        clear hf hs hy
        have HJ := hid hJ
        clear hJ
        go_simp
        exact hK.out _ _ (fun d hd => by cases hd; exact Rby.Ex.val (by kernel_rfl)) HJ.out (Below.refl _ _)
      · intro ac V yl K hf hs hy hJ hK
        have g0 := Rby.at_val (hs 45 (by kernel_rfl)) (c := .bool false) (by kernel_rfl)
        have gy : yl 17 = some false := hy 17 45 (by kernel_rfl) false g0
        have e46 := Rby.at_val (hs 46 (by kernel_rfl)) (c := vV (numV 0)) (by kernel_rfl)
        have e47 := Rby.at_val (hs 47 (by kernel_rfl)) (c := vV (numV a)) (by kernel_rfl)
        clear hf hs hy
        have HJ := hid hJ
        clear hJ
        go_simp
        exact hK.out _ _ (fun d hd => by cases hd; exact Rby.Ex.sl (l := [numV 0, numV a]) (by kernel_rfl) (vsl2 (numV 0) (numV a) V)) (HJ.out.alloc _) ((Below.refl _ _).alloc (Nat.le_refl _) _)
      · intro ac V yl K hf hs hy hJ hK
        have g0 := Rby.at_val (hs 45 (by kernel_rfl)) (c := .bool false) (by kernel_rfl)
        have gy : yl 17 = some false := hy 17 45 (by kernel_rfl) false g0
        obtain ⟨sb, e48, hsl⟩ := Rby.at_sl (hs 48 (by kernel_rfl)) (l := [numV 0, numV a]) (by kernel_rfl)
        clear hf hs hy
        have HJ := hid hJ
        clear hJ
        have HSL := hid hsl
        clear hsl
        go_simp
        refine (ldo_at 7 [numV 0, numV a] _ _ HSL.out).mono ?_
        rintro e V2 ⟨rfl, hb⟩
        rw [E7.out]
        have HB := hid hb
        clear hb
        go_wp2_with fail
        exact hK.out _ _ (fun d hd => by cases hd; exact Rby.Ex.val (by kernel_rfl)) (HJ.out.step HB.out) HB.out
      · intro ac V yl K hf hs hy hJ hK
        have g0 := Rby.at_val (hs 45 (by kernel_rfl)) (c := .bool false) (by kernel_rfl)
        have gy : yl 17 = some false := hy 17 45 (by kernel_rfl) false g0
        have e5 : ac.tmps[5]? = some (.pointer (some ⟨bx, 0, none⟩)) := (hf 5 (by kernel_rfl)).trans rfl
        obtain ⟨c0, c1⟩ := hJ.cs (bx) (numV a) (by simp)
        clear hf hs hy
        have HJ := hid hJ
        clear hJ
        go_simp
        exact hK.out _ _ (fun d hd => by cases hd; exact Rby.Ex.val (by kernel_rfl)) HJ.out (Below.refl _ _)
      · intro ac V yl K hf hs hy hJ hK
        have g0 := Rby.at_val (hs 45 (by kernel_rfl)) (c := .bool false) (by kernel_rfl)
        have gy : yl 17 = some false := hy 17 45 (by kernel_rfl) false g0
        have e50 := Rby.at_val (hs 50 (by kernel_rfl)) (c := vV (numV a)) (by kernel_rfl)
        clear hf hs hy
        have HJ := hid hJ
        clear hJ
        go_simp
        exact hK.out _ _ (fun d hd => by cases hd; exact Rby.Ex.sl (l := [numV a]) (by kernel_rfl) (vsl1 (numV a) V)) (HJ.out.alloc _) ((Below.refl _ _).alloc (Nat.le_refl _) _)
      · intro ac V yl K hf hs hy hJ hK
        have g0 := Rby.at_val (hs 45 (by kernel_rfl)) (c := .bool false) (by kernel_rfl)
        have gy : yl 17 = some false := hy 17 45 (by kernel_rfl) false g0
        obtain ⟨sb, e51, hsl⟩ := Rby.at_sl (hs 51 (by kernel_rfl)) (l := [numV a]) (by kernel_rfl)
        clear hf hs hy
        have HJ := hid hJ
        clear hJ
        have HSL := hid hsl
        clear hsl
        go_simp
        refine (ldo_at 4 [numV a] _ _ HSL.out).mono ?_
        rintro e V2 ⟨rfl, hb⟩
        rw [E8.out]
        have HB := hid hb
        clear hb
        go_wp2_with fail
        exact hK.out _ _ (fun d hd => by cases hd; exact Rby.Ex.val (by kernel_rfl)) (HJ.out.step HB.out) HB.out
      · intro ac V yl K hf hs hy hJ hK
        have g0 := Rby.at_val (hs 45 (by kernel_rfl)) (c := .bool false) (by kernel_rfl)
        have gy : yl 17 = some false := hy 17 45 (by kernel_rfl) false g0
        have e49 := Rby.at_val (hs 49 (by kernel_rfl)) (c := vV (numV nv)) (by kernel_rfl)
        have e52 := Rby.at_val (hs 52 (by kernel_rfl)) (c := vV (numV nv)) (by kernel_rfl)
        clear hf hs hy
        have HJ := hid hJ
        clear hJ
        go_simp
        exact hK.out _ _ (fun d hd => by cases hd; exact Rby.Ex.val (by kernel_rfl)) HJ.out (Below.refl _ _)
      · intro ac V yl K hf hs hy hJ hK
        have e45 := Rby.at_val (hs 45 (by kernel_rfl)) (c := .bool false) (by kernel_rfl)
        have e53 := Rby.at_val (hs 53 (by kernel_rfl)) (c := .bool false) (by kernel_rfl)
        clear hf hs hy
        have HJ := hid hJ
        clear hJ
        go_simp
        exact hK.out _ _ (fun d hd => by cases hd; exact Rby.Ex.val (by kernel_rfl)) HJ.out (Below.refl _ _)
      · intro ac V yl K hf hs hy hJ hK
        have e54 := Rby.at_val (hs 54 (by kernel_rfl)) (c := .bool false) (by kernel_rfl)
        clear hf hs hy
        have HJ := hid hJ
        clear hJ
        go_simp
        exact hK.out _ _ (fun d hd => by cases hd; exact Rby.Ex.val (by kernel_rfl)) HJ.out (Below.refl _ _)
      · intro ac V yl K hf hs hy hJ hK
        have g0 := Rby.at_val (hs 55 (by kernel_rfl)) (c := .bool false) (by kernel_rfl)
        have gy : yl 27 = some false := hy 27 55 (by kernel_rfl) false g0
        have e5 : ac.tmps[5]? = some (.pointer (some ⟨bx, 0, none⟩)) := (hf 5 (by kernel_rfl)).trans rfl
        obtain ⟨c0, c1⟩ := hJ.cs (bx) (numV a) (by simp)
        clear hf hs hy
        have HJ := hid hJ
        clear hJ
        go_simp
        exact hK.out _ _ (fun d hd => by cases hd; exact Rby.Ex.val (by kernel_rfl)) HJ.out (Below.refl _ _)
      · intro ac V yl K hf hs hy hJ hK
        have g0 := Rby.at_val (hs 55 (by kernel_rfl)) (c := .bool false) (by kernel_rfl)
        have gy : yl 27 = some false := hy 27 55 (by kernel_rfl) false g0
        clear hf hs hy
        have HJ := hid hJ
        clear hJ
        go_simp
        refine (lnumber_at _ _).mono ?_
        rintro e V2 ⟨rfl, hb⟩
        have HB := hid hb
        clear hb
        go_wp2_with fail
        exact hK.out _ _ (fun d hd => by cases hd; exact Rby.Ex.val (by kernel_rfl)) (HJ.out.step HB.out) HB.out
      · intro ac V yl K hf hs hy hJ hK
        have g0 := Rby.at_val (hs 55 (by kernel_rfl)) (c := .bool false) (by kernel_rfl)
        have gy : yl 27 = some false := hy 27 55 (by kernel_rfl) false g0
        have e56 := Rby.at_val (hs 56 (by kernel_rfl)) (c := vV (numV a)) (by kernel_rfl)
        have e57 := Rby.at_val (hs 57 (by kernel_rfl)) (c := vV (numV (-1))) (by kernel_rfl)
        clear hf hs hy
        have HJ := hid hJ
        clear hJ
        go_simp
        exact hK.out _ _ (fun d hd => by cases hd; exact Rby.Ex.sl (l := [numV a, numV (-1)]) (by kernel_rfl) (vsl2 (numV a) (numV (-1)) V)) (HJ.out.alloc _) ((Below.refl _ _).alloc (Nat.le_refl _) _)
      · intro ac V yl K hf hs hy hJ hK
        have g0 := Rby.at_val (hs 55 (by kernel_rfl)) (c := .bool false) (by kernel_rfl)
        have gy : yl 27 = some false := hy 27 55 (by kernel_rfl) false g0
        obtain ⟨sb, e58, hsl⟩ := Rby.at_sl (hs 58 (by kernel_rfl)) (l := [numV a, numV (-1)]) (by kernel_rfl)
        clear hf hs hy
        have HJ := hid hJ
        clear hJ
        have HSL := hid hsl
        clear hsl
        go_simp
        refine (ldo_at 8 [numV a, numV (-1)] _ _ HSL.out).mono ?_
        rintro e V2 ⟨rfl, hb⟩
        rw [E9.out]
        have HB := hid hb
        clear hb
        go_wp2_with fail
        exact hK.out _ _ (fun d hd => by cases hd; exact Rby.Ex.val (by kernel_rfl)) (HJ.out.step HB.out) HB.out
      · intro ac V yl K hf hs hy hJ hK
        have g0 := Rby.at_val (hs 55 (by kernel_rfl)) (c := .bool false) (by kernel_rfl)
        have gy : yl 27 = some false := hy 27 55 (by kernel_rfl) false g0
        have e5 : ac.tmps[5]? = some (.pointer (some ⟨bx, 0, none⟩)) := (hf 5 (by kernel_rfl)).trans rfl
        obtain ⟨c0, c1⟩ := hJ.cs (bx) (numV a) (by simp)
        clear hf hs hy
        have HJ := hid hJ
        clear hJ
        go_simp
        exact hK.out _ _ (fun d hd => by cases hd; exact Rby.Ex.val (by kernel_rfl)) HJ.out (Below.refl _ _)
      · intro ac V yl K hf hs hy hJ hK
        have g0 := Rby.at_val (hs 55 (by kernel_rfl)) (c := .bool false) (by kernel_rfl)
        have gy : yl 27 = some false := hy 27 55 (by kernel_rfl) false g0
        have e60 := Rby.at_val (hs 60 (by kernel_rfl)) (c := vV (numV a)) (by kernel_rfl)
        clear hf hs hy
        have HJ := hid hJ
        clear hJ
        go_simp
        exact hK.out _ _ (fun d hd => by cases hd; exact Rby.Ex.sl (l := [numV a]) (by kernel_rfl) (vsl1 (numV a) V)) (HJ.out.alloc _) ((Below.refl _ _).alloc (Nat.le_refl _) _)
      · intro ac V yl K hf hs hy hJ hK
        have g0 := Rby.at_val (hs 55 (by kernel_rfl)) (c := .bool false) (by kernel_rfl)
        have gy : yl 27 = some false := hy 27 55 (by kernel_rfl) false g0
        obtain ⟨sb, e61, hsl⟩ := Rby.at_sl (hs 61 (by kernel_rfl)) (l := [numV a]) (by kernel_rfl)
        clear hf hs hy
        have HJ := hid hJ
        clear hJ
        have HSL := hid hsl
        clear hsl
        go_simp
        refine (ldo_at 4 [numV a] _ _ HSL.out).mono ?_
        rintro e V2 ⟨rfl, hb⟩
        rw [E8.out]
        have HB := hid hb
        clear hb
        go_wp2_with fail
        exact hK.out _ _ (fun d hd => by cases hd; exact Rby.Ex.val (by kernel_rfl)) (HJ.out.step HB.out) HB.out
      · intro ac V yl K hf hs hy hJ hK
        have g0 := Rby.at_val (hs 55 (by kernel_rfl)) (c := .bool false) (by kernel_rfl)
        have gy : yl 27 = some false := hy 27 55 (by kernel_rfl) false g0
        have e59 := Rby.at_val (hs 59 (by kernel_rfl)) (c := vV (numV nv)) (by kernel_rfl)
        have e62 := Rby.at_val (hs 62 (by kernel_rfl)) (c := vV (numV nv)) (by kernel_rfl)
        clear hf hs hy
        have HJ := hid hJ
        clear hJ
        go_simp
        exact hK.out _ _ (fun d hd => by cases hd; exact Rby.Ex.val (by kernel_rfl)) HJ.out (Below.refl _ _)
      · intro ac V yl K hf hs hy hJ hK
        have e55 := Rby.at_val (hs 55 (by kernel_rfl)) (c := .bool false) (by kernel_rfl)
        have e63 := Rby.at_val (hs 63 (by kernel_rfl)) (c := .bool false) (by kernel_rfl)
        clear hf hs hy
        have HJ := hid hJ
        clear hJ
        go_simp
        exact hK.out _ _ (fun d hd => by cases hd; exact Rby.Ex.val (by kernel_rfl)) HJ.out (Below.refl _ _)
    case fin =>
      intro ac V hd hsz hf hh hJ
      have k64 := Rby.getD_of (Rby.at_val (hh 64 (by kernel_rfl)) (c := .bool false) (by kernel_rfl))
      have k0 := Rby.getD_of ((hf 0 (by kernel_rfl)).trans (show _ = some (.int .i64 a) from rfl))
      have k1 := Rby.getD_of ((hf 1 (by kernel_rfl)).trans (show _ = some (.int .i64 b) from rfl))
      have k4 := Rby.getD_of ((hf 4 (by kernel_rfl)).trans (show _ = some (.bool false) from rfl))
      have k5 := Rby.getD_of ((hf 5 (by kernel_rfl)).trans (show _ = some (.pointer (some ⟨bx, 0, none⟩)) from rfl))
      have k6 := Rby.getD_of ((hf 6 (by kernel_rfl)).trans (show _ = some (.pointer (some ⟨by_, 0, none⟩)) from rfl))
      have k7 := Rby.getD_of ((hf 7 (by kernel_rfl)).trans (show _ = some (.pointer (some ⟨bu, 0, none⟩)) from rfl))
      have k8 := Rby.getD_of ((hf 8 (by kernel_rfl)).trans (show _ = some (.pointer (some ⟨bq, 0, none⟩)) from rfl))
      have k9 := Rby.getD_of ((hf 9 (by kernel_rfl)).trans (show _ = some (.pointer (some ⟨br, 0, none⟩)) from rfl))
      clear hf hh
      obtain ⟨tm, df⟩ := ac
      obtain rfl : df = [] := hd
      simp only at k0 k1 k4 k5 k6 k7 k8 k9 k64
      have A : tm = #[tm.getD 0 undef, tm.getD 1 undef, tm.getD 2 undef, tm.getD 3 undef, tm.getD 4 undef, tm.getD 5 undef, tm.getD 6 undef, tm.getD 7 undef, tm.getD 8 undef, tm.getD 9 undef, tm.getD 10 undef, tm.getD 11 undef, tm.getD 12 undef, tm.getD 13 undef, tm.getD 14 undef, tm.getD 15 undef, tm.getD 16 undef, tm.getD 17 undef, tm.getD 18 undef, tm.getD 19 undef, tm.getD 20 undef, tm.getD 21 undef, tm.getD 22 undef, tm.getD 23 undef, tm.getD 24 undef, tm.getD 25 undef, tm.getD 26 undef, tm.getD 27 undef, tm.getD 28 undef, tm.getD 29 undef, tm.getD 30 undef, tm.getD 31 undef, tm.getD 32 undef, tm.getD 33 undef, tm.getD 34 undef, tm.getD 35 undef, tm.getD 36 undef, tm.getD 37 undef, tm.getD 38 undef, tm.getD 39 undef, tm.getD 40 undef, tm.getD 41 undef, tm.getD 42 undef, tm.getD 43 undef, tm.getD 44 undef, tm.getD 45 undef, tm.getD 46 undef, tm.getD 47 undef, tm.getD 48 undef, tm.getD 49 undef, tm.getD 50 undef, tm.getD 51 undef, tm.getD 52 undef, tm.getD 53 undef, tm.getD 54 undef, tm.getD 55 undef, tm.getD 56 undef, tm.getD 57 undef, tm.getD 58 undef, tm.getD 59 undef, tm.getD 60 undef, tm.getD 61 undef, tm.getD 62 undef, tm.getD 63 undef, tm.getD 64 undef, tm.getD 65 undef, tm.getD 66 undef, tm.getD 67 undef, tm.getD 68 undef, tm.getD 69 undef, tm.getD 70 undef, tm.getD 71 undef, tm.getD 72 undef, tm.getD 73 undef, tm.getD 74 undef, tm.getD 75 undef, tm.getD 76 undef, tm.getD 77 undef, tm.getD 78 undef, tm.getD 79 undef, tm.getD 80 undef, tm.getD 81 undef, tm.getD 82 undef, tm.getD 83 undef, tm.getD 84 undef, tm.getD 85 undef, tm.getD 86 undef, tm.getD 87 undef, tm.getD 88 undef, tm.getD 89 undef, tm.getD 90 undef, tm.getD 91 undef, tm.getD 92 undef, tm.getD 93 undef, tm.getD 94 undef, tm.getD 95 undef, tm.getD 96 undef, tm.getD 97 undef, tm.getD 98 undef, tm.getD 99 undef, tm.getD 100 undef, tm.getD 101 undef, tm.getD 102 undef, tm.getD 103 undef, tm.getD 104 undef, tm.getD 105 undef, tm.getD 106 undef, tm.getD 107 undef, tm.getD 108 undef, tm.getD 109 undef, tm.getD 110 undef, tm.getD 111 undef, tm.getD 112 undef, tm.getD 113 undef, tm.getD 114 undef, tm.getD 115 undef, tm.getD 116 undef, tm.getD 117 undef, tm.getD 118 undef, tm.getD 119 undef, tm.getD 120 undef, tm.getD 121 undef, tm.getD 122 undef, tm.getD 123 undef, tm.getD 124 undef, tm.getD 125 undef, tm.getD 126 undef, tm.getD 127 undef, tm.getD 128 undef, tm.getD 129 undef, tm.getD 130 undef, tm.getD 131 undef, tm.getD 132 undef, tm.getD 133 undef, tm.getD 134 undef, tm.getD 135 undef, tm.getD 136 undef, tm.getD 137 undef, tm.getD 138 undef, tm.getD 139 undef, tm.getD 140 undef, tm.getD 141 undef, tm.getD 142 undef, tm.getD 143 undef, tm.getD 144 undef, tm.getD 145 undef, tm.getD 146 undef, tm.getD 147 undef, tm.getD 148 undef, tm.getD 149 undef, tm.getD 150 undef, tm.getD 151 undef, tm.getD 152 undef, tm.getD 153 undef, tm.getD 154 undef] := (Rby.arr_lit tm 155 hsz).trans rfl
      rw [k0, k1, k4, k5, k6, k7, k8, k9, k64] at A
      exact ⟨_, hJ, fun i => tm.getD i undef, congrArg (fun t => Act.mk t []) A⟩
  case go =>
    rintro e t X7 h
    obtain rfl : e = .normal := by cases e <;> first | rfl | exact h.elim
    obtain ⟨B6, hR, f, rfl⟩ := h
    clear RS6 R13
    have RS7 := hid hR.rebase
    clear hR
    have SA : ∀ V, LV w X7.heap.size [(br, numV rv), (bq, numV qv), (bu, numV sv), (by_, numV b), (bx, numV a)] [] V → (fun V => V.cell? ⟨br, 0, none⟩ = some (.int .u8 ((numV rv : Vl).ty : Int)) ∧ V.cell? ⟨br, 1, none⟩ = some (.int .i64 (numV rv : Vl).n) ∧ V.cell? ⟨bq, 0, none⟩ = some (.int .u8 ((numV qv : Vl).ty : Int)) ∧ V.cell? ⟨bq, 1, none⟩ = some (.int .i64 (numV qv : Vl).n) ∧ V.cell? ⟨bu, 0, none⟩ = some (.int .u8 ((numV sv : Vl).ty : Int)) ∧ V.cell? ⟨bu, 1, none⟩ = some (.int .i64 (numV sv : Vl).n) ∧ V.cell? ⟨by_, 0, none⟩ = some (.int .u8 ((numV b : Vl).ty : Int)) ∧ V.cell? ⟨by_, 1, none⟩ = some (.int .i64 (numV b : Vl).n) ∧ V.cell? ⟨bx, 0, none⟩ = some (.int .u8 ((numV a : Vl).ty : Int)) ∧ V.cell? ⟨bx, 1, none⟩ = some (.int .i64 (numV a : Vl).n)) V := fun V h => ⟨(h.cs br (numV rv) (by simp)).1, (h.cs br (numV rv) (by simp)).2, (h.cs bq (numV qv) (by simp)).1, (h.cs bq (numV qv) (by simp)).2, (h.cs bu (numV sv) (by simp)).1, (h.cs bu (numV sv) (by simp)).2, (h.cs by_ (numV b) (by simp)).1, (h.cs by_ (numV b) (by simp)).2, (h.cs bx (numV a) (by simp)).1, (h.cs bx (numV a) (by simp)).2⟩
    obtain ⟨c00, c01⟩ := RS7.out.cs (br) (numV rv) (by simp)
    obtain ⟨c10, c11⟩ := RS7.out.cs (bq) (numV qv) (by simp)
    obtain ⟨c20, c21⟩ := RS7.out.cs (bu) (numV sv) (by simp)
    obtain ⟨c30, c31⟩ := RS7.out.cs (by_) (numV b) (by simp)
    obtain ⟨c40, c41⟩ := RS7.out.cs (bx) (numV a) (by simp)
    go_wp2_with (fail)
    clear c00 c01 c10 c11 c20 c21 c30 c31 c40 c41
    refine wp_region_held_drew (S := fun V => V.cell? ⟨br, 0, none⟩ = some (.int .u8 ((numV rv : Vl).ty : Int)) ∧ V.cell? ⟨br, 1, none⟩ = some (.int .i64 (numV rv : Vl).n) ∧ V.cell? ⟨bq, 0, none⟩ = some (.int .u8 ((numV qv : Vl).ty : Int)) ∧ V.cell? ⟨bq, 1, none⟩ = some (.int .i64 (numV qv : Vl).n) ∧ V.cell? ⟨bu, 0, none⟩ = some (.int .u8 ((numV sv : Vl).ty : Int)) ∧ V.cell? ⟨bu, 1, none⟩ = some (.int .i64 (numV sv : Vl).n) ∧ V.cell? ⟨by_, 0, none⟩ = some (.int .u8 ((numV b : Vl).ty : Int)) ∧ V.cell? ⟨by_, 1, none⟩ = some (.int .i64 (numV b : Vl).n) ∧ V.cell? ⟨bx, 0, none⟩ = some (.int .u8 ((numV a : Vl).ty : Int)) ∧ V.cell? ⟨bx, 1, none⟩ = some (.int .i64 (numV a : Vl).n)) (by kernel_rfl) ?_ (fun hHeld => ?_)
    · exact SA _ RS7.out.drew
    have RD := hid RS7.out.drew
    refine wpAnyH_ready (rs := [0]) (by kernel_rfl) (by simp) ?_
    refine AllReadyH.cons (o := { dst := some 140, op := Go.Op.call { callee := Go.Callee.value (Go.Operand.func 14), args := #[], argTypes := #[] }, type := 4, pos := _, after := #[], guard := none }) rfl (fun K hK => ?_) AllReadyH.nil
    go_simp
    refine (alive_at _ RD.out.tab).mono ?_
    rintro e v1 ⟨rfl, b1⟩
    have R1 := hid (RD.out.step b1)
    clear b1
    go_wp2_with fail
    refine hK.out _ _ ?_ (fun hHeld => ?_)
    · exact SA _ (R1.out.less (fun _ h => h) (fun _ h => (List.not_mem_nil h).elim))
    clear hK K
    refine wpAnyH_take (i := 1) (oi := { dst := some 141, op := Go.Op.move (Go.Operand.tmp 140), type := 4, pos := _, after := #[{ on := 0, ground := Go.Ground.data }, { on := 0, ground := Go.Ground.chain }], guard := none }) (v := ?_) rfl (by kernel_rfl) (by kernel_rfl) (by kernel_rfl) (fun _ _ _ h => h) (Or.inl ⟨by rfl, ?_⟩) (by assumption) ?_
    rotate_left
    · intro w hSw; (try dsimp only at hSw); go_simp <;> first | with_reducible rfl | (rw [if_neg (by omega)])
    simp only [Act.put, List.setIfInBounds_toArray, List.set_cons_zero, List.set_cons_succ]
    refine wpAnyH_take (i := 2) (oi := { dst := some 142, op := Go.Op.load 24 (Go.Operand.tmp 8), type := 24, pos := _, after := #[{ on := 1, ground := Go.Ground.guard }], guard := some (1, true) }) (v := ?_) rfl (by kernel_rfl) (by kernel_rfl) (by kernel_rfl) (fun _ _ _ h => h) (Or.inl ⟨by rfl, ?_⟩) (by assumption) ?_
    rotate_left
    · intro w hSw; (try dsimp only at hSw); go_simp <;> first | with_reducible rfl | (rw [if_neg (by omega)])
    simp only [Act.put, List.setIfInBounds_toArray, List.set_cons_zero, List.set_cons_succ]
    refine wpAnyH_take (i := 3) (oi := { dst := some 143, op := Go.Op.load 24 (Go.Operand.tmp 6), type := 24, pos := _, after := #[{ on := 1, ground := Go.Ground.guard }], guard := some (1, true) }) (v := ?_) rfl (by kernel_rfl) (by kernel_rfl) (by kernel_rfl) (fun _ _ _ h => h) (Or.inl ⟨by rfl, ?_⟩) (by assumption) ?_
    rotate_left
    · intro w hSw; (try dsimp only at hSw); go_simp <;> first | with_reducible rfl | (rw [if_neg (by omega)])
    simp only [Act.put, List.setIfInBounds_toArray, List.set_cons_zero, List.set_cons_succ]
    refine wpAnyH_take (i := 6) (oi := { dst := some 146, op := Go.Op.load 24 (Go.Operand.tmp 9), type := 24, pos := _, after := #[{ on := 1, ground := Go.Ground.guard }], guard := some (1, true) }) (v := ?_) rfl (by kernel_rfl) (by kernel_rfl) (by kernel_rfl) (fun _ _ _ h => h) (Or.inl ⟨by rfl, ?_⟩) (by assumption) ?_
    rotate_left
    · intro w hSw; (try dsimp only at hSw); go_simp <;> first | with_reducible rfl | (rw [if_neg (by omega)])
    simp only [Act.put, List.setIfInBounds_toArray, List.set_cons_zero, List.set_cons_succ]
    refine wpAnyH_take (i := 9) (oi := { dst := some 149, op := Go.Op.load 24 (Go.Operand.tmp 5), type := 24, pos := _, after := #[{ on := 1, ground := Go.Ground.guard }], guard := some (1, true) }) (v := ?_) rfl (by kernel_rfl) (by kernel_rfl) (by kernel_rfl) (fun _ _ _ h => h) (Or.inl ⟨by rfl, ?_⟩) (by assumption) ?_
    rotate_left
    · intro w hSw; (try dsimp only at hSw); go_simp <;> first | with_reducible rfl | (rw [if_neg (by omega)])
    simp only [Act.put, List.setIfInBounds_toArray, List.set_cons_zero, List.set_cons_succ]
    refine wpAnyH_ready (rs := [4]) (by kernel_rfl) (by simp) ?_
    refine AllReadyH.cons (o := { dst := some 144, op := Go.Op.buildSlice 35 2 #[(0, Go.Operand.tmp 142), (1, Go.Operand.tmp 143)], type := 35, pos := _, after := #[{ on := 2, ground := Go.Ground.data }, { on := 3, ground := Go.Ground.data }, { on := 1, ground := Go.Ground.guard }], guard := some (1, true) }) rfl (fun K hK => ?_) AllReadyH.nil
    refine if_take (by rfl) ?_
    have R2 := hid (R1.out.build [numV qv, numV b] (by simp) (b := v1.heap.size) (by simp))
    go_simp
    refine hK.out _ _ ?_ (fun hHeld => ?_)
    · exact SA _ (R2.out.less (fun _ h => h) (fun _ h => (List.not_mem_nil h).elim))
    clear hK K
    refine wpAnyH_ready (rs := [5]) (by kernel_rfl) (by simp) ?_
    refine AllReadyH.cons (o := { dst := some 145, op := Go.Op.call { callee := Go.Callee.value (Go.Operand.func 13), args := #[Go.Operand.const (Go.Value.int Go.IntKind.u8 8), Go.Operand.tmp 144], argTypes := #[29, 35] }, type := 24, pos := _, after := #[{ on := 4, ground := Go.Ground.data }, { on := 1, ground := Go.Ground.chain }, { on := 1, ground := Go.Ground.guard }], guard := some (1, true) }) rfl (fun K hK => ?_) AllReadyH.nil
    go_simp
    refine (ldo_sl R2.out 8 [numV qv, numV b] (v1.heap.size) (by simp)).mono ?_
    rintro e v3 ⟨rfl, b3⟩
    rw [E10.out]
    have R3 := hid (R2.out.step b3)
    clear b3
    go_wp2_with fail
    refine hK.out _ _ ?_ (fun hHeld => ?_)
    · exact SA _ (R3.out.less (fun _ h => h) (fun _ h => (List.not_mem_nil h).elim))
    clear hK K
    refine wpAnyH_ready (rs := [7]) (by kernel_rfl) (by simp) ?_
    refine AllReadyH.cons (o := { dst := some 147, op := Go.Op.buildSlice 35 2 #[(0, Go.Operand.tmp 145), (1, Go.Operand.tmp 146)], type := 35, pos := _, after := #[{ on := 5, ground := Go.Ground.data }, { on := 6, ground := Go.Ground.data }, { on := 1, ground := Go.Ground.guard }], guard := some (1, true) }) rfl (fun K hK => ?_) AllReadyH.nil
    refine if_take (by rfl) ?_
    have R4 := hid (R3.out.build [numV pv, numV rv] (by simp) (b := v3.heap.size) (by simp))
    go_simp
    refine hK.out _ _ ?_ (fun hHeld => ?_)
    · exact SA _ (R4.out.less (fun _ h => h) (fun _ h => (List.not_mem_nil h).elim))
    clear hK K
    refine wpAnyH_ready (rs := [8]) (by kernel_rfl) (by simp) ?_
    refine AllReadyH.cons (o := { dst := some 148, op := Go.Op.call { callee := Go.Callee.value (Go.Operand.func 13), args := #[Go.Operand.const (Go.Value.int Go.IntKind.u8 6), Go.Operand.tmp 147], argTypes := #[29, 35] }, type := 24, pos := _, after := #[{ on := 7, ground := Go.Ground.data }, { on := 5, ground := Go.Ground.chain }, { on := 1, ground := Go.Ground.guard }], guard := some (1, true) }) rfl (fun K hK => ?_) AllReadyH.nil
    go_simp
    refine (ldo_sl R4.out 6 [numV pv, numV rv] (v3.heap.size) (by simp)).mono ?_
    rintro e v5 ⟨rfl, b5⟩
    rw [E11.out]
    have R5 := hid (R4.out.step b5)
    clear b5
    go_wp2_with fail
    refine hK.out _ _ ?_ (fun hHeld => ?_)
    · exact SA _ (R5.out.less (fun _ h => h) (fun _ h => (List.not_mem_nil h).elim))
    clear hK K
    refine wpAnyH_take (i := 10) (oi := { dst := some 150, op := Go.Op.binOp Go.BinOp.eql 24 (Go.Operand.tmp 148) (Go.Operand.tmp 149) 24, type := 4, pos := _, after := #[{ on := 8, ground := Go.Ground.data }, { on := 9, ground := Go.Ground.data }, { on := 1, ground := Go.Ground.guard }], guard := some (1, true) }) (v := ?_) rfl (by kernel_rfl) (by kernel_rfl) (by kernel_rfl) (fun _ _ _ h => h) (Or.inl ⟨by rfl, ?_⟩) (by assumption) ?_
    rotate_left
    · intro w hSw; (try dsimp only at hSw); go_simp <;> first | with_reducible rfl | (rw [if_neg (by omega)])
    simp only [Act.put, List.setIfInBounds_toArray, List.set_cons_zero, List.set_cons_succ]
    refine wpAnyH_take (i := 11) (oi := { dst := some 151, op := Go.Op.pick (Go.Operand.tmp 141) (Go.Operand.tmp 150) (Go.Operand.const (Go.Value.bool false)), type := 4, pos := _, after := #[{ on := 1, ground := Go.Ground.data }, { on := 10, ground := Go.Ground.data }], guard := none }) (v := ?_) rfl (by kernel_rfl) (by kernel_rfl) (by kernel_rfl) (fun _ _ _ h => h) (Or.inl ⟨by rfl, ?_⟩) (by assumption) ?_
    rotate_left
    · intro w hSw; (try dsimp only at hSw); go_simp <;> first | with_reducible rfl | (rw [if_neg (by omega)])
    simp only [Act.put, List.setIfInBounds_toArray, List.set_cons_zero, List.set_cons_succ]
    refine wpAnyH_take (i := 12) (oi := { dst := some 152, op := Go.Op.move (Go.Operand.tmp 151), type := 4, pos := _, after := #[{ on := 11, ground := Go.Ground.data }, { on := 8, ground := Go.Ground.chain }], guard := none }) (v := ?_) rfl (by kernel_rfl) (by kernel_rfl) (by kernel_rfl) (fun _ _ _ h => h) (Or.inl ⟨by rfl, ?_⟩) (by assumption) ?_
    rotate_left
    · intro w hSw; (try dsimp only at hSw); go_simp <;> first | with_reducible rfl | (rw [if_neg (by omega)])
    simp only [Act.put, List.setIfInBounds_toArray, List.set_cons_zero, List.set_cons_succ]
    refine wpAnyH_take (i := 13) (oi := { dst := some 153, op := Go.Op.move (Go.Operand.tmp 11), type := 4, pos := _, after := #[{ on := 12, ground := Go.Ground.guard }], guard := some (12, true) }) (v := ?_) rfl (by kernel_rfl) (by kernel_rfl) (by kernel_rfl) (fun _ _ _ h => h) (Or.inl ⟨by rfl, ?_⟩) (by assumption) ?_
    rotate_left
    · intro w hSw; (try dsimp only at hSw); go_simp <;> first | with_reducible rfl | (rw [if_neg (by omega)])
    simp only [Act.put, List.setIfInBounds_toArray, List.set_cons_zero, List.set_cons_succ]
    refine wpAnyH_take (i := 14) (oi := { dst := some 154, op := Go.Op.pick (Go.Operand.tmp 152) (Go.Operand.tmp 153) (Go.Operand.const (Go.Value.bool false)), type := 4, pos := _, after := #[{ on := 12, ground := Go.Ground.data }, { on := 13, ground := Go.Ground.data }], guard := none }) (v := ?_) rfl (by kernel_rfl) (by kernel_rfl) (by kernel_rfl) (fun _ _ _ h => h) (Or.inl ⟨by rfl, ?_⟩) (by assumption) ?_
    rotate_left
    · intro w hSw; (try dsimp only at hSw); go_simp <;> first | with_reducible rfl | (rw [if_neg (by omega)])
    simp only [Act.put, List.setIfInBounds_toArray, List.set_cons_zero, List.set_cons_succ]
    refine wpAnyH_take (i := 15) (oi := { dst := some 4, op := Go.Op.assign (Go.Operand.tmp 154), type := 4, pos := _, after := #[{ on := 14, ground := Go.Ground.data }, { on := 12, ground := Go.Ground.chain }, { on := 0, ground := Go.Ground.phase }, { on := 1, ground := Go.Ground.phase }, { on := 2, ground := Go.Ground.phase }, { on := 3, ground := Go.Ground.phase }, { on := 4, ground := Go.Ground.phase }, { on := 5, ground := Go.Ground.phase }, { on := 6, ground := Go.Ground.phase }, { on := 7, ground := Go.Ground.phase }, { on := 8, ground := Go.Ground.phase }, { on := 9, ground := Go.Ground.phase }, { on := 10, ground := Go.Ground.phase }, { on := 11, ground := Go.Ground.phase }, { on := 12, ground := Go.Ground.phase }, { on := 13, ground := Go.Ground.phase }, { on := 14, ground := Go.Ground.phase }], guard := none }) (v := ?_) rfl (by kernel_rfl) (by kernel_rfl) (by kernel_rfl) (fun _ _ _ h => h) (Or.inl ⟨by rfl, ?_⟩) (by assumption) ?_
    rotate_left
    · intro w hSw; (try dsimp only at hSw); go_simp <;> first | with_reducible rfl | (rw [if_neg (by omega)])
    simp only [Act.put, List.setIfInBounds_toArray, List.set_cons_zero, List.set_cons_succ]
    refine wpAnyH_done (by kernel_rfl) ?_ _
    go_wp2_with (fail)
    go_ret
    exact ⟨rfl, R5.out.below⟩
end Go.Proofs.YtkniacdfhajogaaDoor.Val
