/-
  A value as it is written: the contract of Text.
-/
import Derived.Test.YtkniacdfhajogabDoorLdo
import Derived.Test.YtkniacdfhajogabDoorShelf
import Derived.Lib.AppendIntMem
namespace Go.Proofs.YtkniacdfhajogabDoor.Val
open Go.ChangeShapes Go.WideShapes Go.ChangeAt Go.RowKit Go.Joins
set_option maxHeartbeats 1000000
/-- The powers of ten stand in their variable. -/
def TabP (w : World) : Prop := Lib.TabIs Tryd.prog w "internal/strconv.uint64pow10" .u64 Lib.pow10Tab
theorem gPow : Tryd.prog.globalNamed "internal/strconv.uint64pow10" = some 0 := by kernel_rfl
theorem TabP.below {w W : World} (h : TabP w) (hb : Below w.heap.size w W) : TabP W := by
  unfold TabP Lib.TabIs World.var? at h ⊢
  rw [gPow] at h ⊢
  simp only [Option.bind_some] at h ⊢
  by_cases hl : 0 < w.heap.size
  · rw [hb.block 0 hl]; exact h
  · rw [Array.getElem?_eq_none (by omega)] at h; cases h
/-- As a value is written. -/
def txt (v : Vl) : List UInt8 := if chkV v = false then [] else if v.ty = 2 then Lib.formatBool (decide (v.n = 1)) else Lib.itoa v.n
abbrev txtB (v : Vl) : ByteArray := ⟨(txt v).toArray⟩
set_option maxRecDepth 100000 in
theorem text_at (v : Vl) (hv : v.ok) (w : World) (hT : TabP w) : Calls Tryd.prog 5 #[vV v] w fun e w' => e = .returned (.string (txtB v)) ∧ Below w.heap.size w w' := by
  have b0 := (Below.refl w.heap.size w).alloc (Nat.le_refl _) (.cells (vC v) 25)
  have T0 := hid (hT.below b0)
  have B0 := hid b0
  have c := check_at v
  have X0 := hid (heap_alloc_new w (.cells (vC v) 25))
  have HX : Hid (txt v = if chkV v = false then [] else if v.ty = 2 then Lib.formatBool (decide (v.n = 1)) else Lib.itoa v.n) := hid rfl
  have HB := hid hv.2
  clear b0 hT hv
  unfold txtB
  generalize txt v = X at *
  go_enter Tryd.func5, Tryd.ntmps5
  go_wp2_with (fail)
  refine (c _).mono ?_
  rintro e w1 ⟨rfl, hb1⟩
  have B1 := hid (bstep B0.out hb1 B0.out.size)
  have T1 := hid (T0.out.below hb1)
  have X1 := hid (keep_row X0.out hb1)
  obtain ⟨y0, y1⟩ := row2 X1.out
  clear hb1 c
  cases hck : chkV v with
  | false =>
    have HD : Hid (X = []) := hid (by rw [HX.out, if_pos hck])
    clear hck
    go_wp2_with (fail)
    go_ret
    exact ⟨by rw [HD.out]; rfl, B1.out⟩
  | true =>
    have HD0 : Hid (X = if v.ty = 2 then Lib.formatBool (decide (v.n = 1)) else Lib.itoa v.n) := hid (by rw [HX.out, if_neg (by rw [hck]; simp)])
    clear hck
    by_cases h2 : v.ty = 2
    · have e2 : ((v.ty : Int) == 2) = true := by rw [beq_iff_eq]; omega
      have HD : Hid (X = Lib.formatBool (v.n == 1)) := hid (by rw [HD0.out, if_pos h2]; congr 1)
      clear h2
      go_wp2_with (fail)
      refine (Tryd.strconv_FormatBool _ _).mono ?_
      rintro e w2 ⟨rfl, rfl⟩
      rw [← HD.out]
      go_wp2_with (fail)
      go_ret
      exact ⟨rfl, B1.out⟩
    · have e2 : ((v.ty : Int) == 2) = false := by rw [beq_eq_false_iff_ne]; omega
      have HD : Hid (X = Lib.itoa v.n) := hid (by rw [HD0.out, if_neg h2])
      clear h2
      go_wp2_with (fail)
      refine (Tryd.strconv_FormatInt_10 v.n HB.out.1 HB.out.2 _ T1.out).mono ?_
      rintro e w2 ⟨rfl, k, os, rfl⟩
      rw [← HD.out]
      go_wp2_with (fail)
      go_ret
      exact ⟨rfl, bstep B1.out (Lib.below_grow _ _ (Nat.le_refl _) k os) B1.out.size⟩
end Go.Proofs.YtkniacdfhajogabDoor.Val
