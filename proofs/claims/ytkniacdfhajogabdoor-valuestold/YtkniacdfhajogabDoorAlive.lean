/-
  Some answers that the document fixes: the contract of alive.
-/
import Derived.Test.YtkniacdfhajogabDoorText
namespace Go.Proofs.YtkniacdfhajogabDoor.Val
open Go.ChangeShapes Go.WideShapes Go.ChangeAt Go.RowKit Go.Joins
set_option maxHeartbeats 1000000
theorem do_odd (w : World) (X : Obj) : Calls Tryd.prog 13 #[.int .u8 5, .slice (some ⟨w.heap.size + 1, 0, none⟩) 1 1] ((w.alloc X).alloc (.cells #[.int .u8 2, .int .i64 2] 25)) fun e w' => e = .returned (.tuple #[.agg #[.int .u8 0, .int .i64 0], .int .i64 1]) ∧ Below w.heap.size w w' := by
  have h := do1 5 ⟨2, 2⟩ (w.alloc X)
  rw [show (w.alloc X).heap.size = w.heap.size + 1 by simp] at h
  exact h.mono fun _ _ ⟨h1, h2⟩ => ⟨h1, ((Below.refl _ _).alloc (Nat.le_refl _) _).trans (h2.mono (by omega))⟩
set_option maxRecDepth 100000 in
theorem alive_at (w : World) (hT : TabP w) : Calls Tryd.prog 7 #[] w fun e w' => e = .returned (.bool true) ∧ Below w.heap.size w w' := by
  have BB := hid (Below.refl w.heap.size w)
  go_enter Tryd.func7, Tryd.ntmps7
  go_wp2_with (fail)
  refine (lnumber_at 1 _).mono ?_
  rintro e wn ⟨rfl, hb⟩
  replace BB := hid (by first | exact bstep BB.out hb BB.out.size | exact bstep (BB.out.alloc BB.out.size _) hb (BB.out.alloc BB.out.size _).size : Below w.heap.size w wn)
  clear hb
  go_wp2_with (fail)
  refine (do1 6 (numV 1) _).mono ?_
  rintro e wn ⟨rfl, hb⟩
  replace BB := hid (by first | exact bstep BB.out hb BB.out.size | exact bstep (BB.out.alloc BB.out.size _) hb (BB.out.alloc BB.out.size _).size : Below w.heap.size w wn)
  clear hb
  rw [show doV 6 [numV 1] = (⟨0, 0⟩, 1) from rfl]
  go_wp2_with (fail)
  refine (lnumber_at 1 _).mono ?_
  rintro e wn ⟨rfl, hb⟩
  replace BB := hid (by first | exact bstep BB.out hb BB.out.size | exact bstep (BB.out.alloc BB.out.size _) hb (BB.out.alloc BB.out.size _).size : Below w.heap.size w wn)
  clear hb
  go_wp2_with (fail)
  refine (lyes_at true _).mono ?_
  rintro e wn ⟨rfl, hb⟩
  replace BB := hid (by first | exact bstep BB.out hb BB.out.size | exact bstep (BB.out.alloc BB.out.size _) hb (BB.out.alloc BB.out.size _).size : Below w.heap.size w wn)
  clear hb
  go_wp2_with (fail)
  refine (do2 6 (numV 1) (yesV true) _).mono ?_
  rintro e wn ⟨rfl, hb⟩
  replace BB := hid (by first | exact bstep BB.out hb BB.out.size | exact bstep (BB.out.alloc BB.out.size _) hb (BB.out.alloc BB.out.size _).size : Below w.heap.size w wn)
  clear hb
  rw [show doV 6 [numV 1, yesV true] = (⟨0, 0⟩, 7) from rfl]
  go_wp2_with (fail)
  refine (do_odd _ _).mono ?_
  rintro e wn ⟨rfl, hb⟩
  replace BB := hid (by first | exact bstep BB.out hb BB.out.size | exact bstep (BB.out.alloc BB.out.size _) hb (BB.out.alloc BB.out.size _).size : Below w.heap.size w wn)
  clear hb
  go_wp2_with (fail)
  refine (lnumber_at (-7) _).mono ?_
  rintro e wn ⟨rfl, hb⟩
  replace BB := hid (by first | exact bstep BB.out hb BB.out.size | exact bstep (BB.out.alloc BB.out.size _) hb (BB.out.alloc BB.out.size _).size : Below w.heap.size w wn)
  clear hb
  go_wp2_with (fail)
  refine (lnumber_at 2 _).mono ?_
  rintro e wn ⟨rfl, hb⟩
  replace BB := hid (by first | exact bstep BB.out hb BB.out.size | exact bstep (BB.out.alloc BB.out.size _) hb (BB.out.alloc BB.out.size _).size : Below w.heap.size w wn)
  clear hb
  go_wp2_with (fail)
  refine (ldo2 9 (numV (-7)) (numV 2) _).mono ?_
  rintro e wn ⟨rfl, hb⟩
  replace BB := hid (by first | exact bstep BB.out hb BB.out.size | exact bstep (BB.out.alloc BB.out.size _) hb (BB.out.alloc BB.out.size _).size : Below w.heap.size w wn)
  clear hb
  rw [show doE 9 [numV (-7), numV 2] = numV (-3) from by kernel_rfl]
  go_wp2_with (fail)
  refine (lnumber_at (-3) _).mono ?_
  rintro e wn ⟨rfl, hb⟩
  replace BB := hid (by first | exact bstep BB.out hb BB.out.size | exact bstep (BB.out.alloc BB.out.size _) hb (BB.out.alloc BB.out.size _).size : Below w.heap.size w wn)
  clear hb
  go_wp2_with (fail)
  refine (lnumber_at (-7) _).mono ?_
  rintro e wn ⟨rfl, hb⟩
  replace BB := hid (by first | exact bstep BB.out hb BB.out.size | exact bstep (BB.out.alloc BB.out.size _) hb (BB.out.alloc BB.out.size _).size : Below w.heap.size w wn)
  clear hb
  go_wp2_with (fail)
  refine (lnumber_at 2 _).mono ?_
  rintro e wn ⟨rfl, hb⟩
  replace BB := hid (by first | exact bstep BB.out hb BB.out.size | exact bstep (BB.out.alloc BB.out.size _) hb (BB.out.alloc BB.out.size _).size : Below w.heap.size w wn)
  clear hb
  go_wp2_with (fail)
  refine (ldo2 10 (numV (-7)) (numV 2) _).mono ?_
  rintro e wn ⟨rfl, hb⟩
  replace BB := hid (by first | exact bstep BB.out hb BB.out.size | exact bstep (BB.out.alloc BB.out.size _) hb (BB.out.alloc BB.out.size _).size : Below w.heap.size w wn)
  clear hb
  rw [show doE 10 [numV (-7), numV 2] = numV (-1) from by kernel_rfl]
  go_wp2_with (fail)
  refine (lnumber_at (-1) _).mono ?_
  rintro e wn ⟨rfl, hb⟩
  replace BB := hid (by first | exact bstep BB.out hb BB.out.size | exact bstep (BB.out.alloc BB.out.size _) hb (BB.out.alloc BB.out.size _).size : Below w.heap.size w wn)
  clear hb
  go_wp2_with (fail)
  refine (lnumber_at 5 _).mono ?_
  rintro e wn ⟨rfl, hb⟩
  replace BB := hid (by first | exact bstep BB.out hb BB.out.size | exact bstep (BB.out.alloc BB.out.size _) hb (BB.out.alloc BB.out.size _).size : Below w.heap.size w wn)
  clear hb
  go_wp2_with (fail)
  refine (lnumber_at 0 _).mono ?_
  rintro e wn ⟨rfl, hb⟩
  replace BB := hid (by first | exact bstep BB.out hb BB.out.size | exact bstep (BB.out.alloc BB.out.size _) hb (BB.out.alloc BB.out.size _).size : Below w.heap.size w wn)
  clear hb
  go_wp2_with (fail)
  refine (ldo2 9 (numV 5) (numV 0) _).mono ?_
  rintro e wn ⟨rfl, hb⟩
  replace BB := hid (by first | exact bstep BB.out hb BB.out.size | exact bstep (BB.out.alloc BB.out.size _) hb (BB.out.alloc BB.out.size _).size : Below w.heap.size w wn)
  clear hb
  rw [show doE 9 [numV 5, numV 0] = numV 0 from by kernel_rfl]
  go_wp2_with (fail)
  refine (lnumber_at 0 _).mono ?_
  rintro e wn ⟨rfl, hb⟩
  replace BB := hid (by first | exact bstep BB.out hb BB.out.size | exact bstep (BB.out.alloc BB.out.size _) hb (BB.out.alloc BB.out.size _).size : Below w.heap.size w wn)
  clear hb
  go_wp2_with (fail)
  refine (lnumber_at (-9223372036854775808) _).mono ?_
  rintro e wn ⟨rfl, hb⟩
  replace BB := hid (by first | exact bstep BB.out hb BB.out.size | exact bstep (BB.out.alloc BB.out.size _) hb (BB.out.alloc BB.out.size _).size : Below w.heap.size w wn)
  clear hb
  go_wp2_with (fail)
  refine (lnumber_at (-1) _).mono ?_
  rintro e wn ⟨rfl, hb⟩
  replace BB := hid (by first | exact bstep BB.out hb BB.out.size | exact bstep (BB.out.alloc BB.out.size _) hb (BB.out.alloc BB.out.size _).size : Below w.heap.size w wn)
  clear hb
  go_wp2_with (fail)
  refine (ldo2 9 (numV (-9223372036854775808)) (numV (-1)) _).mono ?_
  rintro e wn ⟨rfl, hb⟩
  replace BB := hid (by first | exact bstep BB.out hb BB.out.size | exact bstep (BB.out.alloc BB.out.size _) hb (BB.out.alloc BB.out.size _).size : Below w.heap.size w wn)
  clear hb
  rw [show doE 9 [numV (-9223372036854775808), numV (-1)] = numV (-9223372036854775808) from by kernel_rfl]
  go_wp2_with (fail)
  refine (lnumber_at (-9223372036854775808) _).mono ?_
  rintro e wn ⟨rfl, hb⟩
  replace BB := hid (by first | exact bstep BB.out hb BB.out.size | exact bstep (BB.out.alloc BB.out.size _) hb (BB.out.alloc BB.out.size _).size : Below w.heap.size w wn)
  clear hb
  go_wp2_with (fail)
  refine (lyes_at true _).mono ?_
  rintro e wn ⟨rfl, hb⟩
  replace BB := hid (by first | exact bstep BB.out hb BB.out.size | exact bstep (BB.out.alloc BB.out.size _) hb (BB.out.alloc BB.out.size _).size : Below w.heap.size w wn)
  clear hb
  go_wp2_with (fail)
  refine (lnumber_at 1 _).mono ?_
  rintro e wn ⟨rfl, hb⟩
  replace BB := hid (by first | exact bstep BB.out hb BB.out.size | exact bstep (BB.out.alloc BB.out.size _) hb (BB.out.alloc BB.out.size _).size : Below w.heap.size w wn)
  clear hb
  go_wp2_with (fail)
  refine (lnumber_at 2 _).mono ?_
  rintro e wn ⟨rfl, hb⟩
  replace BB := hid (by first | exact bstep BB.out hb BB.out.size | exact bstep (BB.out.alloc BB.out.size _) hb (BB.out.alloc BB.out.size _).size : Below w.heap.size w wn)
  clear hb
  go_wp2_with (fail)
  refine (ldo3 17 (yesV true) (numV 1) (numV 2) _).mono ?_
  rintro e wn ⟨rfl, hb⟩
  replace BB := hid (by first | exact bstep BB.out hb BB.out.size | exact bstep (BB.out.alloc BB.out.size _) hb (BB.out.alloc BB.out.size _).size : Below w.heap.size w wn)
  clear hb
  rw [show doE 17 [yesV true, numV 1, numV 2] = numV 1 from by kernel_rfl]
  go_wp2_with (fail)
  refine (lnumber_at 1 _).mono ?_
  rintro e wn ⟨rfl, hb⟩
  replace BB := hid (by first | exact bstep BB.out hb BB.out.size | exact bstep (BB.out.alloc BB.out.size _) hb (BB.out.alloc BB.out.size _).size : Below w.heap.size w wn)
  clear hb
  go_wp2_with (fail)
  refine (lyes_at true _).mono ?_
  rintro e wn ⟨rfl, hb⟩
  replace BB := hid (by first | exact bstep BB.out hb BB.out.size | exact bstep (BB.out.alloc BB.out.size _) hb (BB.out.alloc BB.out.size _).size : Below w.heap.size w wn)
  clear hb
  go_wp2_with (fail)
  refine (lyes_at false _).mono ?_
  rintro e wn ⟨rfl, hb⟩
  replace BB := hid (by first | exact bstep BB.out hb BB.out.size | exact bstep (BB.out.alloc BB.out.size _) hb (BB.out.alloc BB.out.size _).size : Below w.heap.size w wn)
  clear hb
  go_wp2_with (fail)
  refine (ldo2 12 (yesV true) (yesV false) _).mono ?_
  rintro e wn ⟨rfl, hb⟩
  replace BB := hid (by first | exact bstep BB.out hb BB.out.size | exact bstep (BB.out.alloc BB.out.size _) hb (BB.out.alloc BB.out.size _).size : Below w.heap.size w wn)
  clear hb
  rw [show doE 12 [yesV true, yesV false] = yesV true from by kernel_rfl]
  go_wp2_with (fail)
  refine (lyes_at true _).mono ?_
  rintro e wn ⟨rfl, hb⟩
  replace BB := hid (by first | exact bstep BB.out hb BB.out.size | exact bstep (BB.out.alloc BB.out.size _) hb (BB.out.alloc BB.out.size _).size : Below w.heap.size w wn)
  clear hb
  go_wp2_with (fail)
  refine (lnumber_at (-5) _).mono ?_
  rintro e wn ⟨rfl, hb⟩
  replace BB := hid (by first | exact bstep BB.out hb BB.out.size | exact bstep (BB.out.alloc BB.out.size _) hb (BB.out.alloc BB.out.size _).size : Below w.heap.size w wn)
  clear hb
  go_wp2_with (fail)
  refine (text_at (numV (-5)) ⟨by decide, by decide, by decide⟩ _ (hT.below BB.out)).mono ?_
  rintro e wn ⟨rfl, hb⟩
  replace BB := hid (by first | exact bstep BB.out hb BB.out.size | exact bstep (BB.out.alloc BB.out.size _) hb (BB.out.alloc BB.out.size _).size : Below w.heap.size w wn)
  clear hb
  rw [show txtB (numV (-5)) = ⟨#[45, 53]⟩ from by kernel_rfl]
  go_wp2_with (fail)
  refine (lyes_at true _).mono ?_
  rintro e wn ⟨rfl, hb⟩
  replace BB := hid (by first | exact bstep BB.out hb BB.out.size | exact bstep (BB.out.alloc BB.out.size _) hb (BB.out.alloc BB.out.size _).size : Below w.heap.size w wn)
  clear hb
  go_wp2_with (fail)
  refine (text_at (yesV true) ⟨by decide, by decide, by decide⟩ _ (hT.below BB.out)).mono ?_
  rintro e wn ⟨rfl, hb⟩
  replace BB := hid (by first | exact bstep BB.out hb BB.out.size | exact bstep (BB.out.alloc BB.out.size _) hb (BB.out.alloc BB.out.size _).size : Below w.heap.size w wn)
  clear hb
  rw [show txtB (yesV true) = ⟨#[116, 114, 117, 101]⟩ from by kernel_rfl]
  go_wp2_with (fail)
  go_ret
  exact ⟨rfl, BB.out⟩
end Go.Proofs.YtkniacdfhajogabDoor.Val
