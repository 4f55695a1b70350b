/-
  Some answers that the document fixes: alive.
-/
import Derived.Test.YtafelijlolidhabDoorAnswers
namespace Go.Proofs.YtafelijlolidhabDoor.Lex
open Go.RowKit
theorem hid {p : Prop} (h : p) : Hid p := h
set_option maxRecDepth 100000 in
set_option maxHeartbeats 1000000 in
theorem alive (w : World) (hL : Laid w) (hT : TabS w) : Calls Tryd.prog 5 #[] w fun e w' => e = .returned (.bool true) ∧ Below w.heap.size w w' := by
  have c1 := fun W hT => read_ok ⟨#[97, 49, 60, 61, 45, 50, 32, 45, 45, 120]⟩ wantL al_toks1 W hT (by decide)
  have c2 : ∀ W, TabS W → Calls Tryd.prog 7 #[.string ⟨#[97, 32, 33, 32, 98]⟩] W fun e w' => e = .returned (.tuple #[.slice none 0 0, .int .i64 2, .int .i64 5]) ∧ Below W.heap.size W w' := fun W hT => read_bad ⟨#[97, 32, 33, 32, 98]⟩ 2 al_toks2 W hT (by decide)
  have c3 := fun W hL => num_of _ _ _ al_num1 W hL (by decide)
  have c4 := fun W hL => num_of _ _ _ al_num2 W hL (by decide)
  have c5 := fun W hL => num_of _ _ _ al_num3 W hL (by decide)
  have c6 := fun W hL => name_of _ _ al_name1 W hL
  have c7 := fun W hL => name_of _ _ al_name2 W hL
  have c8 := fun W hL => name_of _ _ al_name3 W hL
  have hA : Hid (At w w) := ⟨Below.refl _ _, hL, hT⟩
  clear hL hT
  go_enter Tryd.func5, Tryd.ntmps5
  generalize (⟨#[97, 49, 60, 61, 45, 50, 32, 45, 45, 120]⟩ : ByteArray) = S1 at c1 ⊢
  generalize (⟨#[97, 32, 33, 32, 98]⟩ : ByteArray) = S2 at c2 ⊢
  generalize (⟨#[57, 50, 50, 51, 51, 55, 50, 48, 51, 54, 56, 53, 52, 55, 55, 53, 56, 48, 55]⟩ : ByteArray) = S3 at c3 ⊢
  generalize (⟨#[57, 50, 50, 51, 51, 55, 50, 48, 51, 54, 56, 53, 52, 55, 55, 53, 56, 48, 56]⟩ : ByteArray) = S4 at c4 ⊢
  generalize (⟨#[48, 48]⟩ : ByteArray) = S5 at c5 ⊢
  generalize (⟨#[97, 95, 49]⟩ : ByteArray) = S6 at c6 ⊢
  generalize (⟨#[95, 97]⟩ : ByteArray) = S7 at c7 ⊢
  generalize (⟨#[112, 114, 101]⟩ : ByteArray) = S8 at c8 ⊢
  generalize (9223372036854775807 : Int) = M at c3 ⊢
  go_wp2_with (first
    | (go_at_call 7; refine (c1 _ hA.out.tab).mono ?_; rintro e w1 ⟨v, rfl, ho1, hb1⟩; have A1 := hid (hA.out.step hb1); have T1 := hid (TokAt.of_own ho1); clear hb1 ho1 c1)
    | (go_at_call 7; refine (c2 _ A1.out.tab).mono ?_; rintro e w2 ⟨rfl, hb2⟩; have A2 := hid (A1.out.step hb2); have T2 := hid (T1.out.below hb2); clear hb2 c2)
    | (go_at_call 9; refine (c3 _ A2.out.laid).mono ?_; rintro e w3 ⟨rfl, hb3⟩; have A3 := hid (A2.out.step hb3); have T3 := hid (T2.out.below hb3); clear hb3 c3)
    | (go_at_call 9; refine (c4 _ A3.out.laid).mono ?_; rintro e w4 ⟨rfl, hb4⟩; have A4 := hid (A3.out.step hb4); have T4 := hid (T3.out.below hb4); clear hb4 c4)
    | (go_at_call 9; refine (c5 _ A4.out.laid).mono ?_; rintro e w5 ⟨rfl, hb5⟩; have A5 := hid (A4.out.step hb5); have T5 := hid (T4.out.below hb5); have A6 := hid (p := At w (w5.alloc (.cells wantV 30))) (A5.out.step ((Below.refl _ _).alloc (Nat.le_refl _) _)); have T6 := hid (p := TokAt (w5.alloc (.cells wantV 30)) v wantL) (T5.out.below ((Below.refl _ _).alloc (Nat.le_refl _) _)); clear hb5 c5)
    | (go_at_call 8; refine (same' _ _ wantL _ T6.out (want_at w5) (by decide)).mono ?_; rintro e w7 ⟨rfl, hb7⟩; have A7 := hid (A6.out.step hb7); clear hb7)
    | (go_at_call 6; refine (c6 _ A7.out.laid).mono ?_; rintro e w8 ⟨rfl, hb8⟩; have A8 := hid (A7.out.step hb8); clear hb8 c6)
    | (go_at_call 6; refine (c7 _ A8.out.laid).mono ?_; rintro e w9 ⟨rfl, hb9⟩; have A9 := hid (A8.out.step hb9); clear hb9 c7)
    | (go_at_call 6; refine (c8 _ A9.out.laid).mono ?_; rintro e w10 ⟨rfl, hb10⟩; have A10 := hid (A9.out.step hb10); clear hb10 c8))
  go_ret
  exact ⟨rfl, A10.out.below⟩
end Go.Proofs.YtafelijlolidhabDoor.Lex
