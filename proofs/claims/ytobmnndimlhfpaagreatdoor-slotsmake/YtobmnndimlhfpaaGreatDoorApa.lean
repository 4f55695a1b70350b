/-
  Apart: no list of the book shares memory with another one.
-/
import Derived.Test.YtobmnndimlhfpaaGreatDoorNon
import Derived.Test.YtobmnndimlhfpaaGreatDoorGroInt
import Derived.Test.YtobmnndimlhfpaaGreatDoorLooInt
import Derived.Test.YtobmnndimlhfpaaGreatDoorKeeInt
import Derived.Test.YtobmnndimlhfpaaGreatDoorGroSlot
import Derived.Test.YtobmnndimlhfpaaGreatDoorLooSlot
import Derived.Test.YtobmnndimlhfpaaGreatDoorKeeSlot
namespace Go.Proofs.YtobmnndimlhfpaaGreatDoor.Slo
set_option linter.unusedVariables false
open Go.ChangeShapes Go.WideShapes Go.ChangeAt Go.RowKit Go.Joins
theorem Same.bound {E F : List En} (h : Same E F) (hm : ∀ (i : Nat) (a : En), E[i]? = some a → a.m < 100000 ∧ a.k < 1000) : ∀ (i : Nat) (a : En), F[i]? = some a → a.m < 100000 ∧ a.k < 1000 := fun i a ha => by
  obtain ⟨b, hb, _, h2, h3⟩ := h.2 i a ha
  have := hm i b hb
  rw [h2, h3] at this
  exact this
set_option maxRecDepth 100000 in
set_option maxHeartbeats 8000000 in
theorem apart_at (w : World) (bk : Nat) (C : Array Value) (vInt : Value) (EInt : List En) (vSlot : Value) (ESlot : List En) (hbk : w.heap[bk]? = some (.cells C 59 (0, 0))) (hnil : ∀ c, 1 ≤ c → c < 18 → c ≠ 2 → c ≠ 12 → C[c]? = some (.slice none 0 0)) (hCInt : C[2]? = some vInt) (hKInt : IntAt w vInt EInt 0 0) (hnInt : EInt.length < 1000) (hmInt : ∀ (i : Nat) (a : En), EInt[i]? = some a → a.m < 100000 ∧ a.k < 1000) (hCSlot : C[12]? = some vSlot) (hKSlot : SlotAt w vSlot ESlot 0 0) (hnSlot : ESlot.length < 1000) (hmSlot : ∀ (i : Nat) (a : En), ESlot[i]? = some a → a.m < 100000 ∧ a.k < 1000) :
    Calls Tryz.prog 20 #[.pointer (some ⟨bk, 0, none⟩)] w fun e w' => e = .returned (.bool true) ∧ Mv w w' (fun i => (KB EInt i ∨ vInt.ownBlock = some i) ∨ (KB ESlot i ∨ vSlot.ownBlock = some i)) := by
  have KS_Int : ∀ i : Nat, (KB EInt i ∨ vInt.ownBlock = some i) → (fun i => (KB EInt i ∨ vInt.ownBlock = some i) ∨ (KB ESlot i ∨ vSlot.ownBlock = some i)) i := fun i h => Or.inl h
  have KS_Slot : ∀ i : Nat, (KB ESlot i ∨ vSlot.ownBlock = some i) → (fun i => (KB EInt i ∨ vInt.ownBlock = some i) ∨ (KB ESlot i ∨ vSlot.ownBlock = some i)) i := fun i h => Or.inr (h)
  have HN := hid hnil
  have HB0 := hid hbk
  have HInt0 := hid hKInt
  have HSlot0 := hid hKSlot
  have HM0 : Hid (Mv w w (fun i => (KB EInt i ∨ vInt.ownBlock = some i) ∨ (KB ESlot i ∨ vSlot.ownBlock = some i))) := hid (Mv.refl _ _)
  clear hnil hbk hKInt hKSlot
  go_enter Tryz.func20, Tryz.ntmps20
  go_wp2_with (first
    | (go_at_call 36; refine (none_36 bk C _ HB0.out (HN.out 1 (by decide) (by decide) (by decide) (by decide))).mono ?_; rintro e w9 ⟨⟨u, rfl⟩, h9⟩; rw [h9]; clear h9 w9)
    | (go_at_call 37; refine (fill_Int _ bk C vInt EInt HB0.out hCInt HInt0.out hnInt hmInt).mono ?_; rintro e w1 ⟨⟨u, rfl⟩, hk, hm⟩; have hm' := hm.mono (S' := fun i => KB EInt i ∨ vInt.ownBlock = some i) (fun i hi => .inl (.inl hi)); have HInt1 := hid hk; have HB1 := hid (HInt0.out.bookKept HB0.out ⟨by decide, by decide⟩ hm'); have HSlot1 := hid (HSlot0.out.side HInt0.out ⟨by decide, by decide, by decide, by decide⟩ hm'); have HM1 := hid (HM0.out.trans hm' (fun i hi => .inl (KS_Int i hi))); clear hk hm' hm)
    | (go_at_call 38; refine (none_38 bk C _ HB1.out (HN.out 3 (by decide) (by decide) (by decide) (by decide))).mono ?_; rintro e w9 ⟨⟨u, rfl⟩, h9⟩; rw [h9]; clear h9 w9)
    | (go_at_call 39; refine (none_39 bk C _ HB1.out (HN.out 4 (by decide) (by decide) (by decide) (by decide))).mono ?_; rintro e w9 ⟨⟨u, rfl⟩, h9⟩; rw [h9]; clear h9 w9)
    | (go_at_call 40; refine (none_40 bk C _ HB1.out (HN.out 5 (by decide) (by decide) (by decide) (by decide))).mono ?_; rintro e w9 ⟨⟨u, rfl⟩, h9⟩; rw [h9]; clear h9 w9)
    | (go_at_call 41; refine (none_41 bk C _ HB1.out (HN.out 6 (by decide) (by decide) (by decide) (by decide))).mono ?_; rintro e w9 ⟨⟨u, rfl⟩, h9⟩; rw [h9]; clear h9 w9)
    | (go_at_call 42; refine (none_42 bk C _ HB1.out (HN.out 7 (by decide) (by decide) (by decide) (by decide))).mono ?_; rintro e w9 ⟨⟨u, rfl⟩, h9⟩; rw [h9]; clear h9 w9)
    | (go_at_call 43; refine (none_43 bk C _ HB1.out (HN.out 8 (by decide) (by decide) (by decide) (by decide))).mono ?_; rintro e w9 ⟨⟨u, rfl⟩, h9⟩; rw [h9]; clear h9 w9)
    | (go_at_call 44; refine (none_44 bk C _ HB1.out (HN.out 9 (by decide) (by decide) (by decide) (by decide))).mono ?_; rintro e w9 ⟨⟨u, rfl⟩, h9⟩; rw [h9]; clear h9 w9)
    | (go_at_call 45; refine (none_45 bk C _ HB1.out (HN.out 10 (by decide) (by decide) (by decide) (by decide))).mono ?_; rintro e w9 ⟨⟨u, rfl⟩, h9⟩; rw [h9]; clear h9 w9)
    | (go_at_call 46; refine (none_46 bk C _ HB1.out (HN.out 11 (by decide) (by decide) (by decide) (by decide))).mono ?_; rintro e w9 ⟨⟨u, rfl⟩, h9⟩; rw [h9]; clear h9 w9)
    | (go_at_call 47; refine (fill_Slot _ bk C vSlot ESlot HB1.out hCSlot HSlot1.out hnSlot hmSlot).mono ?_; rintro e w2 ⟨⟨u, rfl⟩, hk, hm⟩; have hm' := hm.mono (S' := fun i => KB ESlot i ∨ vSlot.ownBlock = some i) (fun i hi => .inl (.inl hi)); have HSlot2 := hid hk; have HB2 := hid (HSlot1.out.bookKept HB1.out ⟨by decide, by decide⟩ hm'); have HInt2 := hid (HInt1.out.side HSlot1.out ⟨by decide, by decide, by decide, by decide⟩ hm'); have HM2 := hid (HM1.out.trans hm' (fun i hi => .inl (KS_Slot i hi))); clear hk hm' hm)
    | (go_at_call 48; refine (none_48 bk C _ HB2.out (HN.out 13 (by decide) (by decide) (by decide) (by decide))).mono ?_; rintro e w9 ⟨⟨u, rfl⟩, h9⟩; rw [h9]; clear h9 w9)
    | (go_at_call 49; refine (none_49 bk C _ HB2.out (HN.out 14 (by decide) (by decide) (by decide) (by decide))).mono ?_; rintro e w9 ⟨⟨u, rfl⟩, h9⟩; rw [h9]; clear h9 w9)
    | (go_at_call 50; refine (none_50 bk C _ HB2.out (HN.out 15 (by decide) (by decide) (by decide) (by decide))).mono ?_; rintro e w9 ⟨⟨u, rfl⟩, h9⟩; rw [h9]; clear h9 w9)
    | (go_at_call 51; refine (none_51 bk C _ HB2.out (HN.out 16 (by decide) (by decide) (by decide) (by decide))).mono ?_; rintro e w9 ⟨⟨u, rfl⟩, h9⟩; rw [h9]; clear h9 w9)
    | (go_at_call 52; refine (none_52 bk C _ HB2.out (HN.out 17 (by decide) (by decide) (by decide) (by decide))).mono ?_; rintro e w9 ⟨⟨u, rfl⟩, h9⟩; rw [h9]; clear h9 w9)
    | (go_at_call 53; refine (none_53 bk C _ HB2.out (HN.out 1 (by decide) (by decide) (by decide) (by decide))).mono ?_; rintro e w9 ⟨⟨u, rfl⟩, h9⟩; rw [h9]; clear h9 w9)
    | (go_at_call 54; refine (grow_Int _ bk C vInt EInt HB2.out hCInt HInt2.out hnInt hmInt).mono ?_; rintro e w3 ⟨⟨u, rfl⟩, ⟨FInt, hsInt, hk⟩, hm'⟩; have HInt3 := hid hk; have HB3 := hid (HInt2.out.bookKept HB2.out ⟨by decide, by decide⟩ hm'); have HSlot3 := hid (HSlot2.out.side HInt2.out ⟨by decide, by decide, by decide, by decide⟩ hm'); have HM3 := hid (HM2.out.trans hm' (fun i hi => .inl (KS_Int i hi))); clear hk hm')
    | (go_at_call 55; refine (none_55 bk C _ HB3.out (HN.out 3 (by decide) (by decide) (by decide) (by decide))).mono ?_; rintro e w9 ⟨⟨u, rfl⟩, h9⟩; rw [h9]; clear h9 w9)
    | (go_at_call 56; refine (none_56 bk C _ HB3.out (HN.out 4 (by decide) (by decide) (by decide) (by decide))).mono ?_; rintro e w9 ⟨⟨u, rfl⟩, h9⟩; rw [h9]; clear h9 w9)
    | (go_at_call 57; refine (none_57 bk C _ HB3.out (HN.out 5 (by decide) (by decide) (by decide) (by decide))).mono ?_; rintro e w9 ⟨⟨u, rfl⟩, h9⟩; rw [h9]; clear h9 w9)
    | (go_at_call 58; refine (none_58 bk C _ HB3.out (HN.out 6 (by decide) (by decide) (by decide) (by decide))).mono ?_; rintro e w9 ⟨⟨u, rfl⟩, h9⟩; rw [h9]; clear h9 w9)
    | (go_at_call 59; refine (none_59 bk C _ HB3.out (HN.out 7 (by decide) (by decide) (by decide) (by decide))).mono ?_; rintro e w9 ⟨⟨u, rfl⟩, h9⟩; rw [h9]; clear h9 w9)
    | (go_at_call 60; refine (none_60 bk C _ HB3.out (HN.out 8 (by decide) (by decide) (by decide) (by decide))).mono ?_; rintro e w9 ⟨⟨u, rfl⟩, h9⟩; rw [h9]; clear h9 w9)
    | (go_at_call 61; refine (none_61 bk C _ HB3.out (HN.out 9 (by decide) (by decide) (by decide) (by decide))).mono ?_; rintro e w9 ⟨⟨u, rfl⟩, h9⟩; rw [h9]; clear h9 w9)
    | (go_at_call 62; refine (none_62 bk C _ HB3.out (HN.out 10 (by decide) (by decide) (by decide) (by decide))).mono ?_; rintro e w9 ⟨⟨u, rfl⟩, h9⟩; rw [h9]; clear h9 w9)
    | (go_at_call 63; refine (none_63 bk C _ HB3.out (HN.out 11 (by decide) (by decide) (by decide) (by decide))).mono ?_; rintro e w9 ⟨⟨u, rfl⟩, h9⟩; rw [h9]; clear h9 w9)
    | (go_at_call 64; refine (grow_Slot _ bk C vSlot ESlot HB3.out hCSlot HSlot3.out hnSlot hmSlot).mono ?_; rintro e w4 ⟨⟨u, rfl⟩, ⟨FSlot, hsSlot, hk⟩, hm'⟩; have HSlot4 := hid hk; have HB4 := hid (HSlot3.out.bookKept HB3.out ⟨by decide, by decide⟩ hm'); have HInt4 := hid (HInt3.out.side HSlot3.out ⟨by decide, by decide, by decide, by decide⟩ hm'); have HM4 := hid (HM3.out.trans hm' (fun i hi => .inl (KS_Slot i hi))); clear hk hm')
    | (go_at_call 65; refine (none_65 bk C _ HB4.out (HN.out 13 (by decide) (by decide) (by decide) (by decide))).mono ?_; rintro e w9 ⟨⟨u, rfl⟩, h9⟩; rw [h9]; clear h9 w9)
    | (go_at_call 66; refine (none_66 bk C _ HB4.out (HN.out 14 (by decide) (by decide) (by decide) (by decide))).mono ?_; rintro e w9 ⟨⟨u, rfl⟩, h9⟩; rw [h9]; clear h9 w9)
    | (go_at_call 67; refine (none_67 bk C _ HB4.out (HN.out 15 (by decide) (by decide) (by decide) (by decide))).mono ?_; rintro e w9 ⟨⟨u, rfl⟩, h9⟩; rw [h9]; clear h9 w9)
    | (go_at_call 68; refine (none_68 bk C _ HB4.out (HN.out 16 (by decide) (by decide) (by decide) (by decide))).mono ?_; rintro e w9 ⟨⟨u, rfl⟩, h9⟩; rw [h9]; clear h9 w9)
    | (go_at_call 69; refine (none_69 bk C _ HB4.out (HN.out 17 (by decide) (by decide) (by decide) (by decide))).mono ?_; rintro e w9 ⟨⟨u, rfl⟩, h9⟩; rw [h9]; clear h9 w9)
    | (go_at_call 70; refine (none_70 bk C _ HB4.out (HN.out 1 (by decide) (by decide) (by decide) (by decide))).mono ?_; rintro e w9 ⟨rfl, h9⟩; rw [h9]; clear h9 w9)
    | (go_at_call 71; refine (look_Int _ bk C vInt FInt HB4.out hCInt (by rw [hsInt.1]; exact HInt4.out) (by rw [hsInt.1]; exact hnInt) (Same.bound hsInt hmInt)).mono ?_; rintro e w5 ⟨rfl, hb⟩; have HInt5 := hid (HInt4.out.below hb); have HB5 := hid (keep_row HB4.out hb); have HSlot5 := hid (HSlot4.out.below hb); have HM5 := hid (HM4.out.trans (Mv.ofBelow (S := fun _ => False) hb) (fun i hi => hi.elim)); clear hb)
    | (go_at_call 72; refine (none_72 bk C _ HB5.out (HN.out 3 (by decide) (by decide) (by decide) (by decide))).mono ?_; rintro e w9 ⟨rfl, h9⟩; rw [h9]; clear h9 w9)
    | (go_at_call 73; refine (none_73 bk C _ HB5.out (HN.out 4 (by decide) (by decide) (by decide) (by decide))).mono ?_; rintro e w9 ⟨rfl, h9⟩; rw [h9]; clear h9 w9)
    | (go_at_call 74; refine (none_74 bk C _ HB5.out (HN.out 5 (by decide) (by decide) (by decide) (by decide))).mono ?_; rintro e w9 ⟨rfl, h9⟩; rw [h9]; clear h9 w9)
    | (go_at_call 75; refine (none_75 bk C _ HB5.out (HN.out 6 (by decide) (by decide) (by decide) (by decide))).mono ?_; rintro e w9 ⟨rfl, h9⟩; rw [h9]; clear h9 w9)
    | (go_at_call 76; refine (none_76 bk C _ HB5.out (HN.out 7 (by decide) (by decide) (by decide) (by decide))).mono ?_; rintro e w9 ⟨rfl, h9⟩; rw [h9]; clear h9 w9)
    | (go_at_call 77; refine (none_77 bk C _ HB5.out (HN.out 8 (by decide) (by decide) (by decide) (by decide))).mono ?_; rintro e w9 ⟨rfl, h9⟩; rw [h9]; clear h9 w9)
    | (go_at_call 78; refine (none_78 bk C _ HB5.out (HN.out 9 (by decide) (by decide) (by decide) (by decide))).mono ?_; rintro e w9 ⟨rfl, h9⟩; rw [h9]; clear h9 w9)
    | (go_at_call 79; refine (none_79 bk C _ HB5.out (HN.out 10 (by decide) (by decide) (by decide) (by decide))).mono ?_; rintro e w9 ⟨rfl, h9⟩; rw [h9]; clear h9 w9)
    | (go_at_call 80; refine (none_80 bk C _ HB5.out (HN.out 11 (by decide) (by decide) (by decide) (by decide))).mono ?_; rintro e w9 ⟨rfl, h9⟩; rw [h9]; clear h9 w9)
    | (go_at_call 81; refine (look_Slot _ bk C vSlot FSlot HB5.out hCSlot (by rw [hsSlot.1]; exact HSlot5.out) (by rw [hsSlot.1]; exact hnSlot) (Same.bound hsSlot hmSlot)).mono ?_; rintro e w6 ⟨rfl, hb⟩; have HSlot6 := hid (HSlot5.out.below hb); have HB6 := hid (keep_row HB5.out hb); have HInt6 := hid (HInt5.out.below hb); have HM6 := hid (HM5.out.trans (Mv.ofBelow (S := fun _ => False) hb) (fun i hi => hi.elim)); clear hb)
    | (go_at_call 82; refine (none_82 bk C _ HB6.out (HN.out 13 (by decide) (by decide) (by decide) (by decide))).mono ?_; rintro e w9 ⟨rfl, h9⟩; rw [h9]; clear h9 w9)
    | (go_at_call 83; refine (none_83 bk C _ HB6.out (HN.out 14 (by decide) (by decide) (by decide) (by decide))).mono ?_; rintro e w9 ⟨rfl, h9⟩; rw [h9]; clear h9 w9)
    | (go_at_call 84; refine (none_84 bk C _ HB6.out (HN.out 15 (by decide) (by decide) (by decide) (by decide))).mono ?_; rintro e w9 ⟨rfl, h9⟩; rw [h9]; clear h9 w9)
    | (go_at_call 85; refine (none_85 bk C _ HB6.out (HN.out 16 (by decide) (by decide) (by decide) (by decide))).mono ?_; rintro e w9 ⟨rfl, h9⟩; rw [h9]; clear h9 w9)
    | (go_at_call 86; refine (none_86 bk C _ HB6.out (HN.out 17 (by decide) (by decide) (by decide) (by decide))).mono ?_; rintro e w9 ⟨rfl, h9⟩; rw [h9]; clear h9 w9))
  go_ret
  exact ⟨rfl, HM6.out⟩
end Go.Proofs.YtobmnndimlhfpaaGreatDoor.Slo
