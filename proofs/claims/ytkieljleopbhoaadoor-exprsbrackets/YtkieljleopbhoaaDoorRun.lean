/-
  How far runes of a kind go.
-/
import Derived.Test.YtkieljleopbhoaaDoorRune
namespace Go.Proofs.YtkieljleopbhoaaDoor.Lex
open Go.RowKit
theorem digit_byte (c : UInt8) : rDigit (c.toNat : Int) = digit c := by
  unfold rDigit digit
  congr 1 <;> simp <;> omega
theorem letter_byte (c : UInt8) : rLetter (c.toNat : Int) = letter c := by
  have h : ∀ a b : Nat, (decide ((a : Int) ≤ (b : Int))) = decide (a ≤ b) := fun a b => decide_eq_decide.2 (by omega)
  unfold rLetter letter
  rw [← h 97, ← h _ 122, ← h 65, ← h _ 90]
  rfl
theorem eq_byte (c : UInt8) (n : Nat) : ((c.toNat : Int) == (n : Int)) = (c.toNat == n) := by
  rw [Bool.eq_iff_iff]; simp only [beq_iff_eq]; omega
theorem ofWord_byte (c : UInt8) : rOfWord (c.toNat : Int) = ofWord c := by
  unfold rOfWord ofWord
  rw [letter_byte, digit_byte, ← eq_byte c 95]
  rfl
theorem ofLine_byte (c : UInt8) : rOfLine (c.toNat : Int) = ofLine c := by
  unfold rOfLine ofLine
  rw [← eq_byte c 10]
  rfl
theorem blank_byte (c : UInt8) : rBlank (c.toNat : Int) = blank c := by
  unfold rBlank blank
  rw [← eq_byte c 32, ← eq_byte c 9, ← eq_byte c 10, ← eq_byte c 13]
  rfl
theorem rDigit_high (r : Int) (h : 128 ≤ r) : rDigit r = false := by unfold rDigit; simp; omega
theorem rLetter_high (r : Int) (h : 128 ≤ r) : rLetter r = false := by unfold rLetter; simp; omega
theorem rOfWord_high (r : Int) (h : 128 ≤ r) : rOfWord r = false := by
  unfold rOfWord; rw [rLetter_high r h, rDigit_high r h]; simp; omega
theorem rOfLine_high (r : Int) (h : 128 ≤ r) : rOfLine r = true := by unfold rOfLine; simp; omega
theorem rBlank_high (r : Int) (h : 128 ≤ r) : rBlank r = false := by unfold rBlank; simp; omega
theorem drop_high (p : UInt8 → Bool) (R : Int → Bool) (q : Bool) (hb : ∀ c : UInt8, R (c.toNat : Int) = p c) (hq : ∀ r : Int, 128 ≤ r → R r = q) (c : UInt8) (h : 128 ≤ c.toNat) : p c = q := by rw [← hb c]; exact hq _ (by omega)
/-- One rune: what is told of it is what is told of its first byte, and of all its bytes. -/
theorem rune_step (p : UInt8 → Bool) (R : Int → Bool) (q : Bool) (hb : ∀ c : UInt8, R (c.toNat : Int) = p c) (hq : ∀ r : Int, 128 ≤ r → R r = q) (s : ByteArray) (pos : Nat) (hp : pos < s.size) :
    R ((Utf8.decode s pos).1 : Int) = p (s.data.toList.getD pos 0) ∧ 1 ≤ (Utf8.decode s pos).2 ∧ pos + (Utf8.decode s pos).2 ≤ s.size ∧ ∀ i, pos ≤ i → i < pos + (Utf8.decode s pos).2 → p (s.data.toList.getD i 0) = p (s.data.toList.getD pos 0) := by
  have hg := getD_get s pos hp
  by_cases h : (s[pos]'hp).toNat < 128
  · rw [decode_ascii s pos hp h, hg]
    refine ⟨hb _, Nat.le_refl _, by show pos + 1 ≤ s.size; omega, fun i h1 h2 => ?_⟩
    have : i = pos := by have h2 : i < pos + 1 := h2; omega
    rw [this, hg]
  · obtain ⟨h1, h2⟩ := decode_high s pos hp (by omega)
    have hc : 128 ≤ (s.data.toList.getD pos 0).toNat := by rw [hg]; omega
    have hr := fun i hi hlt => decode_range s pos i hp hc hi hlt
    refine ⟨?_, h2, ?_, fun i hi hlt => ?_⟩
    · rw [hq _ (by omega), drop_high p R q hb hq _ hc]
    · have := (hr (pos + (Utf8.decode s pos).2 - 1) (by omega) (by omega)).1
      omega
    · rw [drop_high p R q hb hq _ (hr i hi hlt).2, drop_high p R q hb hq _ hc]
theorem run_digit (s : ByteArray) (w : World) :
    Calls Tryd.prog 74 #[.string s, .func (.func 79) #[] #[]] w fun e w' => e = .returned (.int .i64 (span digit s.data.toList : Int)) ∧ Below w.heap.size w w' := by
  have hk0 : (w.iter s 0).heap[w.heap.size]? = some (.stringIter s 0) := World.iter_heap w s 0
  have hb0 : Below w.heap.size w (w.iter s 0) := (Below.refl _ w).alloc (Nat.le_refl _) _
  have HL : Hid (s.data.toList.length = s.size) := (Lib.size_eq s).symm
  go_enter Tryd.func74, Tryd.ntmps74
  go_wp2
  go_loopw [5] (fun _ wr => ∃ pos : Nat, pos ≤ s.size ∧ wr.heap[w.heap.size]? = some (.stringIter s pos) ∧ (∀ i, i < pos → digit (s.data.toList.getD i 0) = true) ∧ Below w.heap.size w wr) (fun _ wr => s.size - wr.iterPos w.heap.size)
  case atStart => exact ⟨0, Nat.zero_le _, hk0, fun i hi => by omega, hb0⟩
  case round =>
    obtain ⟨pos, hps, hk, hall, hb⟩ := hrel
    clear hk0 hb0
    have Hall : Hid (∀ i, i < pos → digit (s.data.toList.getD i 0) = true) := hall
    clear hall
    by_cases hp : pos < s.size
    · obtain ⟨hR, hn, hle, hrange⟩ := rune_step digit rDigit false digit_byte rDigit_high s pos hp
      have hnext : ∀ ty, (Instr.next (.pointer (some ⟨w.heap.size, 0, none⟩)) true ty).run Tryd.prog wr = _ := fun ty => Lib.run_next_any_at wr w.heap.size s pos ty hk hp
      have hmu : Hid (wr.iterPos w.heap.size = pos) := by unfold Hid; simp [World.iterPos, hk]
      generalize (Utf8.decode s pos).1 = rr at hR hnext
      generalize (Utf8.decode s pos).2 = nn at hn hle hrange hnext
      have hk1 := Lib.iterAt_heap wr w.heap.size s pos (pos + nn) hk
      have hb1 : Below w.heap.size w (wr.iterAt w.heap.size s (pos + nn)) := Lib.below_iterAt hb (Nat.le_refl _) s (pos + nn)
      generalize wr.iterAt w.heap.size s (pos + nn) = W1 at hnext hk1 hb1
      have Hrange : Hid (∀ i, pos ≤ i → i < pos + nn → digit (s.data.toList.getD i 0) = digit (s.data.toList.getD pos 0)) := hrange
      have hfn := isDigit (rr : Int) W1
      rw [hR] at hfn
      clear hk hb hrange hR
      cases hv : digit (s.data.toList.getD pos 0)
      · rw [hv] at hfn
        have Hv : Hid (digit (s.data.toList.getD pos 0) = false) := hv
        clear hv
        go_wp2_with (go_at_call 79; refine hfn.mono ?_; rintro e w2 ⟨rfl, h⟩; rw [h]; clear h w2)
        go_ret
        refine ⟨?_, hb1⟩
        rw [span_eq digit s.data.toList pos (by rw [HL.out]; omega) Hall.out (.inr Hv.out)]
        rfl
      · rw [hv] at hfn
        have Hv : Hid (digit (s.data.toList.getD pos 0) = true) := hv
        clear hv
        go_wp2_with (go_at_call 79; refine hfn.mono ?_; rintro e w2 ⟨rfl, h⟩; rw [h]; clear h w2)
        go_roundw
        case rel =>
          refine ⟨pos + nn, hle, hk1, fun i hi => ?_, hb1⟩
          by_cases h : i < pos
          · exact Hall.out i h
          · rw [Hrange.out i (by omega) hi]; exact Hv.out
        case measure =>
          have hmu2 : W1.iterPos w.heap.size = pos + nn := by simp [World.iterPos, hk1]
          rw [hmu.out, hmu2]
          omega
    · have hnext : ∀ ty, (Instr.next (.pointer (some ⟨w.heap.size, 0, none⟩)) true ty).run Tryd.prog wr = _ := fun ty => Lib.run_next_end_at wr w.heap.size s pos ty hk hp
      go_wp2
      go_ret
      refine ⟨?_, hb⟩
      rw [span_eq digit s.data.toList pos (by rw [HL.out]; omega) Hall.out (.inl (by rw [HL.out]; omega)), show pos = s.size by omega]
      rfl
theorem run_letter (s : ByteArray) (w : World) :
    Calls Tryd.prog 74 #[.string s, .func (.func 77) #[] #[]] w fun e w' => e = .returned (.int .i64 (span letter s.data.toList : Int)) ∧ Below w.heap.size w w' := by
  have hk0 : (w.iter s 0).heap[w.heap.size]? = some (.stringIter s 0) := World.iter_heap w s 0
  have hb0 : Below w.heap.size w (w.iter s 0) := (Below.refl _ w).alloc (Nat.le_refl _) _
  have HL : Hid (s.data.toList.length = s.size) := (Lib.size_eq s).symm
  go_enter Tryd.func74, Tryd.ntmps74
  go_wp2
  go_loopw [5] (fun _ wr => ∃ pos : Nat, pos ≤ s.size ∧ wr.heap[w.heap.size]? = some (.stringIter s pos) ∧ (∀ i, i < pos → letter (s.data.toList.getD i 0) = true) ∧ Below w.heap.size w wr) (fun _ wr => s.size - wr.iterPos w.heap.size)
  case atStart => exact ⟨0, Nat.zero_le _, hk0, fun i hi => by omega, hb0⟩
  case round =>
    obtain ⟨pos, hps, hk, hall, hb⟩ := hrel
    clear hk0 hb0
    have Hall : Hid (∀ i, i < pos → letter (s.data.toList.getD i 0) = true) := hall
    clear hall
    by_cases hp : pos < s.size
    · obtain ⟨hR, hn, hle, hrange⟩ := rune_step letter rLetter false letter_byte rLetter_high s pos hp
      have hnext : ∀ ty, (Instr.next (.pointer (some ⟨w.heap.size, 0, none⟩)) true ty).run Tryd.prog wr = _ := fun ty => Lib.run_next_any_at wr w.heap.size s pos ty hk hp
      have hmu : Hid (wr.iterPos w.heap.size = pos) := by unfold Hid; simp [World.iterPos, hk]
      generalize (Utf8.decode s pos).1 = rr at hR hnext
      generalize (Utf8.decode s pos).2 = nn at hn hle hrange hnext
      have hk1 := Lib.iterAt_heap wr w.heap.size s pos (pos + nn) hk
      have hb1 : Below w.heap.size w (wr.iterAt w.heap.size s (pos + nn)) := Lib.below_iterAt hb (Nat.le_refl _) s (pos + nn)
      generalize wr.iterAt w.heap.size s (pos + nn) = W1 at hnext hk1 hb1
      have Hrange : Hid (∀ i, pos ≤ i → i < pos + nn → letter (s.data.toList.getD i 0) = letter (s.data.toList.getD pos 0)) := hrange
      have hfn := isLetter (rr : Int) W1
      rw [hR] at hfn
      clear hk hb hrange hR
      cases hv : letter (s.data.toList.getD pos 0)
      · rw [hv] at hfn
        have Hv : Hid (letter (s.data.toList.getD pos 0) = false) := hv
        clear hv
        go_wp2_with (go_at_call 77; refine hfn.mono ?_; rintro e w2 ⟨rfl, h⟩; rw [h]; clear h w2)
        go_ret
        refine ⟨?_, hb1⟩
        rw [span_eq letter s.data.toList pos (by rw [HL.out]; omega) Hall.out (.inr Hv.out)]
        rfl
      · rw [hv] at hfn
        have Hv : Hid (letter (s.data.toList.getD pos 0) = true) := hv
        clear hv
        go_wp2_with (go_at_call 77; refine hfn.mono ?_; rintro e w2 ⟨rfl, h⟩; rw [h]; clear h w2)
        go_roundw
        case rel =>
          refine ⟨pos + nn, hle, hk1, fun i hi => ?_, hb1⟩
          by_cases h : i < pos
          · exact Hall.out i h
          · rw [Hrange.out i (by omega) hi]; exact Hv.out
        case measure =>
          have hmu2 : W1.iterPos w.heap.size = pos + nn := by simp [World.iterPos, hk1]
          rw [hmu.out, hmu2]
          omega
    · have hnext : ∀ ty, (Instr.next (.pointer (some ⟨w.heap.size, 0, none⟩)) true ty).run Tryd.prog wr = _ := fun ty => Lib.run_next_end_at wr w.heap.size s pos ty hk hp
      go_wp2
      go_ret
      refine ⟨?_, hb⟩
      rw [span_eq letter s.data.toList pos (by rw [HL.out]; omega) Hall.out (.inl (by rw [HL.out]; omega)), show pos = s.size by omega]
      rfl
theorem run_ofWord (s : ByteArray) (w : World) :
    Calls Tryd.prog 74 #[.string s, .func (.func 78) #[] #[]] w fun e w' => e = .returned (.int .i64 (span ofWord s.data.toList : Int)) ∧ Below w.heap.size w w' := by
  have hk0 : (w.iter s 0).heap[w.heap.size]? = some (.stringIter s 0) := World.iter_heap w s 0
  have hb0 : Below w.heap.size w (w.iter s 0) := (Below.refl _ w).alloc (Nat.le_refl _) _
  have HL : Hid (s.data.toList.length = s.size) := (Lib.size_eq s).symm
  go_enter Tryd.func74, Tryd.ntmps74
  go_wp2
  go_loopw [5] (fun _ wr => ∃ pos : Nat, pos ≤ s.size ∧ wr.heap[w.heap.size]? = some (.stringIter s pos) ∧ (∀ i, i < pos → ofWord (s.data.toList.getD i 0) = true) ∧ Below w.heap.size w wr) (fun _ wr => s.size - wr.iterPos w.heap.size)
  case atStart => exact ⟨0, Nat.zero_le _, hk0, fun i hi => by omega, hb0⟩
  case round =>
    obtain ⟨pos, hps, hk, hall, hb⟩ := hrel
    clear hk0 hb0
    have Hall : Hid (∀ i, i < pos → ofWord (s.data.toList.getD i 0) = true) := hall
    clear hall
    by_cases hp : pos < s.size
    · obtain ⟨hR, hn, hle, hrange⟩ := rune_step ofWord rOfWord false ofWord_byte rOfWord_high s pos hp
      have hnext : ∀ ty, (Instr.next (.pointer (some ⟨w.heap.size, 0, none⟩)) true ty).run Tryd.prog wr = _ := fun ty => Lib.run_next_any_at wr w.heap.size s pos ty hk hp
      have hmu : Hid (wr.iterPos w.heap.size = pos) := by unfold Hid; simp [World.iterPos, hk]
      generalize (Utf8.decode s pos).1 = rr at hR hnext
      generalize (Utf8.decode s pos).2 = nn at hn hle hrange hnext
      have hk1 := Lib.iterAt_heap wr w.heap.size s pos (pos + nn) hk
      have hb1 : Below w.heap.size w (wr.iterAt w.heap.size s (pos + nn)) := Lib.below_iterAt hb (Nat.le_refl _) s (pos + nn)
      generalize wr.iterAt w.heap.size s (pos + nn) = W1 at hnext hk1 hb1
      have Hrange : Hid (∀ i, pos ≤ i → i < pos + nn → ofWord (s.data.toList.getD i 0) = ofWord (s.data.toList.getD pos 0)) := hrange
      have hfn := isOfWord (rr : Int) W1
      rw [hR] at hfn
      clear hk hb hrange hR
      cases hv : ofWord (s.data.toList.getD pos 0)
      · rw [hv] at hfn
        have Hv : Hid (ofWord (s.data.toList.getD pos 0) = false) := hv
        clear hv
        go_wp2_with (go_at_call 78; refine hfn.mono ?_; rintro e w2 ⟨rfl, h⟩; rw [h]; clear h w2)
        go_ret
        refine ⟨?_, hb1⟩
        rw [span_eq ofWord s.data.toList pos (by rw [HL.out]; omega) Hall.out (.inr Hv.out)]
        rfl
      · rw [hv] at hfn
        have Hv : Hid (ofWord (s.data.toList.getD pos 0) = true) := hv
        clear hv
        go_wp2_with (go_at_call 78; refine hfn.mono ?_; rintro e w2 ⟨rfl, h⟩; rw [h]; clear h w2)
        go_roundw
        case rel =>
          refine ⟨pos + nn, hle, hk1, fun i hi => ?_, hb1⟩
          by_cases h : i < pos
          · exact Hall.out i h
          · rw [Hrange.out i (by omega) hi]; exact Hv.out
        case measure =>
          have hmu2 : W1.iterPos w.heap.size = pos + nn := by simp [World.iterPos, hk1]
          rw [hmu.out, hmu2]
          omega
    · have hnext : ∀ ty, (Instr.next (.pointer (some ⟨w.heap.size, 0, none⟩)) true ty).run Tryd.prog wr = _ := fun ty => Lib.run_next_end_at wr w.heap.size s pos ty hk hp
      go_wp2
      go_ret
      refine ⟨?_, hb⟩
      rw [span_eq ofWord s.data.toList pos (by rw [HL.out]; omega) Hall.out (.inl (by rw [HL.out]; omega)), show pos = s.size by omega]
      rfl
theorem run_ofLine (s : ByteArray) (w : World) :
    Calls Tryd.prog 74 #[.string s, .func (.func 75) #[] #[]] w fun e w' => e = .returned (.int .i64 (span ofLine s.data.toList : Int)) ∧ Below w.heap.size w w' := by
  have hk0 : (w.iter s 0).heap[w.heap.size]? = some (.stringIter s 0) := World.iter_heap w s 0
  have hb0 : Below w.heap.size w (w.iter s 0) := (Below.refl _ w).alloc (Nat.le_refl _) _
  have HL : Hid (s.data.toList.length = s.size) := (Lib.size_eq s).symm
  go_enter Tryd.func74, Tryd.ntmps74
  go_wp2
  go_loopw [5] (fun _ wr => ∃ pos : Nat, pos ≤ s.size ∧ wr.heap[w.heap.size]? = some (.stringIter s pos) ∧ (∀ i, i < pos → ofLine (s.data.toList.getD i 0) = true) ∧ Below w.heap.size w wr) (fun _ wr => s.size - wr.iterPos w.heap.size)
  case atStart => exact ⟨0, Nat.zero_le _, hk0, fun i hi => by omega, hb0⟩
  case round =>
    obtain ⟨pos, hps, hk, hall, hb⟩ := hrel
    clear hk0 hb0
    have Hall : Hid (∀ i, i < pos → ofLine (s.data.toList.getD i 0) = true) := hall
    clear hall
    by_cases hp : pos < s.size
    · obtain ⟨hR, hn, hle, hrange⟩ := rune_step ofLine rOfLine true ofLine_byte rOfLine_high s pos hp
      have hnext : ∀ ty, (Instr.next (.pointer (some ⟨w.heap.size, 0, none⟩)) true ty).run Tryd.prog wr = _ := fun ty => Lib.run_next_any_at wr w.heap.size s pos ty hk hp
      have hmu : Hid (wr.iterPos w.heap.size = pos) := by unfold Hid; simp [World.iterPos, hk]
      generalize (Utf8.decode s pos).1 = rr at hR hnext
      generalize (Utf8.decode s pos).2 = nn at hn hle hrange hnext
      have hk1 := Lib.iterAt_heap wr w.heap.size s pos (pos + nn) hk
      have hb1 : Below w.heap.size w (wr.iterAt w.heap.size s (pos + nn)) := Lib.below_iterAt hb (Nat.le_refl _) s (pos + nn)
      generalize wr.iterAt w.heap.size s (pos + nn) = W1 at hnext hk1 hb1
      have Hrange : Hid (∀ i, pos ≤ i → i < pos + nn → ofLine (s.data.toList.getD i 0) = ofLine (s.data.toList.getD pos 0)) := hrange
      have hfn := isOfLine (rr : Int) W1
      rw [hR] at hfn
      clear hk hb hrange hR
      cases hv : ofLine (s.data.toList.getD pos 0)
      · rw [hv] at hfn
        have Hv : Hid (ofLine (s.data.toList.getD pos 0) = false) := hv
        clear hv
        go_wp2_with (go_at_call 75; refine hfn.mono ?_; rintro e w2 ⟨rfl, h⟩; rw [h]; clear h w2)
        go_ret
        refine ⟨?_, hb1⟩
        rw [span_eq ofLine s.data.toList pos (by rw [HL.out]; omega) Hall.out (.inr Hv.out)]
        rfl
      · rw [hv] at hfn
        have Hv : Hid (ofLine (s.data.toList.getD pos 0) = true) := hv
        clear hv
        go_wp2_with (go_at_call 75; refine hfn.mono ?_; rintro e w2 ⟨rfl, h⟩; rw [h]; clear h w2)
        go_roundw
        case rel =>
          refine ⟨pos + nn, hle, hk1, fun i hi => ?_, hb1⟩
          by_cases h : i < pos
          · exact Hall.out i h
          · rw [Hrange.out i (by omega) hi]; exact Hv.out
        case measure =>
          have hmu2 : W1.iterPos w.heap.size = pos + nn := by simp [World.iterPos, hk1]
          rw [hmu.out, hmu2]
          omega
    · have hnext : ∀ ty, (Instr.next (.pointer (some ⟨w.heap.size, 0, none⟩)) true ty).run Tryd.prog wr = _ := fun ty => Lib.run_next_end_at wr w.heap.size s pos ty hk hp
      go_wp2
      go_ret
      refine ⟨?_, hb⟩
      rw [span_eq ofLine s.data.toList pos (by rw [HL.out]; omega) Hall.out (.inl (by rw [HL.out]; omega)), show pos = s.size by omega]
      rfl
theorem run_blank (s : ByteArray) (w : World) :
    Calls Tryd.prog 74 #[.string s, .func (.func 76) #[] #[]] w fun e w' => e = .returned (.int .i64 (span blank s.data.toList : Int)) ∧ Below w.heap.size w w' := by
  have hk0 : (w.iter s 0).heap[w.heap.size]? = some (.stringIter s 0) := World.iter_heap w s 0
  have hb0 : Below w.heap.size w (w.iter s 0) := (Below.refl _ w).alloc (Nat.le_refl _) _
  have HL : Hid (s.data.toList.length = s.size) := (Lib.size_eq s).symm
  go_enter Tryd.func74, Tryd.ntmps74
  go_wp2
  go_loopw [5] (fun _ wr => ∃ pos : Nat, pos ≤ s.size ∧ wr.heap[w.heap.size]? = some (.stringIter s pos) ∧ (∀ i, i < pos → blank (s.data.toList.getD i 0) = true) ∧ Below w.heap.size w wr) (fun _ wr => s.size - wr.iterPos w.heap.size)
  case atStart => exact ⟨0, Nat.zero_le _, hk0, fun i hi => by omega, hb0⟩
  case round =>
    obtain ⟨pos, hps, hk, hall, hb⟩ := hrel
    clear hk0 hb0
    have Hall : Hid (∀ i, i < pos → blank (s.data.toList.getD i 0) = true) := hall
    clear hall
    by_cases hp : pos < s.size
    · obtain ⟨hR, hn, hle, hrange⟩ := rune_step blank rBlank false blank_byte rBlank_high s pos hp
      have hnext : ∀ ty, (Instr.next (.pointer (some ⟨w.heap.size, 0, none⟩)) true ty).run Tryd.prog wr = _ := fun ty => Lib.run_next_any_at wr w.heap.size s pos ty hk hp
      have hmu : Hid (wr.iterPos w.heap.size = pos) := by unfold Hid; simp [World.iterPos, hk]
      generalize (Utf8.decode s pos).1 = rr at hR hnext
      generalize (Utf8.decode s pos).2 = nn at hn hle hrange hnext
      have hk1 := Lib.iterAt_heap wr w.heap.size s pos (pos + nn) hk
      have hb1 : Below w.heap.size w (wr.iterAt w.heap.size s (pos + nn)) := Lib.below_iterAt hb (Nat.le_refl _) s (pos + nn)
      generalize wr.iterAt w.heap.size s (pos + nn) = W1 at hnext hk1 hb1
      have Hrange : Hid (∀ i, pos ≤ i → i < pos + nn → blank (s.data.toList.getD i 0) = blank (s.data.toList.getD pos 0)) := hrange
      have hfn := isBlank (rr : Int) W1
      rw [hR] at hfn
      clear hk hb hrange hR
      cases hv : blank (s.data.toList.getD pos 0)
      · rw [hv] at hfn
        have Hv : Hid (blank (s.data.toList.getD pos 0) = false) := hv
        clear hv
        go_wp2_with (go_at_call 76; refine hfn.mono ?_; rintro e w2 ⟨rfl, h⟩; rw [h]; clear h w2)
        go_ret
        refine ⟨?_, hb1⟩
        rw [span_eq blank s.data.toList pos (by rw [HL.out]; omega) Hall.out (.inr Hv.out)]
        rfl
      · rw [hv] at hfn
        have Hv : Hid (blank (s.data.toList.getD pos 0) = true) := hv
        clear hv
        go_wp2_with (go_at_call 76; refine hfn.mono ?_; rintro e w2 ⟨rfl, h⟩; rw [h]; clear h w2)
        go_roundw
        case rel =>
          refine ⟨pos + nn, hle, hk1, fun i hi => ?_, hb1⟩
          by_cases h : i < pos
          · exact Hall.out i h
          · rw [Hrange.out i (by omega) hi]; exact Hv.out
        case measure =>
          have hmu2 : W1.iterPos w.heap.size = pos + nn := by simp [World.iterPos, hk1]
          rw [hmu.out, hmu2]
          omega
    · have hnext : ∀ ty, (Instr.next (.pointer (some ⟨w.heap.size, 0, none⟩)) true ty).run Tryd.prog wr = _ := fun ty => Lib.run_next_end_at wr w.heap.size s pos ty hk hp
      go_wp2
      go_ret
      refine ⟨?_, hb⟩
      rw [span_eq blank s.data.toList pos (by rw [HL.out]; omega) Hall.out (.inl (by rw [HL.out]; omega)), show pos = s.size by omega]
      rfl
end Go.Proofs.YtkieljleopbhoaaDoor.Lex
