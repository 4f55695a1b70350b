/-
  Plain mathematics of a text's tokens: how far bytes of a kind go; runes and bytes.
  The functions that tell what a rune is; how far runes of a kind go.
  How far runes of a kind go.
  How many bytes a word, a number has; the document's own functions for them.
  The words of the language; names.
  Contracts of library functions at this seat's translation.
  Numbers of digits: what Number answers, on both sides.
  What says nothing; signs; what each kind of token is asked by; a token.
  What is worked out, as a tree, and how it stands in memory.
  Plain mathematics of a text's tokens: one step; all tokens; what a step leaves behind.
  The parts of Read: the functions by kind, a token.
  The table of operators of two, and the contract of joinOf.
  The reader of tokens in memory; the contract of peek.
  Whether a part has the fields of its operator: the contracts of partsOf, hasItsFields, and of the document's own.
  The operator of two that a token is: the contract of joinAt.
  The reader goes on by a token: the contracts of yes, no, name, number, pass.
  What is worked out, in blocks of which something is known: it stays where others are written.
  How great it is: whatever number is told, the call returns.
  The twin of what is worked out: new memory, with a mark behind each row of parts.
  The contracts of TwinExprs and TwinExpr.
-/
import Derived.Lib.DecodeN
import Derived.Lib.Strings
import Derived.Laws.RangeAny
import Derived.Laws.RangeString
import Derived.Test.YtdenddknbmiboaaDoorProg
import Derived.WalkKit
import Derived.WalkSpells
import Derived.Lib.OthersKept
import Derived.Below
import Derived.Laws.Rows
import Derived.OwnWalk
import Derived.Shelf.LaysM
import Derived.Shelf.Strconv.Clone
import Derived.Lib.ParseIntBTie
import Derived.ProofKit
import Derived.OpenShut
import Derived.ShutString
import Derived.ChangeOld
import Derived.LaidMore
import Derived.SizedLaws
import Derived.Lib.LaidTab
import Derived.Lib.SmallJoins
import Derived.Laws.Tables
import Derived.Laws.ResultCell
import Derived.BigQuiet
namespace Go.Proofs.YtdenddknbmiboaaDoor.Lex
open Go
def letter (c : UInt8) : Bool := (decide (97 ≤ c.toNat) && decide (c.toNat ≤ 122)) || (decide (65 ≤ c.toNat) && decide (c.toNat ≤ 90))
def digit (c : UInt8) : Bool := decide (48 ≤ c.toNat) && decide (c.toNat ≤ 57)
def ofWord (c : UInt8) : Bool := letter c || digit c || c.toNat == 95
def ofLine (c : UInt8) : Bool := !(c.toNat == 10)
def blank (c : UInt8) : Bool := c.toNat == 32 || c.toNat == 9 || c.toNat == 10 || c.toNat == 13
/-- How many bytes of a kind a text begins with. -/
def span (p : UInt8 → Bool) (l : List UInt8) : Nat := (l.takeWhile p).length
theorem span_nil (p : UInt8 → Bool) : span p [] = 0 := rfl
theorem span_cons (p : UInt8 → Bool) (c : UInt8) (l : List UInt8) : span p (c :: l) = if p c then span p l + 1 else 0 := by
  unfold span
  rw [List.takeWhile_cons]
  split <;> simp
theorem span_le (p : UInt8 → Bool) (l : List UInt8) : span p l ≤ l.length := by
  induction l with
  | nil => exact Nat.le_refl _
  | cons c l ih => rw [span_cons, List.length_cons]; split <;> omega
theorem span_at (p : UInt8 → Bool) (l : List UInt8) (i : Nat) (h : i < span p l) : p (l.getD i 0) = true := by
  induction l generalizing i with
  | nil => simp [span_nil] at h
  | cons c l ih =>
    rw [span_cons] at h
    split at h
    · rename_i hc
      cases i with
      | zero => simpa using hc
      | succ i => simpa using ih i (by omega)
    · omega
theorem span_stop (p : UInt8 → Bool) (l : List UInt8) (h : span p l < l.length) : p (l.getD (span p l) 0) = false := by
  induction l with
  | nil => simp at h
  | cons c l ih =>
    rw [span_cons] at h ⊢
    split
    · rename_i hc
      rw [if_pos hc, List.length_cons] at h
      simpa using ih (by omega)
    · rename_i hc
      simpa using hc
theorem span_eq (p : UInt8 → Bool) (l : List UInt8) (k : Nat) (hk : k ≤ l.length) (h1 : ∀ i, i < k → p (l.getD i 0) = true) (h2 : k = l.length ∨ p (l.getD k 0) = false) : span p l = k := by
  have ha := span_le p l
  by_cases hlt : span p l < k
  · have := span_stop p l (by omega)
    rw [h1 _ hlt] at this
    cases this
  · by_cases hgt : k < span p l
    · rcases h2 with h2 | h2
      · omega
      · rw [span_at p l k hgt] at h2; cases h2
    · omega
/-! ### Runes and bytes -/
theorem getD_get! (s : ByteArray) (i : Nat) : s.data.toList.getD i 0 = s.get! i := by
  cases s with
  | mk d =>
    show d.toList.getD i 0 = d[i]!
    by_cases h : i < d.size
    · rw [getElem!_pos d i h]; simp [List.getD, h]
    · rw [getElem!_neg d i h]; simp [List.getD, h]; rfl
theorem getD_get (s : ByteArray) (i : Nat) (h : i < s.size) : s.data.toList.getD i 0 = s[i]'h := by
  cases s with
  | mk d =>
    have h' : i < d.size := h
    show d.toList.getD i 0 = d[i]
    simp [List.getD, h']
/-- The bytes of a rune that begins above 127 lie all above 127, and in the text. -/
theorem decode_range (s : ByteArray) (pos i : Nat) (hpos : pos < s.size) (h : 128 ≤ (s.data.toList.getD pos 0).toNat) (hi : pos ≤ i) (hlt : i < pos + (Utf8.decode s pos).2) : i < s.size ∧ 128 ≤ (s.data.toList.getD i 0).toNat := by
  rw [Lib.decode_at, ← getD_get!, ← getD_get!, ← getD_get!, ← getD_get!] at hlt
  have hc : i = pos ∨ i = pos + 1 ∨ i = pos + 2 ∨ i = pos + 3 ∨ pos + 4 ≤ i := by omega
  unfold Lib.decodeN at hlt
  rcases hc with rfl | rfl | rfl | rfl | hc
  · exact ⟨hpos, h⟩
  all_goals
    repeat' split at hlt
    all_goals first | (exfalso; simp only at hlt; omega) | (constructor <;> omega)
end Go.Proofs.YtdenddknbmiboaaDoor.Lex
namespace Go.Proofs.YtdenddknbmiboaaDoor.Lex
open Go.RowKit
/-- What the functions tell of a rune. -/
def rDigit (r : Int) : Bool := decide (48 ≤ r) && decide (r ≤ 57)
def rLetter (r : Int) : Bool := (decide (97 ≤ r) && decide (r ≤ 122)) || (decide (65 ≤ r) && decide (r ≤ 90))
def rOfWord (r : Int) : Bool := rLetter r || rDigit r || r == 95
def rOfLine (r : Int) : Bool := r != 10
def rBlank (r : Int) : Bool := r == 32 || r == 9 || r == 10 || r == 13
theorem isDigit (r : Int) (w : World) : Calls Tryd.prog 98 #[.int .i32 r] w fun e w' => e = .returned (.bool (rDigit r)) ∧ w' = w := by
  unfold rDigit
  by_cases h : 48 ≤ r
  · go_enter Tryd.func98, Tryd.ntmps98
    go_wp2
    go_ret
    exact ⟨by simp [h], rfl⟩
  · go_enter Tryd.func98, Tryd.ntmps98
    go_wp2
    go_ret
    have e : decide (48 ≤ r) = false := decide_eq_false (by omega)
    exact ⟨by simp [e], rfl⟩
theorem isLetter (r : Int) (w : World) : Calls Tryd.prog 95 #[.int .i32 r] w fun e w' => e = .returned (.bool (rLetter r)) ∧ w' = w := by
  by_cases h1 : 97 ≤ r ∧ r ≤ 122
  · obtain ⟨ha, hb⟩ := h1
    have Hr : Hid (rLetter r = true) := by unfold Hid rLetter; simp [ha, hb]
    go_enter Tryd.func95, Tryd.ntmps95
    go_wp2
    go_ret
    exact ⟨by rw [Hr.out]; simp, rfl⟩
  · by_cases h2 : 65 ≤ r ∧ r ≤ 90
    · obtain ⟨ha, hb⟩ := h2
      have hc : ¬ 97 ≤ r := by omega
      have Hr : Hid (rLetter r = true) := by unfold Hid rLetter; simp [ha, hb]
      clear h1
      go_enter Tryd.func95, Tryd.ntmps95
      go_wp2
      go_ret
      exact ⟨by rw [Hr.out]; simp, rfl⟩
    · have Hr : Hid (rLetter r = false) := by unfold Hid rLetter; simp; omega
      by_cases h3 : 97 ≤ r
      · have h4 : ¬ r ≤ 122 := by omega
        have h5 : ¬ r ≤ 90 := by omega
        have h6 : 65 ≤ r := by omega
        clear h1 h2
        go_enter Tryd.func95, Tryd.ntmps95
        go_wp2
        go_ret
        exact ⟨by rw [Hr.out]; simp, rfl⟩
      · by_cases h6 : 65 ≤ r
        · have h5 : ¬ r ≤ 90 := by omega
          clear h1 h2
          go_enter Tryd.func95, Tryd.ntmps95
          go_wp2
          go_ret
          exact ⟨by rw [Hr.out]; simp, rfl⟩
        · clear h1 h2
          go_enter Tryd.func95, Tryd.ntmps95
          go_wp2
          go_ret
          exact ⟨by rw [Hr.out]; simp, rfl⟩
theorem isOfWord (r : Int) (w : World) : Calls Tryd.prog 96 #[.int .i32 r] w fun e w' => e = .returned (.bool (rOfWord r)) ∧ w' = w := by
  have h1 := isLetter r w
  have h2 := isDigit r w
  unfold rOfWord
  cases hl : rLetter r
  · rw [hl] at h1
    cases hd : rDigit r
    · rw [hd] at h2
      go_enter Tryd.func96, Tryd.ntmps96
      go_wp2_with (first
        | (go_at_call 95; refine h1.mono ?_; rintro e w2 ⟨rfl, h⟩; rw [h]; clear h w2)
        | (go_at_call 98; refine h2.mono ?_; rintro e w2 ⟨rfl, h⟩; rw [h]; clear h w2))
      go_ret
      exact ⟨by simp, rfl⟩
    · rw [hd] at h2
      go_enter Tryd.func96, Tryd.ntmps96
      go_wp2_with (first
        | (go_at_call 95; refine h1.mono ?_; rintro e w2 ⟨rfl, h⟩; rw [h]; clear h w2)
        | (go_at_call 98; refine h2.mono ?_; rintro e w2 ⟨rfl, h⟩; rw [h]; clear h w2))
      go_ret
      exact ⟨by simp, rfl⟩
  · rw [hl] at h1
    go_enter Tryd.func96, Tryd.ntmps96
    go_wp2_with (go_at_call 95; refine h1.mono ?_; rintro e w2 ⟨rfl, h⟩; rw [h]; clear h w2)
    go_ret
    exact ⟨by simp, rfl⟩
end Go.Proofs.YtdenddknbmiboaaDoor.Lex
namespace Go.Proofs.YtdenddknbmiboaaDoor.Lex
open Go.RowKit
theorem digit_byte (c : UInt8) : rDigit (c.toNat : Int) = digit c := by
  unfold rDigit digit
  congr 1 <;> simp <;> omega
theorem letter_byte (c : UInt8) : rLetter (c.toNat : Int) = letter c := by
  have h : ∀ a b : Nat, (decide ((a : Int) ≤ (b : Int))) = decide (a ≤ b) := fun a b => decide_eq_decide.2 (by omega)
  unfold rLetter letter
  rw [← h 97, ← h _ 122, ← h 65, ← h _ 90]
  rfl
theorem eq_byte (c : UInt8) (n : Nat) : ((c.toNat : Int) == (n : Int)) = (c.toNat == n) := by
  rw [Bool.eq_iff_iff]; simp only [beq_iff_eq]; omega
theorem ofWord_byte (c : UInt8) : rOfWord (c.toNat : Int) = ofWord c := by
  unfold rOfWord ofWord
  rw [letter_byte, digit_byte, ← eq_byte c 95]
  rfl
theorem ofLine_byte (c : UInt8) : rOfLine (c.toNat : Int) = ofLine c := by
  unfold rOfLine ofLine
  rw [← eq_byte c 10]
  rfl
theorem blank_byte (c : UInt8) : rBlank (c.toNat : Int) = blank c := by
  unfold rBlank blank
  rw [← eq_byte c 32, ← eq_byte c 9, ← eq_byte c 10, ← eq_byte c 13]
  rfl
theorem rDigit_high (r : Int) (h : 128 ≤ r) : rDigit r = false := by unfold rDigit; simp; omega
theorem rLetter_high (r : Int) (h : 128 ≤ r) : rLetter r = false := by unfold rLetter; simp; omega
theorem rOfWord_high (r : Int) (h : 128 ≤ r) : rOfWord r = false := by
  unfold rOfWord; rw [rLetter_high r h, rDigit_high r h]; simp; omega
theorem rOfLine_high (r : Int) (h : 128 ≤ r) : rOfLine r = true := by unfold rOfLine; simp; omega
theorem rBlank_high (r : Int) (h : 128 ≤ r) : rBlank r = false := by unfold rBlank; simp; omega
theorem drop_high (p : UInt8 → Bool) (R : Int → Bool) (q : Bool) (hb : ∀ c : UInt8, R (c.toNat : Int) = p c) (hq : ∀ r : Int, 128 ≤ r → R r = q) (c : UInt8) (h : 128 ≤ c.toNat) : p c = q := by rw [← hb c]; exact hq _ (by omega)
/-- One rune: what is told of it is what is told of its first byte, and of all its bytes. -/
theorem rune_step (p : UInt8 → Bool) (R : Int → Bool) (q : Bool) (hb : ∀ c : UInt8, R (c.toNat : Int) = p c) (hq : ∀ r : Int, 128 ≤ r → R r = q) (s : ByteArray) (pos : Nat) (hp : pos < s.size) :
    R ((Utf8.decode s pos).1 : Int) = p (s.data.toList.getD pos 0) ∧ 1 ≤ (Utf8.decode s pos).2 ∧ pos + (Utf8.decode s pos).2 ≤ s.size ∧ ∀ i, pos ≤ i → i < pos + (Utf8.decode s pos).2 → p (s.data.toList.getD i 0) = p (s.data.toList.getD pos 0) := by
  have hg := getD_get s pos hp
  by_cases h : (s[pos]'hp).toNat < 128
  · rw [decode_ascii s pos hp h, hg]
    refine ⟨hb _, Nat.le_refl _, by show pos + 1 ≤ s.size; omega, fun i h1 h2 => ?_⟩
    have : i = pos := by have h2 : i < pos + 1 := h2; omega
    rw [this, hg]
  · obtain ⟨h1, h2⟩ := decode_high s pos hp (by omega)
    have hc : 128 ≤ (s.data.toList.getD pos 0).toNat := by rw [hg]; omega
    have hr := fun i hi hlt => decode_range s pos i hp hc hi hlt
    refine ⟨?_, h2, ?_, fun i hi hlt => ?_⟩
    · rw [hq _ (by omega), drop_high p R q hb hq _ hc]
    · have := (hr (pos + (Utf8.decode s pos).2 - 1) (by omega) (by omega)).1
      omega
    · rw [drop_high p R q hb hq _ (hr i hi hlt).2, drop_high p R q hb hq _ hc]
theorem run_digit (s : ByteArray) (w : World) :
    Calls Tryd.prog 94 #[.string s, .func (.func 98) #[] #[]] w fun e w' => e = .returned (.int .i64 (span digit s.data.toList : Int)) ∧ Below w.heap.size w w' := by
  have hk0 : (w.iter s 0).heap[w.heap.size]? = some (.stringIter s 0) := World.iter_heap w s 0
  have hb0 : Below w.heap.size w (w.iter s 0) := (Below.refl _ w).alloc (Nat.le_refl _) _
  have HL : Hid (s.data.toList.length = s.size) := (Lib.size_eq s).symm
  go_enter Tryd.func94, Tryd.ntmps94
  go_wp2
  go_loopw [5] (fun _ wr => ∃ pos : Nat, pos ≤ s.size ∧ wr.heap[w.heap.size]? = some (.stringIter s pos) ∧ (∀ i, i < pos → digit (s.data.toList.getD i 0) = true) ∧ Below w.heap.size w wr) (fun _ wr => s.size - wr.iterPos w.heap.size)
  case atStart => exact ⟨0, Nat.zero_le _, hk0, fun i hi => by omega, hb0⟩
  case round =>
    obtain ⟨pos, hps, hk, hall, hb⟩ := hrel
    clear hk0 hb0
    have Hall : Hid (∀ i, i < pos → digit (s.data.toList.getD i 0) = true) := hall
    clear hall
    by_cases hp : pos < s.size
    · obtain ⟨hR, hn, hle, hrange⟩ := rune_step digit rDigit false digit_byte rDigit_high s pos hp
      have hnext : ∀ ty, (Instr.next (.pointer (some ⟨w.heap.size, 0, none⟩)) true ty).run Tryd.prog wr = _ := fun ty => Lib.run_next_any_at wr w.heap.size s pos ty hk hp
      have hmu : Hid (wr.iterPos w.heap.size = pos) := by unfold Hid; simp [World.iterPos, hk]
      generalize (Utf8.decode s pos).1 = rr at hR hnext
      generalize (Utf8.decode s pos).2 = nn at hn hle hrange hnext
      have hk1 := Lib.iterAt_heap wr w.heap.size s pos (pos + nn) hk
      have hb1 : Below w.heap.size w (wr.iterAt w.heap.size s (pos + nn)) := Lib.below_iterAt hb (Nat.le_refl _) s (pos + nn)
      generalize wr.iterAt w.heap.size s (pos + nn) = W1 at hnext hk1 hb1
      have Hrange : Hid (∀ i, pos ≤ i → i < pos + nn → digit (s.data.toList.getD i 0) = digit (s.data.toList.getD pos 0)) := hrange
      have hfn := isDigit (rr : Int) W1
      rw [hR] at hfn
      clear hk hb hrange hR
      cases hv : digit (s.data.toList.getD pos 0)
      · rw [hv] at hfn
        have Hv : Hid (digit (s.data.toList.getD pos 0) = false) := hv
        clear hv
        go_wp2_with (go_at_call 98; refine hfn.mono ?_; rintro e w2 ⟨rfl, h⟩; rw [h]; clear h w2)
        go_ret
        refine ⟨?_, hb1⟩
        rw [span_eq digit s.data.toList pos (by rw [HL.out]; omega) Hall.out (.inr Hv.out)]
        rfl
      · rw [hv] at hfn
        have Hv : Hid (digit (s.data.toList.getD pos 0) = true) := hv
        clear hv
        go_wp2_with (go_at_call 98; refine hfn.mono ?_; rintro e w2 ⟨rfl, h⟩; rw [h]; clear h w2)
        go_roundw
        case rel =>
          refine ⟨pos + nn, hle, hk1, fun i hi => ?_, hb1⟩
          by_cases h : i < pos
          · exact Hall.out i h
          · rw [Hrange.out i (by omega) hi]; exact Hv.out
        case measure =>
          have hmu2 : W1.iterPos w.heap.size = pos + nn := by simp [World.iterPos, hk1]
          rw [hmu.out, hmu2]
          omega
    · have hnext : ∀ ty, (Instr.next (.pointer (some ⟨w.heap.size, 0, none⟩)) true ty).run Tryd.prog wr = _ := fun ty => Lib.run_next_end_at wr w.heap.size s pos ty hk hp
      go_wp2
      go_ret
      refine ⟨?_, hb⟩
      rw [span_eq digit s.data.toList pos (by rw [HL.out]; omega) Hall.out (.inl (by rw [HL.out]; omega)), show pos = s.size by omega]
      rfl
theorem run_letter (s : ByteArray) (w : World) :
    Calls Tryd.prog 94 #[.string s, .func (.func 95) #[] #[]] w fun e w' => e = .returned (.int .i64 (span letter s.data.toList : Int)) ∧ Below w.heap.size w w' := by
  have hk0 : (w.iter s 0).heap[w.heap.size]? = some (.stringIter s 0) := World.iter_heap w s 0
  have hb0 : Below w.heap.size w (w.iter s 0) := (Below.refl _ w).alloc (Nat.le_refl _) _
  have HL : Hid (s.data.toList.length = s.size) := (Lib.size_eq s).symm
  go_enter Tryd.func94, Tryd.ntmps94
  go_wp2
  go_loopw [5] (fun _ wr => ∃ pos : Nat, pos ≤ s.size ∧ wr.heap[w.heap.size]? = some (.stringIter s pos) ∧ (∀ i, i < pos → letter (s.data.toList.getD i 0) = true) ∧ Below w.heap.size w wr) (fun _ wr => s.size - wr.iterPos w.heap.size)
  case atStart => exact ⟨0, Nat.zero_le _, hk0, fun i hi => by omega, hb0⟩
  case round =>
    obtain ⟨pos, hps, hk, hall, hb⟩ := hrel
    clear hk0 hb0
    have Hall : Hid (∀ i, i < pos → letter (s.data.toList.getD i 0) = true) := hall
    clear hall
    by_cases hp : pos < s.size
    · obtain ⟨hR, hn, hle, hrange⟩ := rune_step letter rLetter false letter_byte rLetter_high s pos hp
      have hnext : ∀ ty, (Instr.next (.pointer (some ⟨w.heap.size, 0, none⟩)) true ty).run Tryd.prog wr = _ := fun ty => Lib.run_next_any_at wr w.heap.size s pos ty hk hp
      have hmu : Hid (wr.iterPos w.heap.size = pos) := by unfold Hid; simp [World.iterPos, hk]
      generalize (Utf8.decode s pos).1 = rr at hR hnext
      generalize (Utf8.decode s pos).2 = nn at hn hle hrange hnext
      have hk1 := Lib.iterAt_heap wr w.heap.size s pos (pos + nn) hk
      have hb1 : Below w.heap.size w (wr.iterAt w.heap.size s (pos + nn)) := Lib.below_iterAt hb (Nat.le_refl _) s (pos + nn)
      generalize wr.iterAt w.heap.size s (pos + nn) = W1 at hnext hk1 hb1
      have Hrange : Hid (∀ i, pos ≤ i → i < pos + nn → letter (s.data.toList.getD i 0) = letter (s.data.toList.getD pos 0)) := hrange
      have hfn := isLetter (rr : Int) W1
      rw [hR] at hfn
      clear hk hb hrange hR
      cases hv : letter (s.data.toList.getD pos 0)
      · rw [hv] at hfn
        have Hv : Hid (letter (s.data.toList.getD pos 0) = false) := hv
        clear hv
        go_wp2_with (go_at_call 95; refine hfn.mono ?_; rintro e w2 ⟨rfl, h⟩; rw [h]; clear h w2)
        go_ret
        refine ⟨?_, hb1⟩
        rw [span_eq letter s.data.toList pos (by rw [HL.out]; omega) Hall.out (.inr Hv.out)]
        rfl
      · rw [hv] at hfn
        have Hv : Hid (letter (s.data.toList.getD pos 0) = true) := hv
        clear hv
        go_wp2_with (go_at_call 95; refine hfn.mono ?_; rintro e w2 ⟨rfl, h⟩; rw [h]; clear h w2)
        go_roundw
        case rel =>
          refine ⟨pos + nn, hle, hk1, fun i hi => ?_, hb1⟩
          by_cases h : i < pos
          · exact Hall.out i h
          · rw [Hrange.out i (by omega) hi]; exact Hv.out
        case measure =>
          have hmu2 : W1.iterPos w.heap.size = pos + nn := by simp [World.iterPos, hk1]
          rw [hmu.out, hmu2]
          omega
    · have hnext : ∀ ty, (Instr.next (.pointer (some ⟨w.heap.size, 0, none⟩)) true ty).run Tryd.prog wr = _ := fun ty => Lib.run_next_end_at wr w.heap.size s pos ty hk hp
      go_wp2
      go_ret
      refine ⟨?_, hb⟩
      rw [span_eq letter s.data.toList pos (by rw [HL.out]; omega) Hall.out (.inl (by rw [HL.out]; omega)), show pos = s.size by omega]
      rfl
theorem run_ofWord (s : ByteArray) (w : World) :
    Calls Tryd.prog 94 #[.string s, .func (.func 96) #[] #[]] w fun e w' => e = .returned (.int .i64 (span ofWord s.data.toList : Int)) ∧ Below w.heap.size w w' := by
  have hk0 : (w.iter s 0).heap[w.heap.size]? = some (.stringIter s 0) := World.iter_heap w s 0
  have hb0 : Below w.heap.size w (w.iter s 0) := (Below.refl _ w).alloc (Nat.le_refl _) _
  have HL : Hid (s.data.toList.length = s.size) := (Lib.size_eq s).symm
  go_enter Tryd.func94, Tryd.ntmps94
  go_wp2
  go_loopw [5] (fun _ wr => ∃ pos : Nat, pos ≤ s.size ∧ wr.heap[w.heap.size]? = some (.stringIter s pos) ∧ (∀ i, i < pos → ofWord (s.data.toList.getD i 0) = true) ∧ Below w.heap.size w wr) (fun _ wr => s.size - wr.iterPos w.heap.size)
  case atStart => exact ⟨0, Nat.zero_le _, hk0, fun i hi => by omega, hb0⟩
  case round =>
    obtain ⟨pos, hps, hk, hall, hb⟩ := hrel
    clear hk0 hb0
    have Hall : Hid (∀ i, i < pos → ofWord (s.data.toList.getD i 0) = true) := hall
    clear hall
    by_cases hp : pos < s.size
    · obtain ⟨hR, hn, hle, hrange⟩ := rune_step ofWord rOfWord false ofWord_byte rOfWord_high s pos hp
      have hnext : ∀ ty, (Instr.next (.pointer (some ⟨w.heap.size, 0, none⟩)) true ty).run Tryd.prog wr = _ := fun ty => Lib.run_next_any_at wr w.heap.size s pos ty hk hp
      have hmu : Hid (wr.iterPos w.heap.size = pos) := by unfold Hid; simp [World.iterPos, hk]
      generalize (Utf8.decode s pos).1 = rr at hR hnext
      generalize (Utf8.decode s pos).2 = nn at hn hle hrange hnext
      have hk1 := Lib.iterAt_heap wr w.heap.size s pos (pos + nn) hk
      have hb1 : Below w.heap.size w (wr.iterAt w.heap.size s (pos + nn)) := Lib.below_iterAt hb (Nat.le_refl _) s (pos + nn)
      generalize wr.iterAt w.heap.size s (pos + nn) = W1 at hnext hk1 hb1
      have Hrange : Hid (∀ i, pos ≤ i → i < pos + nn → ofWord (s.data.toList.getD i 0) = ofWord (s.data.toList.getD pos 0)) := hrange
      have hfn := isOfWord (rr : Int) W1
      rw [hR] at hfn
      clear hk hb hrange hR
      cases hv : ofWord (s.data.toList.getD pos 0)
      · rw [hv] at hfn
        have Hv : Hid (ofWord (s.data.toList.getD pos 0) = false) := hv
        clear hv
        go_wp2_with (go_at_call 96; refine hfn.mono ?_; rintro e w2 ⟨rfl, h⟩; rw [h]; clear h w2)
        go_ret
        refine ⟨?_, hb1⟩
        rw [span_eq ofWord s.data.toList pos (by rw [HL.out]; omega) Hall.out (.inr Hv.out)]
        rfl
      · rw [hv] at hfn
        have Hv : Hid (ofWord (s.data.toList.getD pos 0) = true) := hv
        clear hv
        go_wp2_with (go_at_call 96; refine hfn.mono ?_; rintro e w2 ⟨rfl, h⟩; rw [h]; clear h w2)
        go_roundw
        case rel =>
          refine ⟨pos + nn, hle, hk1, fun i hi => ?_, hb1⟩
          by_cases h : i < pos
          · exact Hall.out i h
          · rw [Hrange.out i (by omega) hi]; exact Hv.out
        case measure =>
          have hmu2 : W1.iterPos w.heap.size = pos + nn := by simp [World.iterPos, hk1]
          rw [hmu.out, hmu2]
          omega
    · have hnext : ∀ ty, (Instr.next (.pointer (some ⟨w.heap.size, 0, none⟩)) true ty).run Tryd.prog wr = _ := fun ty => Lib.run_next_end_at wr w.heap.size s pos ty hk hp
      go_wp2
      go_ret
      refine ⟨?_, hb⟩
      rw [span_eq ofWord s.data.toList pos (by rw [HL.out]; omega) Hall.out (.inl (by rw [HL.out]; omega)), show pos = s.size by omega]
      rfl
end Go.Proofs.YtdenddknbmiboaaDoor.Lex
namespace Go.Proofs.YtdenddknbmiboaaDoor.Lex
open Go.RowKit
theorem bstep {w w1 w2 : World} (h1 : Below w.heap.size w w1) (h2 : Below w1.heap.size w1 w2) : Below w.heap.size w w2 := h1.trans (h2.mono h1.size)
def wordLen (l : List UInt8) : Nat := if span letter l = 0 then 0 else span ofWord l
def numLen (l : List UInt8) : Nat := if 1 < span digit l ∧ (l.getD 0 0).toNat = 48 then 0 else span digit l
theorem wordLength (s : ByteArray) (w : World) : Calls Tryd.prog 91 #[.string s] w fun e w' => e = .returned (.int .i64 (wordLen s.data.toList : Int)) ∧ Below w.heap.size w w' := by
  have h1 := run_letter s w
  have h2 := fun W => run_ofWord s W
  unfold wordLen
  generalize span letter s.data.toList = a at h1
  generalize span ofWord s.data.toList = b at h2
  by_cases ha : a = 0
  · subst ha
    go_enter Tryd.func91, Tryd.ntmps91
    go_wp2_with (go_at_call 94; refine h1.mono ?_; rintro e w2 ⟨rfl, hk2⟩)
    go_ret
    exact ⟨rfl, hk2⟩
  · rw [if_neg ha]
    have hz : ((a : Int) == 0) = false := by simp; omega
    have p1 : Hid True := trivial
    clear ha
    go_enter Tryd.func91, Tryd.ntmps91
    go_wp2_with (go_at_call 94; first
      | (clear p1; refine h1.mono ?_; rintro e w2 ⟨rfl, hk2⟩)
      | (refine (h2 w2).mono ?_; rintro e w3 ⟨rfl, hk3⟩))
    go_ret
    exact ⟨rfl, bstep hk2 hk3⟩
/-! ### The document's own -/
theorem drop_getD (l : List UInt8) (a i : Nat) : (l.drop a).getD i 0 = l.getD (a + i) 0 := by simp [List.getD, List.getElem?_drop]
theorem letter_ofWord {c : UInt8} (h : letter c = true) : ofWord c = true := by unfold ofWord; rw [h]; rfl
/-- The i-th byte of a word may stand there. -/
def okW (c : UInt8) (i : Nat) : Bool := letter c || (decide (0 < i) && (digit c || c.toNat == 95))
theorem okW_ofWord {c : UInt8} {i : Nat} (h : okW c i = true) : ofWord c = true := by
  unfold okW at h; unfold ofWord
  cases hl : letter c <;> rw [hl] at h <;> simp_all
theorem okW_succ (c : UInt8) (i : Nat) (h : 0 < i) : okW c i = ofWord c := by
  unfold okW ofWord; rw [decide_eq_true h, Bool.true_and, Bool.or_assoc]
theorem okW_zero (c : UInt8) : okW c 0 = letter c := by unfold okW; simp
theorem wordLen_eq (l : List UInt8) (k : Nat) (hk : k ≤ l.length) (h1 : ∀ i, i < k → okW (l.getD i 0) i = true) (h2 : k = l.length ∨ okW (l.getD k 0) k = false) : wordLen l = k := by
  unfold wordLen
  by_cases h0 : k = 0
  · subst h0
    have : span letter l = 0 := span_eq letter l 0 hk (fun i hi => by omega) (h2.imp id fun h => by rwa [okW_zero] at h)
    rw [if_pos this]
  · have ha : span letter l ≠ 0 := fun h => by
      have hs := span_stop letter l (by omega)
      rw [h] at hs
      have := h1 0 (by omega)
      rw [okW_zero] at this
      rw [this] at hs; cases hs
    rw [if_neg ha]
    exact span_eq ofWord l k hk (fun i hi => okW_ofWord (h1 i hi)) (h2.imp id fun h => by rwa [okW_succ _ _ (by omega)] at h)
/-! ### A number -/
end Go.Proofs.YtdenddknbmiboaaDoor.Lex
namespace Go.Proofs.YtdenddknbmiboaaDoor.Lex
open Go.RowKit
/-- The words of the language. -/
def resL : List ByteArray := [⟨#[115, 116, 97, 116, 105, 111, 110, 115]⟩, ⟨#[105, 110]⟩, ⟨#[97, 116]⟩, ⟨#[102, 108, 111, 119]⟩, ⟨#[100, 101, 102, 97, 117, 108, 116]⟩, ⟨#[111, 117, 116]⟩, ⟨#[105, 102]⟩, ⟨#[116, 104, 101, 110]⟩, ⟨#[101, 108, 115, 101]⟩, ⟨#[112, 114, 101]⟩, ⟨#[97, 110, 100]⟩, ⟨#[111, 114]⟩, ⟨#[110, 111, 116]⟩, ⟨#[116, 114, 117, 101]⟩, ⟨#[102, 97, 108, 115, 101]⟩, ⟨#[105, 110, 116]⟩, ⟨#[98, 111, 111, 108]⟩]
def resV : Array Value := #[.string ⟨#[115, 116, 97, 116, 105, 111, 110, 115]⟩, .string ⟨#[105, 110]⟩, .string ⟨#[97, 116]⟩, .string ⟨#[102, 108, 111, 119]⟩, .string ⟨#[100, 101, 102, 97, 117, 108, 116]⟩, .string ⟨#[111, 117, 116]⟩, .string ⟨#[105, 102]⟩, .string ⟨#[116, 104, 101, 110]⟩, .string ⟨#[101, 108, 115, 101]⟩, .string ⟨#[112, 114, 101]⟩, .string ⟨#[97, 110, 100]⟩, .string ⟨#[111, 114]⟩, .string ⟨#[110, 111, 116]⟩, .string ⟨#[116, 114, 117, 101]⟩, .string ⟨#[102, 97, 108, 115, 101]⟩, .string ⟨#[105, 110, 116]⟩, .string ⟨#[98, 111, 111, 108]⟩]
def resS (k : Nat) : ByteArray := resL.getD k ⟨#[]⟩
def isRes (s : ByteArray) : Bool := resL.any fun x => x.toList == s.toList
/-- The package's table of words stands as it is laid. -/
def TabR (w : World) : Prop := ∃ t fz, w.heap[0]? = some (.cells resV t fz)
theorem TabR.below {w w' : World} (h : TabR w) (hb : Below w.heap.size w w') : TabR w' := by
  obtain ⟨t, fz, h⟩ := h
  exact ⟨t, fz, (hb.block 0 (Array.getElem?_eq_some_iff.1 h).1).trans h⟩
theorem res_index_0 (w : World) : (Instr.index 171 (.agg resV) (.int .i64 0)).run Tryd.prog w = .ok (.string ⟨#[115, 116, 97, 116, 105, 111, 110, 115]⟩) w := by kernel_rfl
theorem res_index_1 (w : World) : (Instr.index 171 (.agg resV) (.int .i64 1)).run Tryd.prog w = .ok (.string ⟨#[105, 110]⟩) w := by kernel_rfl
theorem res_index_2 (w : World) : (Instr.index 171 (.agg resV) (.int .i64 2)).run Tryd.prog w = .ok (.string ⟨#[97, 116]⟩) w := by kernel_rfl
theorem res_index_3 (w : World) : (Instr.index 171 (.agg resV) (.int .i64 3)).run Tryd.prog w = .ok (.string ⟨#[102, 108, 111, 119]⟩) w := by kernel_rfl
theorem res_index_4 (w : World) : (Instr.index 171 (.agg resV) (.int .i64 4)).run Tryd.prog w = .ok (.string ⟨#[100, 101, 102, 97, 117, 108, 116]⟩) w := by kernel_rfl
theorem res_index_5 (w : World) : (Instr.index 171 (.agg resV) (.int .i64 5)).run Tryd.prog w = .ok (.string ⟨#[111, 117, 116]⟩) w := by kernel_rfl
theorem res_index_6 (w : World) : (Instr.index 171 (.agg resV) (.int .i64 6)).run Tryd.prog w = .ok (.string ⟨#[105, 102]⟩) w := by kernel_rfl
theorem res_index_7 (w : World) : (Instr.index 171 (.agg resV) (.int .i64 7)).run Tryd.prog w = .ok (.string ⟨#[116, 104, 101, 110]⟩) w := by kernel_rfl
theorem res_index_8 (w : World) : (Instr.index 171 (.agg resV) (.int .i64 8)).run Tryd.prog w = .ok (.string ⟨#[101, 108, 115, 101]⟩) w := by kernel_rfl
theorem res_index_9 (w : World) : (Instr.index 171 (.agg resV) (.int .i64 9)).run Tryd.prog w = .ok (.string ⟨#[112, 114, 101]⟩) w := by kernel_rfl
theorem res_index_10 (w : World) : (Instr.index 171 (.agg resV) (.int .i64 10)).run Tryd.prog w = .ok (.string ⟨#[97, 110, 100]⟩) w := by kernel_rfl
theorem res_index_11 (w : World) : (Instr.index 171 (.agg resV) (.int .i64 11)).run Tryd.prog w = .ok (.string ⟨#[111, 114]⟩) w := by kernel_rfl
theorem res_index_12 (w : World) : (Instr.index 171 (.agg resV) (.int .i64 12)).run Tryd.prog w = .ok (.string ⟨#[110, 111, 116]⟩) w := by kernel_rfl
theorem res_index_13 (w : World) : (Instr.index 171 (.agg resV) (.int .i64 13)).run Tryd.prog w = .ok (.string ⟨#[116, 114, 117, 101]⟩) w := by kernel_rfl
theorem res_index_14 (w : World) : (Instr.index 171 (.agg resV) (.int .i64 14)).run Tryd.prog w = .ok (.string ⟨#[102, 97, 108, 115, 101]⟩) w := by kernel_rfl
theorem res_index_15 (w : World) : (Instr.index 171 (.agg resV) (.int .i64 15)).run Tryd.prog w = .ok (.string ⟨#[105, 110, 116]⟩) w := by kernel_rfl
theorem res_index_16 (w : World) : (Instr.index 171 (.agg resV) (.int .i64 16)).run Tryd.prog w = .ok (.string ⟨#[98, 111, 111, 108]⟩) w := by kernel_rfl
theorem res_index (k : Nat) (hk : k < 17) (w : World) : (Instr.index 171 (.agg resV) (.int .i64 (k : Int))).run Tryd.prog w = .ok (.string (resS k)) w := by
  have h : k = 0 ∨ k = 1 ∨ k = 2 ∨ k = 3 ∨ k = 4 ∨ k = 5 ∨ k = 6 ∨ k = 7 ∨ k = 8 ∨ k = 9 ∨ k = 10 ∨ k = 11 ∨ k = 12 ∨ k = 13 ∨ k = 14 ∨ k = 15 ∨ k = 16 := by omega
  rcases h with rfl | rfl | rfl | rfl | rfl | rfl | rfl | rfl | rfl | rfl | rfl | rfl | rfl | rfl | rfl | rfl | rfl
  · exact res_index_0 w
  · exact res_index_1 w
  · exact res_index_2 w
  · exact res_index_3 w
  · exact res_index_4 w
  · exact res_index_5 w
  · exact res_index_6 w
  · exact res_index_7 w
  · exact res_index_8 w
  · exact res_index_9 w
  · exact res_index_10 w
  · exact res_index_11 w
  · exact res_index_12 w
  · exact res_index_13 w
  · exact res_index_14 w
  · exact res_index_15 w
  · exact res_index_16 w
theorem res_cell (k : Nat) (hk : k < 17) : resV[k]? = some (.string (resS k)) := by
  have h : k = 0 ∨ k = 1 ∨ k = 2 ∨ k = 3 ∨ k = 4 ∨ k = 5 ∨ k = 6 ∨ k = 7 ∨ k = 8 ∨ k = 9 ∨ k = 10 ∨ k = 11 ∨ k = 12 ∨ k = 13 ∨ k = 14 ∨ k = 15 ∨ k = 16 := by omega
  rcases h with rfl | rfl | rfl | rfl | rfl | rfl | rfl | rfl | rfl | rfl | rfl | rfl | rfl | rfl | rfl | rfl | rfl
  all_goals rfl
theorem isRes_true {s : ByteArray} (k : Nat) (hk : k < 17) (h : ((resS k).toList == s.toList) = true) : isRes s = true := by
  unfold isRes
  rw [List.any_eq_true]
  refine ⟨resS k, ?_, h⟩
  unfold resS
  rw [List.getD_eq_getElem?_getD, List.getElem?_eq_getElem (show k < resL.length from hk)]
  exact List.getElem_mem _
theorem isRes_false {s : ByteArray} (h : ∀ k, k < 17 → ((resS k).toList == s.toList) = false) : isRes s = false := by
  unfold isRes
  rw [List.any_eq_false]
  intro x hx hxs
  obtain ⟨k, hk, e⟩ := List.getElem_of_mem hx
  have := h k hk
  unfold resS at this
  rw [List.getD_eq_getElem?_getD, List.getElem?_eq_getElem hk, e] at this
  simp only [Option.getD_some] at this
  rw [this] at hxs
  cases hxs
theorem isReserved (s : ByteArray) (w : World) (hT : TabR w) : Calls Tryd.prog 92 #[.string s] w fun e w' => e = .returned (.bool (isRes s)) ∧ w' = w := by
  obtain ⟨t, fz, h0⟩ := hT
  go_enter Tryd.func92, Tryd.ntmps92
  go_wp2_with (refine wpList_load_row rfl 171 _ rfl 0 rfl t resV fz _ h0 Tryd.underlying171 rfl (by kernel_rfl) ?_)
  go_loop [6] (fun i => ∃ k : Nat, k ≤ 17 ∧ i = .int .i64 k ∧ Hid (∀ j, j < k → ((resS j).toList == s.toList) = false)) (fun i => 17 - (intOf i).toNat)
  case atStart => exact ⟨0, by omega, rfl, fun j hj => by omega⟩
  case round =>
    obtain ⟨k, hk, rfl, hall⟩ := hrel
    by_cases hlt : k < 17
    · have hlt' : (k : Int) < 17 := by omega
      have hx := fun W => res_index k hlt W
      generalize hv : resV = V at hx ⊢
      clear hv h0
      cases he : ((resS k).toList == s.toList)
      · have Hnew : Hid (∀ j, j < k + 1 → ((resS j).toList == s.toList) = false) := fun j hj => by
          by_cases e : j = k
          · rw [e]; exact he
          · exact hall.out j (by omega)
        go_wp2
        go_round
        case rel => exact ⟨k + 1, by omega, by go_num, Hnew⟩
        case measure => simp [intOf]; omega
      · have Hr : Hid (isRes s = true) := isRes_true k hlt he
        go_wp2
        go_ret
        exact ⟨by rw [Hr.out]; rfl, rfl⟩
    · have Hr : Hid (isRes s = false) := isRes_false fun j hj => hall.out j (by omega)
      have hlt' : ¬ (k : Int) < 17 := by omega
      go_wp2
      go_ret
      exact ⟨by rw [Hr.out]; rfl, rfl⟩
theorem size_list (s : ByteArray) : s.toList.length = s.size := by rw [ByteArray.toList_eq, ← Lib.size_eq]
theorem empty_yes {s : ByteArray} (h : s.size = 0) : s.toList.isEmpty = true := by
  rw [List.isEmpty_iff_length_eq_zero, size_list]; exact h
theorem empty_no {s : ByteArray} (h : ¬ s.size = 0) : s.toList.isEmpty = false := by
  cases he : s.toList.isEmpty with
  | false => rfl
  | true => rw [List.isEmpty_iff_length_eq_zero, size_list] at he; exact (h he).elim
/-- May a text be a name? -/
def isName (s : ByteArray) : Bool := decide (0 < s.size) && (decide (s.size ≤ 40) && (decide (wordLen s.data.toList = s.size) && !isRes s))
theorem name (s : ByteArray) (w : World) (hT : TabR w) : Calls Tryd.prog 83 #[.string s] w fun e w' => e = .returned (.bool (isName s)) ∧ Below w.heap.size w w' := by
  have hw := wordLength s w
  have hr := fun W hT => isReserved s W hT
  unfold isName
  generalize wordLen s.data.toList = n at hw
  generalize isRes s = r at hr
  by_cases h0 : s.size = 0
  · have he : s.toList.isEmpty = true := empty_yes h0
    have Hz : Hid (decide (0 < s.size) = false) := decide_eq_false (by omega)
    clear h0
    go_enter Tryd.func83, Tryd.ntmps83
    go_wp2
    go_ret
    exact ⟨by rw [Hz.out]; simp, Below.refl _ _⟩
  · have he : s.toList.isEmpty = false := empty_no h0
    have Hz : Hid (decide (0 < s.size) = true) := decide_eq_true (by omega)
    by_cases h40 : s.size ≤ 40
    · have h40' : (s.size : Int) ≤ 40 := by omega
      have H40 : Hid (decide (s.size ≤ 40) = true) := decide_eq_true h40
      by_cases hn : n = s.size
      · have hn' : ((n : Int) == (s.size : Int)) = true := by simp [hn]
        have Hn : Hid (decide (n = s.size) = true) := decide_eq_true hn
        clear h0 hn
        go_enter Tryd.func83, Tryd.ntmps83
        go_wp2_with (first
          | (go_at_call 91; refine hw.mono ?_; rintro e w2 ⟨rfl, hk2⟩)
          | (go_at_call 92; refine (hr w2 (hT.below hk2)).mono ?_; rintro e w3 ⟨rfl, h3⟩; rw [h3]; clear h3 w3))
        go_ret
        exact ⟨by rw [Hz.out, H40.out, Hn.out]; simp, hk2⟩
      · have hn' : ((n : Int) == (s.size : Int)) = false := by simp; omega
        have Hn : Hid (decide (n = s.size) = false) := decide_eq_false hn
        clear h0 hn
        go_enter Tryd.func83, Tryd.ntmps83
        go_wp2_with (go_at_call 91; refine hw.mono ?_; rintro e w2 ⟨rfl, hk2⟩)
        go_ret
        exact ⟨by rw [Hz.out, H40.out, Hn.out]; simp, hk2⟩
    · have h40' : ¬ (s.size : Int) ≤ 40 := by omega
      have H40 : Hid (decide (s.size ≤ 40) = false) := decide_eq_false h40
      clear h0 h40
      go_enter Tryd.func83, Tryd.ntmps83
      go_wp2
      go_ret
      exact ⟨by rw [Hz.out, H40.out]; simp, Below.refl _ _⟩
end Go.Proofs.YtdenddknbmiboaaDoor.Lex
namespace Go.Proofs
open Go.Shelf
def Tryd.laysM316_ren : Go.Shelf.Ren := ⟨fun | 316 => 72 | n => n, fun | 9 => 9 | 3 => 3 | 4 => 4 | 37 => 163 | 0 => 0 | 127 => 165 | 5 => 5 | n => n, fun | n => n⟩
theorem Tryd.laysM316 : Go.Proofs.LaysM.n316 Tryd.prog Tryd.laysM316_ren := {
  mixed := by kernel_rfl
  f316 := Tryd.func72.trans (congrArg some (by kernel_rfl))
  t0 := Tryd.underlying0
  a0 := Tryd.isAgg0
  z0 := Tryd.sizeOf0
  v0 := Tryd.zeroValue0
  t3 := Tryd.underlying3
  a3 := Tryd.isAgg3
  z3 := Tryd.sizeOf3
  v3 := Tryd.zeroValue3
  t4 := Tryd.underlying4
  a4 := Tryd.isAgg4
  z4 := Tryd.sizeOf4
  v4 := Tryd.zeroValue4
  t9 := Tryd.underlying9
  a9 := Tryd.isAgg9
  z9 := Tryd.sizeOf9
  v9 := Tryd.zeroValue9
  t37 := Tryd.underlying163
  a37 := Tryd.isAgg163
  z37 := Tryd.sizeOf163
  v37 := Tryd.zeroValue163
  t127 := Tryd.underlying165
  a127 := Tryd.isAgg165
  z127 := Tryd.sizeOf165
  v127 := Tryd.zeroValue165
  t5 := Tryd.underlying5
  a5 := Tryd.isAgg5
  z5 := Tryd.sizeOf5
  v5 := Tryd.zeroValue5
  i0 := by kernel_rfl
  i3 := by kernel_rfl
  i4 := by kernel_rfl
  i5 := by kernel_rfl
  i9 := by kernel_rfl
  i37 := by kernel_rfl
  i127 := by kernel_rfl }
open Go.RowKit in
theorem Tryd.stringslite_Clone (s : ByteArray) (w : World) (hlim : s.size ≤ 281474976710656) :
    Calls Tryd.prog 72 #[.string s] w fun e w' => e = .returned (.string s) ∧ Below w.heap.size w w' := Any.stringslite_Clone Tryd.laysM316 s w hlim
end Go.Proofs
namespace Go.Proofs.YtdenddknbmiboaaDoor.Lex
open Go.RowKit
/-- What digits spell behind what others before them did, if it is no more than may be. -/
def mag (acc : Nat) : List UInt8 → Option Nat
  | [] => some acc
  | c :: r => if 9223372036854775807 < acc * 10 + (c.toNat - 48) then none else mag (acc * 10 + (c.toNat - 48)) r
theorem mag_le : ∀ (l : List UInt8) (acc v : Nat), mag acc l = some v → acc ≤ v
  | [], acc, v, h => by simp only [mag] at h; injection h with h; omega
  | c :: r, acc, v, h => by
    simp only [mag] at h
    split at h
    · cases h
    · have := mag_le r _ v h; omega
theorem parse_some : ∀ (l : List UInt8) (acc v : Nat), (∀ c ∈ l, digit c = true) → mag acc l = some v → Lib.parseUint10 acc l = .ok v
  | [], acc, v, _, h => by simp only [mag] at h; injection h with h; rw [h]; rfl
  | c :: r, acc, v, hd, h => by
    have hc := hd c (List.mem_cons_self ..)
    unfold digit at hc
    simp at hc
    simp only [mag] at h
    split at h
    · cases h
    · next hn =>
      simp only [Lib.parseUint10]
      rw [if_pos hc, if_neg (by omega), if_neg (by omega)]
      exact parse_some r _ v (fun x hx => hd x (List.mem_cons_of_mem _ hx)) h
theorem parse_ge : ∀ (l : List UInt8) (acc u : Nat), Lib.parseUint10 acc l = .ok u → acc ≤ u
  | [], acc, u, h => by simp only [Lib.parseUint10] at h; injection h with h; omega
  | c :: r, acc, u, h => by
    simp only [Lib.parseUint10] at h
    split at h
    · split at h
      · cases h
      · split at h
        · cases h
        · have := parse_ge r _ u h; omega
    · cases h
theorem nosyn : ∀ (l : List UInt8) (acc : Nat), (∀ c ∈ l, digit c = true) → (∃ u, Lib.parseUint10 acc l = .ok u) ∨ Lib.parseUint10 acc l = .range
  | [], acc, _ => .inl ⟨acc, by simp [Lib.parseUint10]⟩
  | c :: r, acc, hd => by
    have hc := hd c (List.mem_cons_self ..)
    unfold digit at hc
    simp at hc
    simp only [Lib.parseUint10]
    rw [if_pos hc]
    split
    · exact .inr rfl
    · split
      · exact .inr rfl
      · exact nosyn r _ fun x hx => hd x (List.mem_cons_of_mem _ hx)
theorem parse_none : ∀ (l : List UInt8) (acc : Nat), (∀ c ∈ l, digit c = true) → mag acc l = none → Lib.parseUint10 acc l = .range ∨ ∃ u, Lib.parseUint10 acc l = .ok u ∧ 9223372036854775808 ≤ u
  | [], acc, _, h => by simp only [mag] at h; cases h
  | c :: r, acc, hd, h => by
    have hc := hd c (List.mem_cons_self ..)
    have hr : ∀ x ∈ r, digit x = true := fun x hx => hd x (List.mem_cons_of_mem _ hx)
    unfold digit at hc
    simp at hc
    simp only [mag] at h
    simp only [Lib.parseUint10]
    rw [if_pos hc]
    split at h
    · next hn =>
      by_cases h1 : 1844674407370955162 ≤ acc
      · left; rw [if_pos h1]
      · rw [if_neg h1]
        by_cases h2 : 18446744073709551616 ≤ acc * 10 + (c.toNat - 48)
        · left; rw [if_pos h2]
        · rw [if_neg h2]
          rcases nosyn r (acc * 10 + (c.toNat - 48)) hr with ⟨u, hp⟩ | hp
          · rw [hp]; exact .inr ⟨u, rfl, by have := parse_ge r _ u hp; omega⟩
          · rw [hp]; exact .inl rfl
    · next hn =>
      rw [if_neg (by omega), if_neg (by omega)]
      exact parse_none r _ hr h
theorem mag_top : ∀ (l : List UInt8) (acc v : Nat), acc ≤ 9223372036854775807 → mag acc l = some v → v ≤ 9223372036854775807
  | [], acc, v, ha, h => by simp only [mag] at h; injection h with h; omega
  | c :: r, acc, v, ha, h => by
    simp only [mag] at h
    split at h
    · cases h
    · exact mag_top r _ v (by omega) h
theorem atoi_digits (l : List UInt8) (hn : l ≠ []) (hd : ∀ c ∈ l, digit c = true) : Lib.parseIntB 64 l = match mag 0 l with | none => .range | some v => .ok (v : Int) := by
  rw [Lib.parseIntB_64]
  cases l with
  | nil => exact (hn rfl).elim
  | cons c r =>
    have hc := hd c (List.mem_cons_self ..)
    unfold digit at hc
    simp at hc
    have hm : Lib.parseMag (c :: r) = Lib.parseUint10 0 (c :: r) := by unfold Lib.parseMag; rw [if_neg (by simp)]
    unfold Lib.atoiAll
    simp only
    rw [if_neg (by omega), hm]
    cases hg : mag 0 (c :: r) with
    | some v =>
      have hv : v < 9223372036854775808 := by
        have := mag_top (c :: r) 0 v (by omega) hg; omega
      rw [parse_some _ _ _ hd hg]
      simp only
      rw [if_neg (by omega), if_neg (by omega), if_neg (by omega)]
    | none =>
      rcases parse_none _ _ hd hg with h | ⟨u, h, hu⟩
      · rw [h]
      · rw [h]
        simp only
        rw [if_pos ⟨by omega, hu⟩]
/-- Where a whole text is a number, its bytes are digits. -/
theorem digits_of_numLen {l : List UInt8} (h0 : l ≠ []) (h : numLen l = l.length) : ∀ c ∈ l, digit c = true := by
  have hp : 0 < l.length := List.length_pos_iff.2 h0
  have hs : span digit l = l.length := by
    unfold numLen at h
    split at h
    · omega
    · exact h
  intro c hc
  obtain ⟨i, hi, rfl⟩ := List.mem_iff_getElem.1 hc
  have := span_at digit l i (by omega)
  simpa [List.getD, List.getElem?_eq_getElem hi] using this
/-- What Number answers. -/
def outE : Option Nat → Int | none => 3 | some _ => 0
def outN : Option Nat → Int | none => 0 | some v => (v : Int)
def numE (s : ByteArray) : Int := if s.size = 0 ∨ numLen s.data.toList ≠ s.size then 5 else outE (mag 0 s.data.toList)
def numN (s : ByteArray) : Int := if s.size = 0 ∨ numLen s.data.toList ≠ s.size then 0 else outN (mag 0 s.data.toList)
theorem list_ne {s : ByteArray} (h : ¬ s.size = 0) : s.data.toList ≠ [] := by
  intro e
  have := Lib.size_eq s
  rw [e] at this
  exact h this
theorem wrap_in {a : Int} (h1 : -9223372036854775808 ≤ a) (h2 : a ≤ 9223372036854775807) : wrap64 a = a := by
  unfold wrap64; omega
theorem mag_step {l : List UInt8} {k a : Nat} (hk : k < l.length) : mag a (l.drop k) = if 9223372036854775807 < a * 10 + ((l.getD k 0).toNat - 48) then none else mag (a * 10 + ((l.getD k 0).toNat - 48)) (l.drop (k + 1)) := by
  rw [List.drop_eq_getElem_cons hk]
  have : l.getD k 0 = l[k] := by simp [List.getD, List.getElem?_eq_getElem hk]
  rw [this]
  rfl
end Go.Proofs.YtdenddknbmiboaaDoor.Lex
namespace Go.Proofs.YtdenddknbmiboaaDoor.Lex
open Go.RowKit
/-- How many bytes that say nothing a text begins with. -/
def silLen (l : List UInt8) : Nat := if Lib.hasPrefix l [45, 45] then span ofLine l else span blank l
/-- The signs. -/
def sgL : List ByteArray := [⟨#[60, 61]⟩, ⟨#[61, 61]⟩, ⟨#[33, 61]⟩, ⟨#[45, 62]⟩, ⟨#[40]⟩, ⟨#[41]⟩, ⟨#[58]⟩, ⟨#[59]⟩, ⟨#[44]⟩, ⟨#[61]⟩, ⟨#[43]⟩, ⟨#[45]⟩, ⟨#[42]⟩, ⟨#[47]⟩, ⟨#[37]⟩, ⟨#[60]⟩]
def sgV : Array Value := #[.string ⟨#[60, 61]⟩, .string ⟨#[61, 61]⟩, .string ⟨#[33, 61]⟩, .string ⟨#[45, 62]⟩, .string ⟨#[40]⟩, .string ⟨#[41]⟩, .string ⟨#[58]⟩, .string ⟨#[59]⟩, .string ⟨#[44]⟩, .string ⟨#[61]⟩, .string ⟨#[43]⟩, .string ⟨#[45]⟩, .string ⟨#[42]⟩, .string ⟨#[47]⟩, .string ⟨#[37]⟩, .string ⟨#[60]⟩]
def sgS (k : Nat) : ByteArray := sgL.getD k ⟨#[]⟩
/-- How many bytes the first of the signs has that a text begins with. -/
def signLen (l : List UInt8) : Nat := match sgL.find? fun p => Lib.hasPrefix l p.data.toList with | some p => p.size | none => 0
/-- The package's table of signs stands as it is laid. -/
def TabS (w : World) : Prop := ∃ t fz, w.heap[5]? = some (.cells sgV t fz)
theorem TabS.below {w w' : World} (h : TabS w) (hb : Below w.heap.size w w') : TabS w' := by
  obtain ⟨t, fz, h⟩ := h
  exact ⟨t, fz, (hb.block 5 (Array.getElem?_eq_some_iff.1 h).1).trans h⟩
theorem sg_size (k : Nat) (hk : k < 16) : 1 ≤ (sgS k).size ∧ (sgS k).size ≤ 2 := by
  have h : k = 0 ∨ k = 1 ∨ k = 2 ∨ k = 3 ∨ k = 4 ∨ k = 5 ∨ k = 6 ∨ k = 7 ∨ k = 8 ∨ k = 9 ∨ k = 10 ∨ k = 11 ∨ k = 12 ∨ k = 13 ∨ k = 14 ∨ k = 15 := by omega
  rcases h with rfl | rfl | rfl | rfl | rfl | rfl | rfl | rfl | rfl | rfl | rfl | rfl | rfl | rfl | rfl | rfl
  all_goals exact ⟨by decide, by decide⟩
theorem find_at : ∀ (l : List ByteArray) (p : ByteArray → Bool) (k : Nat), k < l.length → (∀ j, j < k → p (l.getD j ⟨#[]⟩) = false) → p (l.getD k ⟨#[]⟩) = true → l.find? p = some (l.getD k ⟨#[]⟩)
  | [], _, k, hk, _, _ => by simp at hk
  | a :: l, p, 0, _, _, h => by simp at h; simp [List.find?, h]
  | a :: l, p, k + 1, hk, hl, h => by
    have h0 := hl 0 (by omega)
    simp at h0
    have := find_at l p k (by simpa using hk) (fun j hj => by simpa using hl (j + 1) (by omega)) (by simpa using h)
    simp only [List.find?, h0]
    simpa using this
theorem signLen_at {l : List UInt8} (k : Nat) (hk : k < 16) (h1 : ∀ j, j < k → Lib.hasPrefix l (sgS j).data.toList = false) (h2 : Lib.hasPrefix l (sgS k).data.toList = true) : signLen l = (sgS k).size := by
  unfold signLen
  rw [find_at sgL _ k hk h1 h2]
  rfl
theorem signLen_none {l : List UInt8} (h : ∀ j, j < 16 → Lib.hasPrefix l (sgS j).data.toList = false) : signLen l = 0 := by
  unfold signLen
  have : sgL.find? (fun p => Lib.hasPrefix l p.data.toList) = none := by
    rw [List.find?_eq_none]
    intro x hx hxs
    obtain ⟨k, hk, e⟩ := List.mem_iff_getElem.1 hx
    have := h k hk
    unfold sgS at this
    rw [List.getD_eq_getElem?_getD, List.getElem?_eq_getElem hk, e] at this
    simp only [Option.getD_some] at this
    rw [this] at hxs
    cases hxs
  rw [this]
end Go.Proofs.YtdenddknbmiboaaDoor.Lex
namespace Go.Proofs.YtdenddknbmiboaaDoor.Lex
open Go.ChangeShapes Go.WideShapes Go.ChangeAt Go.RowKit Go.Joins
theorem hid {p : Prop} (h : p) : Hid p := h
/-- What is worked out. -/
structure Ex where
  op : Nat
  n : Int
  name : ByteArray
  args : List Ex
theorem Ex.part_lt (x : Ex) (i : Nat) (h : i < x.args.length) : SizeOf.sizeOf x.args[i] < SizeOf.sizeOf x := by
  obtain ⟨o, n, s, l⟩ := x
  have := List.sizeOf_lt_of_mem (List.getElem_mem h)
  simp only [Ex.mk.sizeOf_spec] at this ⊢
  omega
theorem Ex.pos (x : Ex) : 1 ≤ SizeOf.sizeOf x := by
  obtain ⟨o, n, s, l⟩ := x
  simp only [Ex.mk.sizeOf_spec]
  omega
/-- It stands in memory, looked at so deep: its parts lie behind the last of its cells. -/
def StN (w : World) : Nat → Ex → Value → Prop
  | 0, _, _ => False
  | k + 1, x, s => ∃ (ao : Option Addr) (cap : Nat) (sl : Nat → Value), s = .slice ao x.args.length cap ∧ x.op < 256 ∧ (-9223372036854775808 ≤ x.n ∧ x.n ≤ 9223372036854775807) ∧ x.name.size ≤ 140737488355328 ∧ x.args.length ≤ 2513169434843 ∧ x.args.length ≤ cap ∧
    (x.args.length = 0 ∨ ∃ b o, ao = some ⟨b, o, none⟩ ∧ ∀ i (h : i < x.args.length), w.cell? ⟨b, o + i * 4, none⟩ = some (.int .u8 (x.args[i].op : Int)) ∧ w.cell? ⟨b, o + i * 4 + 1, none⟩ = some (.int .i64 x.args[i].n) ∧
        w.cell? ⟨b, o + i * 4 + 2, none⟩ = some (.string x.args[i].name) ∧ w.cell? ⟨b, o + i * 4 + 3, none⟩ = some (sl i)) ∧ ∀ i (h : i < x.args.length), StN w k x.args[i] (sl i)
theorem StN.up {w : World} : ∀ (k' k : Nat) (x : Ex) (s : Value), StN w k x s → SizeOf.sizeOf x ≤ k' → StN w k' x s
  | 0, k, x, s, _, hs => by have := x.pos; omega
  | k' + 1, 0, x, s, h, _ => h.elim
  | k' + 1, k + 1, x, s, h, hs => by
    obtain ⟨ao, cap, sl, h1, h2, h3, h4, h5, h6, h7, h8⟩ := h
    exact ⟨ao, cap, sl, h1, h2, h3, h4, h5, h6, h7, fun i hi => StN.up k' k _ _ (h8 i hi) (by have := x.part_lt i hi; omega)⟩
/-- It stands in memory. -/
def St (w : World) (x : Ex) (s : Value) : Prop := StN w (SizeOf.sizeOf x) x s
theorem St.intro {w : World} (x : Ex) (ao : Option Addr) (cap : Nat) (sl : Nat → Value) (hop : x.op < 256) (hn : -9223372036854775808 ≤ x.n ∧ x.n ≤ 9223372036854775807) (hnm : x.name.size ≤ 140737488355328) (hlen : x.args.length ≤ 2513169434843) (hcap : x.args.length ≤ cap)
      (hc : x.args.length = 0 ∨ ∃ b o, ao = some ⟨b, o, none⟩ ∧ ∀ i (h : i < x.args.length), w.cell? ⟨b, o + i * 4, none⟩ = some (.int .u8 (x.args[i].op : Int)) ∧ w.cell? ⟨b, o + i * 4 + 1, none⟩ = some (.int .i64 x.args[i].n) ∧
        w.cell? ⟨b, o + i * 4 + 2, none⟩ = some (.string x.args[i].name) ∧ w.cell? ⟨b, o + i * 4 + 3, none⟩ = some (sl i))
      (hs : ∀ i (h : i < x.args.length), St w x.args[i] (sl i)) : St w x (.slice ao x.args.length cap) := by
  unfold St
  obtain ⟨m, hm⟩ : ∃ m, SizeOf.sizeOf x = m + 1 := ⟨SizeOf.sizeOf x - 1, by have := x.pos; omega⟩
  rw [hm]
  exact ⟨ao, cap, sl, rfl, hop, hn, hnm, hlen, hcap, hc, fun i hi => StN.up m _ _ _ (hs i hi) (by have := x.part_lt i hi; omega)⟩
/-- What is known of it, at hand. -/
theorem St.out {w : World} {x : Ex} {s : Value} (h : St w x s) : ∃ (ao : Option Addr) (cap : Nat) (sl : Nat → Value), s = .slice ao x.args.length cap ∧ x.op < 256 ∧ (-9223372036854775808 ≤ x.n ∧ x.n ≤ 9223372036854775807) ∧ x.name.size ≤ 140737488355328 ∧ x.args.length ≤ 2513169434843 ∧ x.args.length ≤ cap ∧
    (x.args.length = 0 ∨ ∃ b o, ao = some ⟨b, o, none⟩ ∧ ∀ i (h : i < x.args.length), w.cell? ⟨b, o + i * 4, none⟩ = some (.int .u8 (x.args[i].op : Int)) ∧ w.cell? ⟨b, o + i * 4 + 1, none⟩ = some (.int .i64 x.args[i].n) ∧
        w.cell? ⟨b, o + i * 4 + 2, none⟩ = some (.string x.args[i].name) ∧ w.cell? ⟨b, o + i * 4 + 3, none⟩ = some (sl i)) ∧ ∀ i (h : i < x.args.length), St w x.args[i] (sl i) := by
  unfold St at h
  obtain ⟨m, hm⟩ : ∃ m, SizeOf.sizeOf x = m + 1 := ⟨SizeOf.sizeOf x - 1, by have := x.pos; omega⟩
  rw [hm] at h
  obtain ⟨ao, cap, sl, h1, h2, h3, h4, h5, h6, h7, h8⟩ := h
  exact ⟨ao, cap, sl, h1, h2, h3, h4, h5, h6, h7, fun i hi => StN.up _ m _ _ (h8 i hi) (Nat.le_refl _)⟩
theorem cell_kept {w w' : World} {p : Addr} {v : Value} (h : w.cell? p = some v) (hb : Below w.heap.size w w') : w'.cell? p = some v := by
  rw [hb.cell (World.block_lt_of_cell? w _ h)]; exact h
theorem St.keepN {w w' : World} (hb : Below w.heap.size w w') : ∀ (m : Nat) (x : Ex) (s : Value), SizeOf.sizeOf x ≤ m → St w x s → St w' x s
  | 0, x, s, hm, _ => by have := x.pos; omega
  | m + 1, x, s, hm, h => by
    obtain ⟨ao, cap, sl, rfl, hop, hn, hnm, hlen, hcap, hc, hs⟩ := h.out
    refine St.intro x ao cap sl hop hn hnm hlen hcap ?_ (fun i hi => St.keepN hb m _ _ (by have := x.part_lt i hi; omega) (hs i hi))
    rcases hc with h0 | ⟨b, o, ha, hc⟩
    · exact .inl h0
    · refine .inr ⟨b, o, ha, fun i hi => ?_⟩
      obtain ⟨h0, h1, h2, h3⟩ := hc i hi
      exact ⟨cell_kept h0 hb, cell_kept h1 hb, cell_kept h2 hb, cell_kept h3 hb⟩
theorem St.keep {w w' : World} {x : Ex} {s : Value} (h : St w x s) (hb : Below w.heap.size w w') : St w' x s := St.keepN hb _ x s (Nat.le_refl _) h
/-- It as a value. -/
abbrev exV (x : Ex) (s : Value) : Value := .agg #[.int .u8 (x.op : Int), .int .i64 x.n, .string x.name, s]
end Go.Proofs.YtdenddknbmiboaaDoor.Lex
namespace Go.Proofs.YtdenddknbmiboaaDoor.Lex
open Go.RowKit
/-- What a text begins with: its kind, and how many bytes it has. -/
def step (l : List UInt8) : Option (Nat × Nat) :=
  if silLen l ≠ 0 then some (0, silLen l) else if wordLen l ≠ 0 then some (1, wordLen l) else if numLen l ≠ 0 then some (2, numLen l) else if signLen l ≠ 0 then some (3, signLen l) else none
theorem silLen_le (l : List UInt8) : silLen l ≤ l.length := by
  unfold silLen
  split
  · exact span_le _ _
  · exact span_le _ _
theorem wordLen_le (l : List UInt8) : wordLen l ≤ l.length := by
  unfold wordLen
  split
  · omega
  · exact span_le _ _
theorem numLen_le (l : List UInt8) : numLen l ≤ l.length := by
  unfold numLen
  split
  · omega
  · exact span_le _ _
theorem prefix_app {l p : List UInt8} (h : Lib.hasPrefix l p = true) : ∃ t, l = p ++ t := by
  unfold Lib.hasPrefix at h
  obtain ⟨t, ht⟩ := List.isPrefixOf_iff_prefix.1 h
  exact ⟨t, ht.symm⟩
theorem signLen_cases (l : List UInt8) : signLen l = 0 ∨ ∃ k, k < 16 ∧ Lib.hasPrefix l (sgS k).data.toList = true ∧ signLen l = (sgS k).size := by
  unfold signLen
  cases h : sgL.find? fun p => Lib.hasPrefix l p.data.toList with
  | none => exact .inl rfl
  | some p =>
    obtain ⟨k, hk, e⟩ := List.mem_iff_getElem.1 (List.mem_of_find?_eq_some h)
    have e2 : sgS k = p := by
      unfold sgS
      rw [List.getD_eq_getElem?_getD, List.getElem?_eq_getElem hk, e]
      rfl
    have hp := List.find?_some h
    refine .inr ⟨k, hk, ?_, ?_⟩
    · rw [e2]; exact hp
    · rw [e2]
theorem signLen_le (l : List UInt8) : signLen l ≤ l.length := by
  rcases signLen_cases l with h | ⟨k, _, hp, h⟩
  · omega
  · obtain ⟨t, ht⟩ := prefix_app hp
    rw [h, Lib.size_eq, ht, List.length_append]
    omega
theorem step_le {l : List UInt8} {k n : Nat} (h : step l = some (k, n)) : 1 ≤ n ∧ n ≤ l.length ∧ k ≤ 3 := by
  have h1 := silLen_le l
  have h2 := wordLen_le l
  have h3 := numLen_le l
  have h4 := signLen_le l
  unfold step at h
  split at h
  · injection h with h; injection h with e1 e2; omega
  · split at h
    · injection h with h; injection h with e1 e2; omega
    · split at h
      · injection h with h; injection h with e1 e2; omega
      · split at h
        · injection h with h; injection h with e1 e2; omega
        · cases h
theorem blank_low {c : UInt8} (h : blank c = true) : c.toNat < 128 := by unfold blank at h; simp at h; omega
theorem digit_low {c : UInt8} (h : digit c = true) : c.toNat < 128 := by unfold digit at h; simp at h; omega
theorem letter_low {c : UInt8} (h : letter c = true) : c.toNat < 128 := by unfold letter at h; simp at h; omega
theorem ofWord_low {c : UInt8} (h : ofWord c = true) : c.toNat < 128 := by
  unfold ofWord at h
  simp at h
  rcases h with (h | h) | h
  · exact letter_low h
  · exact digit_low h
  · omega
theorem sg_low (k : Nat) (hk : k < 16) : ((sgS k).data.toList.getD ((sgS k).size - 1) 0).toNat < 128 ∧ ((sgS k).data.toList.getD 0 0).toNat < 128 := by
  have h : k = 0 ∨ k = 1 ∨ k = 2 ∨ k = 3 ∨ k = 4 ∨ k = 5 ∨ k = 6 ∨ k = 7 ∨ k = 8 ∨ k = 9 ∨ k = 10 ∨ k = 11 ∨ k = 12 ∨ k = 13 ∨ k = 14 ∨ k = 15 := by omega
  rcases h with rfl | rfl | rfl | rfl | rfl | rfl | rfl | rfl | rfl | rfl | rfl | rfl | rfl | rfl | rfl | rfl
  all_goals exact ⟨by decide, by decide⟩
theorem getD_app (p t : List UInt8) (i : Nat) (h : i < p.length) : (p ++ t).getD i 0 = p.getD i 0 := by
  simp [List.getD, List.getElem?_append_left h]
/-- Behind a step the text is at its end, or one of the two bytes beside the place is no part of a longer rune. -/
theorem step_end {l : List UInt8} {k n : Nat} (h : step l = some (k, n)) : n = l.length ∨ (l.getD n 0).toNat < 128 ∨ (l.getD (n - 1) 0).toNat < 128 := by
  obtain ⟨hn, hle, _⟩ := step_le h
  unfold step at h
  split at h
  · injection h with h; injection h with e1 e2
    unfold silLen at e2
    split at e2
    · by_cases hl : n = l.length
      · exact .inl hl
      · right; left
        have := span_stop ofLine l (by omega)
        rw [e2] at this
        generalize l.getD n 0 = c at this ⊢
        unfold ofLine at this
        simp only [Bool.not_eq_eq_eq_not, Bool.not_false, beq_iff_eq] at this
        omega
    · right; right
      exact blank_low (span_at blank l (n - 1) (by omega))
  · split at h
    · injection h with h; injection h with e1 e2
      unfold wordLen at e2
      split at e2
      · omega
      · right; right
        exact ofWord_low (span_at ofWord l (n - 1) (by omega))
    · split at h
      · injection h with h; injection h with e1 e2
        unfold numLen at e2
        split at e2
        · omega
        · right; right
          exact digit_low (span_at digit l (n - 1) (by omega))
      · split at h
        · injection h with h; injection h with e1 e2
          rcases signLen_cases l with h | ⟨k', hk, hp, h⟩
          · omega
          · right; right
            obtain ⟨t, ht⟩ := prefix_app hp
            have hs := sg_size k' hk
            rw [ht, getD_app _ _ _ (by rw [← Lib.size_eq]; omega), show n = (sgS k').size by omega]
            exact (sg_low k' hk).1
        · cases h
theorem span_zero (p : UInt8 → Bool) (l : List UInt8) (h : p (l.getD 0 0) = false) : span p l = 0 := by
  by_cases h0 : span p l = 0
  · exact h0
  · have := span_at p l 0 (by omega)
    rw [h] at this
    cases this
/-- A text that begins with a byte of a longer rune begins with no token. -/
theorem step_high {l : List UInt8} (h : 128 ≤ (l.getD 0 0).toNat) : step l = none := by
  have hb : blank (l.getD 0 0) = false := by cases e : blank (l.getD 0 0) with | false => rfl | true => have := blank_low e; omega
  have hl : letter (l.getD 0 0) = false := by cases e : letter (l.getD 0 0) with | false => rfl | true => have := letter_low e; omega
  have hd : digit (l.getD 0 0) = false := by cases e : digit (l.getD 0 0) with | false => rfl | true => have := digit_low e; omega
  have h1 : silLen l = 0 := by
    unfold silLen
    rw [if_neg]
    · exact span_zero _ _ hb
    · intro hp
      obtain ⟨t, ht⟩ := prefix_app hp
      rw [ht] at h
      simp at h
  have h2 : wordLen l = 0 := by unfold wordLen; rw [if_pos (span_zero _ _ hl)]
  have h3 : numLen l = 0 := by
    have := span_zero _ _ hd
    unfold numLen
    rw [this]
    simp
  have h4 : signLen l = 0 := by
    rcases signLen_cases l with h | ⟨k', hk, hp, _⟩
    · exact h
    · obtain ⟨t, ht⟩ := prefix_app hp
      have hs := sg_size k' hk
      have := (sg_low k' hk).2
      rw [ht, getD_app _ _ _ (by rw [← Lib.size_eq]; omega)] at h
      omega
  unfold step
  simp [h1, h2, h3, h4]
/-- A token. -/
structure Tok where
  kind : Nat
  text : List UInt8
  at_ : Nat
/-- The tokens of a text that begins at a place, so many steps at most; where there is none. -/
def toksN : Nat → Nat → List UInt8 → Except Nat (List Tok)
  | 0, _, _ => .ok []
  | m + 1, at_, l => if l = [] then .ok [] else match step l with
    | none => .error at_
    | some (k, n) => match toksN m (at_ + n) (l.drop n) with
      | .error e => .error e
      | .ok ts => .ok (if k = 0 then ts else ⟨k, l.take n, at_⟩ :: ts)
/-- The tokens of a text that begins at a place; where there is none. -/
def toks (at_ : Nat) (l : List UInt8) : Except Nat (List Tok) := toksN l.length at_ l
theorem toksN_any : ∀ (m m' a : Nat) (l : List UInt8), l.length ≤ m → l.length ≤ m' → toksN m a l = toksN m' a l
  | 0, 0, a, l, _, _ => rfl
  | 0, m' + 1, a, l, h, _ => by rw [List.eq_nil_of_length_eq_zero (Nat.le_zero.1 h)]; simp [toksN]
  | m + 1, 0, a, l, _, h => by rw [List.eq_nil_of_length_eq_zero (Nat.le_zero.1 h)]; simp [toksN]
  | m + 1, m' + 1, a, l, h, h' => by
    simp only [toksN]
    by_cases h0 : l = []
    · rw [if_pos h0, if_pos h0]
    · rw [if_neg h0, if_neg h0]
      cases e : step l with
      | none => rfl
      | some kn =>
        obtain ⟨k, n⟩ := kn
        have hs := step_le e
        simp only
        rw [toksN_any m m' (a + n) (l.drop n) (by rw [List.length_drop]; omega) (by rw [List.length_drop]; omega)]
/-- Tokens ahead of others. -/
def ahead (ts : List Tok) : Except Nat (List Tok) → Except Nat (List Tok)
  | .error e => .error e
  | .ok us => .ok (ts ++ us)
theorem toks_nil (a : Nat) : toks a [] = .ok [] := rfl
theorem toks_none {a : Nat} {l : List UInt8} (h0 : l ≠ []) (h : step l = none) : toks a l = .error a := by
  unfold toks
  obtain ⟨m, hm⟩ : ∃ m, l.length = m + 1 := ⟨l.length - 1, by have := List.length_pos_iff.2 h0; omega⟩
  rw [hm, toksN, if_neg h0, h]
theorem toks_some {a k n : Nat} {l : List UInt8} (h0 : l ≠ []) (h : step l = some (k, n)) : toks a l = ahead (if k = 0 then [] else [⟨k, l.take n, a⟩]) (toks (a + n) (l.drop n)) := by
  have hs := step_le h
  unfold toks
  obtain ⟨m, hm⟩ : ∃ m, l.length = m + 1 := ⟨l.length - 1, by have := List.length_pos_iff.2 h0; omega⟩
  rw [hm, toksN, if_neg h0, h]
  simp only
  rw [toksN_any m (l.drop n).length (a + n) (l.drop n) (by rw [List.length_drop]; omega) (Nat.le_refl _)]
  cases toksN (l.drop n).length (a + n) (l.drop n) with
  | error x => rfl
  | ok us => unfold ahead; by_cases hk : k = 0 <;> simp [hk]
theorem ahead_app (ts us : List Tok) (r : Except Nat (List Tok)) : ahead ts (ahead us r) = ahead (ts ++ us) r := by
  cases r with
  | error x => rfl
  | ok vs => simp [ahead]
end Go.Proofs.YtdenddknbmiboaaDoor.Lex
namespace Go.Proofs.YtdenddknbmiboaaDoor.Lex
open Go.RowKit
theorem below_row {B b : Nat} {a w : World} (h : Below B a w) (hB : B ≤ w.heap.size) (hb : B ≤ b) (cs : Array Value) : Below B a (w.setRow b cs) :=
  h.grown (row := some b) ⟨rfl, rfl, rfl, by simp [World.setRow], fun k _ hk => setRow_other w b k _ (fun e => hk (by rw [e]))⟩ hB (fun k hk => by cases hk; exact hb)
theorem clone (s : ByteArray) (w : World) (h : s.size ≤ 65536) : Calls Tryd.prog 53 #[.string s] w fun e w' => e = .returned (.string s) ∧ Below w.heap.size w w' := by
  have hc := Tryd.stringslite_Clone s w (by omega)
  go_enter Tryd.func53, Tryd.ntmps53
  go_wp2_with (go_at_call 72; refine hc.mono ?_; rintro e w2 ⟨rfl, hb⟩)
  go_ret
  exact ⟨rfl, hb⟩
end Go.Proofs.YtdenddknbmiboaaDoor.Lex
namespace Go.Proofs.YtdenddknbmiboaaDoor.Lex
open Go.ChangeShapes Go.WideShapes Go.ChangeAt Go.RowKit Go.Joins
/-- An operator of two: its number, its token, its rank, those that its places ask for. -/
structure J where
  op : Nat
  kind : Nat
  text : ByteArray
  rank : Nat
  first : Nat
  second : Nat
def JT : List J := [⟨18, 3, ⟨#[45, 62]⟩, 0, 1, 0⟩, ⟨16, 1, ⟨#[111, 114]⟩, 1, 1, 2⟩, ⟨15, 1, ⟨#[97, 110, 100]⟩, 2, 2, 3⟩, ⟨11, 3, ⟨#[61, 61]⟩, 3, 4, 4⟩, ⟨12, 3, ⟨#[33, 61]⟩, 3, 4, 4⟩, ⟨13, 3, ⟨#[60]⟩, 3, 4, 4⟩, ⟨14, 3, ⟨#[60, 61]⟩, 3, 4, 4⟩, ⟨6, 3, ⟨#[43]⟩, 4, 4, 5⟩, ⟨7, 3, ⟨#[45]⟩, 4, 4, 5⟩, ⟨8, 3, ⟨#[42]⟩, 5, 5, 6⟩, ⟨9, 3, ⟨#[47]⟩, 5, 5, 6⟩, ⟨10, 3, ⟨#[37]⟩, 5, 5, 6⟩]
def j0 : J := ⟨0, 0, ByteArray.empty, 0, 0, 0⟩
def jR (k : Nat) : J := JT.getD k j0
def jrow (r : J) : Array Value := #[.int .u8 (r.op : Int), .int .u8 (r.kind : Int), .string r.text, .int .i64 (r.rank : Int), .int .i64 (r.first : Int), .int .i64 (r.second : Int)]
def joinV : Array Value := #[.int .u8 18, .int .u8 3, .string ⟨#[45, 62]⟩, .int .i64 0, .int .i64 1, .int .i64 0, .int .u8 16, .int .u8 1, .string ⟨#[111, 114]⟩, .int .i64 1, .int .i64 1, .int .i64 2, .int .u8 15, .int .u8 1, .string ⟨#[97, 110, 100]⟩, .int .i64 2, .int .i64 2, .int .i64 3, .int .u8 11, .int .u8 3, .string ⟨#[61, 61]⟩, .int .i64 3, .int .i64 4, .int .i64 4, .int .u8 12, .int .u8 3, .string ⟨#[33, 61]⟩, .int .i64 3, .int .i64 4, .int .i64 4, .int .u8 13, .int .u8 3, .string ⟨#[60]⟩, .int .i64 3, .int .i64 4, .int .i64 4, .int .u8 14, .int .u8 3, .string ⟨#[60, 61]⟩, .int .i64 3, .int .i64 4, .int .i64 4, .int .u8 6, .int .u8 3, .string ⟨#[43]⟩, .int .i64 4, .int .i64 4, .int .i64 5, .int .u8 7, .int .u8 3, .string ⟨#[45]⟩, .int .i64 4, .int .i64 4, .int .i64 5, .int .u8 8, .int .u8 3, .string ⟨#[42]⟩, .int .i64 5, .int .i64 5, .int .i64 6, .int .u8 9, .int .u8 3, .string ⟨#[47]⟩, .int .i64 5, .int .i64 5, .int .i64 6, .int .u8 10, .int .u8 3, .string ⟨#[37]⟩, .int .i64 5, .int .i64 5, .int .i64 6]
/-- The table stands in its variable. -/
def TabJ (w : World) : Prop := ∃ t fz, w.heap[1]? = some (.cells joinV t fz)
theorem TabJ.below {w w' : World} (h : TabJ w) (hb : Below w.heap.size w w') : TabJ w' := by
  obtain ⟨t, fz, h⟩ := h
  exact ⟨t, fz, (hb.block 1 (Array.getElem?_eq_some_iff.1 h).1).trans h⟩
theorem j_index_0 (w : World) : (Instr.index 178 (.agg joinV) (.int .i64 0)).run Tryd.prog w = .ok (.agg #[.int .u8 18, .int .u8 3, .string ⟨#[45, 62]⟩, .int .i64 0, .int .i64 1, .int .i64 0]) w := by kernel_rfl
theorem j_index_1 (w : World) : (Instr.index 178 (.agg joinV) (.int .i64 1)).run Tryd.prog w = .ok (.agg #[.int .u8 16, .int .u8 1, .string ⟨#[111, 114]⟩, .int .i64 1, .int .i64 1, .int .i64 2]) w := by kernel_rfl
theorem j_index_2 (w : World) : (Instr.index 178 (.agg joinV) (.int .i64 2)).run Tryd.prog w = .ok (.agg #[.int .u8 15, .int .u8 1, .string ⟨#[97, 110, 100]⟩, .int .i64 2, .int .i64 2, .int .i64 3]) w := by kernel_rfl
theorem j_index_3 (w : World) : (Instr.index 178 (.agg joinV) (.int .i64 3)).run Tryd.prog w = .ok (.agg #[.int .u8 11, .int .u8 3, .string ⟨#[61, 61]⟩, .int .i64 3, .int .i64 4, .int .i64 4]) w := by kernel_rfl
theorem j_index_4 (w : World) : (Instr.index 178 (.agg joinV) (.int .i64 4)).run Tryd.prog w = .ok (.agg #[.int .u8 12, .int .u8 3, .string ⟨#[33, 61]⟩, .int .i64 3, .int .i64 4, .int .i64 4]) w := by kernel_rfl
theorem j_index_5 (w : World) : (Instr.index 178 (.agg joinV) (.int .i64 5)).run Tryd.prog w = .ok (.agg #[.int .u8 13, .int .u8 3, .string ⟨#[60]⟩, .int .i64 3, .int .i64 4, .int .i64 4]) w := by kernel_rfl
theorem j_index_6 (w : World) : (Instr.index 178 (.agg joinV) (.int .i64 6)).run Tryd.prog w = .ok (.agg #[.int .u8 14, .int .u8 3, .string ⟨#[60, 61]⟩, .int .i64 3, .int .i64 4, .int .i64 4]) w := by kernel_rfl
theorem j_index_7 (w : World) : (Instr.index 178 (.agg joinV) (.int .i64 7)).run Tryd.prog w = .ok (.agg #[.int .u8 6, .int .u8 3, .string ⟨#[43]⟩, .int .i64 4, .int .i64 4, .int .i64 5]) w := by kernel_rfl
theorem j_index_8 (w : World) : (Instr.index 178 (.agg joinV) (.int .i64 8)).run Tryd.prog w = .ok (.agg #[.int .u8 7, .int .u8 3, .string ⟨#[45]⟩, .int .i64 4, .int .i64 4, .int .i64 5]) w := by kernel_rfl
theorem j_index_9 (w : World) : (Instr.index 178 (.agg joinV) (.int .i64 9)).run Tryd.prog w = .ok (.agg #[.int .u8 8, .int .u8 3, .string ⟨#[42]⟩, .int .i64 5, .int .i64 5, .int .i64 6]) w := by kernel_rfl
theorem j_index_10 (w : World) : (Instr.index 178 (.agg joinV) (.int .i64 10)).run Tryd.prog w = .ok (.agg #[.int .u8 9, .int .u8 3, .string ⟨#[47]⟩, .int .i64 5, .int .i64 5, .int .i64 6]) w := by kernel_rfl
theorem j_index_11 (w : World) : (Instr.index 178 (.agg joinV) (.int .i64 11)).run Tryd.prog w = .ok (.agg #[.int .u8 10, .int .u8 3, .string ⟨#[37]⟩, .int .i64 5, .int .i64 5, .int .i64 6]) w := by kernel_rfl
theorem j_index (k : Nat) (hk : k < 12) (w : World) : (Instr.index 178 (.agg joinV) (.int .i64 (k : Int))).run Tryd.prog w = .ok (.agg (jrow (jR k))) w := by
  have h : k = 0 ∨ k = 1 ∨ k = 2 ∨ k = 3 ∨ k = 4 ∨ k = 5 ∨ k = 6 ∨ k = 7 ∨ k = 8 ∨ k = 9 ∨ k = 10 ∨ k = 11 := by omega
  rcases h with rfl | rfl | rfl | rfl | rfl | rfl | rfl | rfl | rfl | rfl | rfl | rfl
  · exact j_index_0 w
  · exact j_index_1 w
  · exact j_index_2 w
  · exact j_index_3 w
  · exact j_index_4 w
  · exact j_index_5 w
  · exact j_index_6 w
  · exact j_index_7 w
  · exact j_index_8 w
  · exact j_index_9 w
  · exact j_index_10 w
  · exact j_index_11 w
/-- The operator of a number. -/
def jOf (op : Nat) : Option J := JT.find? fun r => r.op == op
theorem jOf_some {op : Nat} (k : Nat) (hk : k < 12) (h : ∀ j, j < k → ((jR j).op == op) = false) (he : ((jR k).op == op) = true) : jOf op = some (jR k) := by
  unfold jOf
  rw [List.find?_eq_some_iff_getElem]
  have hget : ∀ j (hj : j < JT.length), JT[j]'hj = jR j := fun j hj => by unfold jR; rw [List.getD_eq_getElem?_getD, List.getElem?_eq_getElem hj]; rfl
  have hk' : k < JT.length := hk
  refine ⟨he, k, hk', hget k hk', fun j hj => ?_⟩
  have e := hget j (by omega)
  have hn := h j hj
  rw [← e] at hn
  rw [hn]
  rfl
theorem jOf_none {op : Nat} (h : ∀ j, j < 12 → ((jR j).op == op) = false) : jOf op = none := by
  unfold jOf
  rw [List.find?_eq_none]
  intro r hr
  obtain ⟨j, hj, e⟩ := List.getElem_of_mem hr
  have := h j hj
  unfold jR at this
  rw [List.getD_eq_getElem?_getD, List.getElem?_eq_getElem hj, e] at this
  simp only [Option.getD_some] at this
  rw [this]
  simp
theorem jR_op (k : Nat) : (jR k).op < 256 := by
  by_cases hk : k < 12
  · have h : k = 0 ∨ k = 1 ∨ k = 2 ∨ k = 3 ∨ k = 4 ∨ k = 5 ∨ k = 6 ∨ k = 7 ∨ k = 8 ∨ k = 9 ∨ k = 10 ∨ k = 11 := by omega
    rcases h with rfl | rfl | rfl | rfl | rfl | rfl | rfl | rfl | rfl | rfl | rfl | rfl <;> decide
  · have : jR k = j0 := by unfold jR; rw [List.getD_eq_getElem?_getD, List.getElem?_eq_none (by show 12 ≤ k; omega)]; rfl
    rw [this]; decide
/-- The row that is answered. -/
def jOut (op : Nat) : Array Value := jrow ((jOf op).getD j0)
theorem info83 : (Tryd.prog.info? 175).map (·.size) = some 6 := by kernel_rfl
theorem results_row_tmp {fn : Func} {p u : Tmp} {ty : TypeId} {P : Program} (h : fn.results = #[.cell p ty, .tmp u]) (tmps : Array Value) (w : World) (g : Nat) (cs : Array Value)
    (hp : tmps.getD p undef = .pointer (some ⟨g, 0, none⟩)) (hl : (loadVar ty ⟨g, 0, none⟩).run P w = .ok (.agg cs) w) :
    (results fn tmps).run P w = .ok (.tuple #[.agg cs, tmps.getD u undef]) w := by
  rw [results_cell_tmp h, hp]
  simp [asAddr, hl]
set_option maxRecDepth 100000 in
theorem joinOf (op : Nat) (w : World) (hT : TabJ w) : Calls Tryd.prog 99 #[.int .u8 (op : Int)] w fun e w' => e = .returned (.tuple #[.agg (jOut op), .bool (jOf op).isSome]) ∧ Below w.heap.size w w' := by
  obtain ⟨w1, hw1⟩ : ∃ w1, w1 = w.alloc (.cells (jrow j0) 175) := ⟨_, rfl⟩
  have hb1 : Below w.heap.size w w1 := by rw [hw1]; exact (Below.refl _ _).alloc (Nat.le_refl _) _
  have hR1 : w1.heap[w.heap.size]? = some (.cells (jrow j0) 175 (0, 0)) := by rw [hw1]; exact heap_alloc_new w _
  obtain ⟨t, fz, h0⟩ := hT.below hb1
  have HR := hid hR1
  have HB := hid hb1
  clear hT hR1 hb1
  go_enter Tryd.func99, Tryd.ntmps99
  go_wp2_with (refine wpList_load_row rfl 178 _ rfl 1 rfl t joinV fz _ (by first | exact h0 | (rw [hw1] at h0; exact h0)) Tryd.underlying178 rfl (by kernel_rfl) ?_)
  go_loopw [7] (fun i wr => ∃ k : Nat, k ≤ 12 ∧ i = .int .i64 (k : Int) ∧ Hid (∀ j, j < k → ((jR j).op == op) = false) ∧ Hid (Below w1.heap.size w1 wr)) (fun i _ => 12 - (intOf i).toNat)
  case atStart => exact ⟨0, by omega, rfl, fun j hj => by omega, by rw [hw1]; exact Below.refl _ _⟩
  case round =>
    obtain ⟨k, hk, rfl, hall, hB⟩ := hrel
    by_cases hlt : k < 12
    · have hlt' : (k : Int) < 12 := by omega
      have hx := fun W => j_index k hlt W
      unfold jrow at hx
      generalize hv : joinV = V at hx ⊢
      clear hv h0 hw1
      cases he : ((jR k).op == op)
      · have he' : (((jR k).op : Int) == (op : Int)) = false := by simp at he ⊢; omega
        have Hnew : Hid (∀ j, j < k + 1 → ((jR j).op == op) = false) := fun j hj => by
          by_cases e : j = k
          · rw [e]; exact he
          · exact hall.out j (by omega)
        clear hall he
        generalize (jR k).op = O at *
        go_wp2
        go_roundw
        case rel => exact ⟨k + 1, by omega, by go_num, Hnew, bstep hB.out ((Below.refl _ _).alloc (Nat.le_refl _) _)⟩
        case measure => simp [intOf]; omega
      · have he' : (((jR k).op : Int) == (op : Int)) = true := by simp at he ⊢; omega
        have Hr : Hid (jOf op = some (jR k)) := jOf_some k hlt hall.out he
        obtain ⟨C, hC⟩ : ∃ C, C = jrow (jR k) := ⟨_, rfl⟩
        have hRr : (wr.alloc (.cells (jrow (jR k)) 175)).heap[w.heap.size]? = some (.cells (jrow j0) 175 (0, 0)) := by
          have hb := bstep hB.out ((Below.refl wr.heap.size wr).alloc (Nat.le_refl _) (.cells (jrow (jR k)) 175))
          exact (hb.block _ (Array.getElem?_eq_some_iff.1 HR.out).1).trans HR.out
        unfold jrow at hRr
        clear hall he
        go_wp2_with (refine wpList_store_row rfl 175 _ _ rfl w.heap.size (jrow (jR k)) rfl rfl 175 _ hRr info83 rfl (by simp [Value.oneCell', jrow]) ?_)
        refine bodyPost_ret (results_row_tmp rfl _ _ w.heap.size (jrow (jR k)) rfl (run_loadVar_row _ _ 175 175 (jrow (jR k)) (0, 0) _ (setRow_heap _ _ _ _ _ _ hRr) Tryd.underlying175 rfl info83)) rfl ⟨?_, ?_⟩
        · rw [jOut, Hr.out]; rfl
        · exact below_row (bstep (bstep HB.out hB.out) ((Below.refl _ _).alloc (Nat.le_refl _) _)) (by have := HB.out.size; have := hB.out.size; simp; omega) (Nat.le_refl _) _
    · have hlt' : ¬ (k : Int) < 12 := by omega
      have Hr : Hid (jOf op = none) := jOf_none fun j hj => hall.out j (by omega)
      have hRr : wr.heap[w.heap.size]? = some (.cells (jrow j0) 175 (0, 0)) := (hB.out.block _ (Array.getElem?_eq_some_iff.1 HR.out).1).trans HR.out
      unfold jrow at hRr
      clear hall h0 hw1
      go_wp2_with (refine wpList_store_row rfl 175 _ _ rfl w.heap.size (jrow j0) rfl rfl 175 _ hRr info83 rfl (by simp [Value.oneCell', jrow]) ?_)
      refine bodyPost_ret (results_row_tmp rfl _ _ w.heap.size (jrow j0) rfl (run_loadVar_row _ _ 175 175 (jrow j0) (0, 0) _ (setRow_heap _ _ _ _ _ _ hRr) Tryd.underlying175 rfl info83)) rfl ⟨?_, ?_⟩
      · rw [jOut, Hr.out]; rfl
      · exact below_row (bstep HB.out hB.out) (by have := HB.out.size; have := hB.out.size; omega) (Nat.le_refl _) _
end Go.Proofs.YtdenddknbmiboaaDoor.Lex
namespace Go.Proofs.YtdenddknbmiboaaDoor.Lex
open Go.ChangeShapes Go.WideShapes Go.ChangeAt Go.RowKit Go.Joins
/-- What a token counts by. -/
structure Mark where
  kind : Nat
  text : ByteArray
/-- The mark of the next token; behind the last one there is one of no kind. -/
def markAt (ts : List Mark) (p : Nat) : Mark := ts.getD p ⟨0, ByteArray.empty⟩
abbrev mkV (m : Mark) : Value := .agg #[.int .u8 (m.kind : Int), .string m.text]
/-- Tokens in memory, from any place of a row on. -/
def MarksAt (w : World) (v : Value) (ts : List Mark) : Prop :=
  ∃ a cap, v = .slice a ts.length cap ∧ (ts.length = 0 ∨ ∃ g o, a = some ⟨g, o, none⟩ ∧ ∀ i (h : i < ts.length), w.cell? ⟨g, o + i * 3, none⟩ = some (.int .u8 (ts[i].kind : Int)) ∧ w.cell? ⟨g, o + i * 3 + 1, none⟩ = some (.string ts[i].text) ∧ ∃ at_ : Int, w.cell? ⟨g, o + i * 3 + 2, none⟩ = some (.int .i64 at_))
theorem heap_drew {w : World} {b : Nat} {o : Obj} (h : w.heap[b]? = some o) (n : Nat) : (w.drewN n).heap[b]? = some o := h
theorem below_drewN {B : Nat} {a w : World} (h : Below B a w) (n : Nat) : Below B a (w.drewN n) := h.trans ⟨rfl, rfl, rfl, Nat.le_refl _, fun _ _ => rfl⟩
theorem info81 : (Tryd.prog.info? 173).map (·.size) = some 2 := by kernel_rfl
end Go.Proofs.YtdenddknbmiboaaDoor.Lex
namespace Go.Proofs.YtdenddknbmiboaaDoor.Lex
open Go.ChangeShapes Go.WideShapes Go.ChangeAt Go.RowKit Go.Joins
/-- Of how many parts an operator is. -/
def parts (op : Nat) : Nat := if op = 4 ∨ op = 5 ∨ op = 19 then 1 else if op = 17 then 3 else if (jOf op).isSome then 2 else 0
/-- Has it the fields of its operator? -/
def fieldsOk (op : Nat) (n : Int) (nm : ByteArray) (len : Nat) : Bool :=
  if op = 1 then decide (0 ≤ n) && (decide (nm.size = 0) && decide (len = 0))
  else if op = 2 then (decide (n = 0) || decide (n = 1)) && (decide (nm.size = 0) && decide (len = 0))
  else if op = 3 then decide (n = 0) && (isName nm && decide (len = 0))
  else decide (0 < parts op) && (decide (n = 0) && (decide (nm.size = 0) && decide (len = parts op)))
theorem eqN {a : Nat} {b : Nat} (h : a = b) : ((a : Int) == (b : Int)) = true := by simp [h]
theorem neN {a : Nat} {b : Nat} (h : ¬ a = b) : ((a : Int) == (b : Int)) = false := by simp; omega
theorem ieq {a b : Int} (h : a = b) : (a == b) = true := by simp [h]
theorem ine {a b : Int} (h : ¬ a = b) : (a == b) = false := by simp [h]
set_option maxRecDepth 100000 in
theorem partsOf (op : Nat) (w : World) (hT : TabJ w) : Calls Tryd.prog 97 #[.int .u8 (op : Int)] w fun e w' => e = .returned (.int .i64 (parts op : Int)) ∧ Below w.heap.size w w' := by
  have c := joinOf op w hT
  by_cases h4 : op = 4
  · have e4 := eqN (b := 4) h4
    have hp : parts op = 1 := by unfold parts; rw [if_pos (.inl h4)]
    rw [hp]
    clear hp h4 c
    go_enter Tryd.func97, Tryd.ntmps97
    go_wp2
    go_ret
    exact ⟨rfl, Below.refl _ _⟩
  · have e4 := neN (b := 4) h4
    by_cases h5 : op = 5
    · have e5 := eqN (b := 5) h5
      have hp : parts op = 1 := by unfold parts; rw [if_pos (.inr (.inl h5))]
      rw [hp]
      clear hp h4 h5 c
      go_enter Tryd.func97, Tryd.ntmps97
      go_wp2
      go_ret
      exact ⟨rfl, Below.refl _ _⟩
    · have e5 := neN (b := 5) h5
      by_cases h19 : op = 19
      · have e19 := eqN (b := 19) h19
        have hp : parts op = 1 := by unfold parts; rw [if_pos (.inr (.inr h19))]
        rw [hp]
        clear hp h4 h5 h19 c
        go_enter Tryd.func97, Tryd.ntmps97
        go_wp2
        go_ret
        exact ⟨rfl, Below.refl _ _⟩
      · have e19 := neN (b := 19) h19
        by_cases h17 : op = 17
        · have e17 := eqN (b := 17) h17
          have hp : parts op = 3 := by unfold parts; rw [if_neg (by omega), if_pos h17]
          rw [hp]
          clear hp h4 h5 h19 h17 c
          go_enter Tryd.func97, Tryd.ntmps97
          go_wp2
          go_ret
          exact ⟨rfl, Below.refl _ _⟩
        · have e17 := neN (b := 17) h17
          have hp : parts op = if (jOf op).isSome then 2 else 0 := by unfold parts; rw [if_neg (by omega), if_neg h17]
          rw [hp]
          unfold jOut jrow at c
          generalize (jOf op).getD j0 = r at c
          clear hp h4 h5 h19 h17
          cases hj : (jOf op).isSome
          · rw [hj] at c
            go_enter Tryd.func97, Tryd.ntmps97
            go_wp2_with (go_at_call 99; refine c.mono ?_; rintro e w2 ⟨rfl, hb2⟩)
            go_ret
            exact ⟨rfl, bstep hb2 ((Below.refl _ _).alloc (Nat.le_refl _) _)⟩
          · rw [hj] at c
            go_enter Tryd.func97, Tryd.ntmps97
            go_wp2_with (go_at_call 99; refine c.mono ?_; rintro e w2 ⟨rfl, hb2⟩)
            go_ret
            exact ⟨rfl, bstep hb2 ((Below.refl _ _).alloc (Nat.le_refl _) _)⟩
set_option linter.unusedVariables false
set_option maxRecDepth 100000 in
set_option maxHeartbeats 1000000 in
theorem has_1a (op : Nat) (n : Int) (nm : ByteArray) (ao : Option Addr) (len cap : Nat) (w : World) (e1 : ((op : Int) == 1) = true) (h0 : ¬ 0 ≤ n) : Calls Tryd.prog 93 #[.agg #[.int .u8 (op : Int), .int .i64 n, .string nm, .slice ao len cap]] w fun e w' => e = .returned (.bool false) ∧ Below w.heap.size w w' := by
  go_enter Tryd.func93, Tryd.ntmps93
  go_wp2
  go_ret
  exact ⟨rfl, (Below.refl _ _).alloc (Nat.le_refl _) _⟩
set_option maxRecDepth 100000 in
set_option maxHeartbeats 1000000 in
theorem has_1b (op : Nat) (n : Int) (nm : ByteArray) (ao : Option Addr) (len cap : Nat) (w : World) (e1 : ((op : Int) == 1) = true) (h0 : 0 ≤ n) (he : nm.toList.isEmpty = false) : Calls Tryd.prog 93 #[.agg #[.int .u8 (op : Int), .int .i64 n, .string nm, .slice ao len cap]] w fun e w' => e = .returned (.bool false) ∧ Below w.heap.size w w' := by
  go_enter Tryd.func93, Tryd.ntmps93
  go_wp2
  go_ret
  exact ⟨rfl, (Below.refl _ _).alloc (Nat.le_refl _) _⟩
set_option maxRecDepth 100000 in
set_option maxHeartbeats 1000000 in
theorem has_1c (op : Nat) (n : Int) (nm : ByteArray) (ao : Option Addr) (len cap : Nat) (w : World) (e1 : ((op : Int) == 1) = true) (h0 : 0 ≤ n) (he : nm.toList.isEmpty = true) : Calls Tryd.prog 93 #[.agg #[.int .u8 (op : Int), .int .i64 n, .string nm, .slice ao len cap]] w fun e w' => e = .returned (.bool ((len : Int) == 0)) ∧ Below w.heap.size w w' := by
  go_enter Tryd.func93, Tryd.ntmps93
  go_wp2
  go_ret
  exact ⟨rfl, (Below.refl _ _).alloc (Nat.le_refl _) _⟩
set_option maxRecDepth 100000 in
set_option maxHeartbeats 1000000 in
theorem has_2a (op : Nat) (n : Int) (nm : ByteArray) (ao : Option Addr) (len cap : Nat) (w : World) (e1 : ((op : Int) == 1) = false) (e2 : ((op : Int) == 2) = true) (h0 : (n == 0) = false) (h1 : (n == 1) = false) : Calls Tryd.prog 93 #[.agg #[.int .u8 (op : Int), .int .i64 n, .string nm, .slice ao len cap]] w fun e w' => e = .returned (.bool false) ∧ Below w.heap.size w w' := by
  go_enter Tryd.func93, Tryd.ntmps93
  go_wp2
  go_ret
  exact ⟨rfl, (Below.refl _ _).alloc (Nat.le_refl _) _⟩
set_option maxRecDepth 100000 in
set_option maxHeartbeats 1000000 in
theorem has_2bn (op : Nat) (n : Int) (nm : ByteArray) (ao : Option Addr) (len cap : Nat) (w : World) (e1 : ((op : Int) == 1) = false) (e2 : ((op : Int) == 2) = true) (h0 : (n == 0) = true) (he : nm.toList.isEmpty = false) : Calls Tryd.prog 93 #[.agg #[.int .u8 (op : Int), .int .i64 n, .string nm, .slice ao len cap]] w fun e w' => e = .returned (.bool false) ∧ Below w.heap.size w w' := by
  go_enter Tryd.func93, Tryd.ntmps93
  go_wp2
  go_ret
  exact ⟨rfl, (Below.refl _ _).alloc (Nat.le_refl _) _⟩
set_option maxRecDepth 100000 in
set_option maxHeartbeats 1000000 in
theorem has_2be (op : Nat) (n : Int) (nm : ByteArray) (ao : Option Addr) (len cap : Nat) (w : World) (e1 : ((op : Int) == 1) = false) (e2 : ((op : Int) == 2) = true) (h0 : (n == 0) = true) (he : nm.toList.isEmpty = true) : Calls Tryd.prog 93 #[.agg #[.int .u8 (op : Int), .int .i64 n, .string nm, .slice ao len cap]] w fun e w' => e = .returned (.bool ((len : Int) == 0)) ∧ Below w.heap.size w w' := by
  go_enter Tryd.func93, Tryd.ntmps93
  go_wp2
  go_ret
  exact ⟨rfl, (Below.refl _ _).alloc (Nat.le_refl _) _⟩
set_option maxRecDepth 100000 in
set_option maxHeartbeats 1000000 in
theorem has_2cn (op : Nat) (n : Int) (nm : ByteArray) (ao : Option Addr) (len cap : Nat) (w : World) (e1 : ((op : Int) == 1) = false) (e2 : ((op : Int) == 2) = true) (h0 : (n == 0) = false) (h1 : (n == 1) = true) (he : nm.toList.isEmpty = false) : Calls Tryd.prog 93 #[.agg #[.int .u8 (op : Int), .int .i64 n, .string nm, .slice ao len cap]] w fun e w' => e = .returned (.bool false) ∧ Below w.heap.size w w' := by
  go_enter Tryd.func93, Tryd.ntmps93
  go_wp2
  go_ret
  exact ⟨rfl, (Below.refl _ _).alloc (Nat.le_refl _) _⟩
set_option maxRecDepth 100000 in
set_option maxHeartbeats 1000000 in
theorem has_2ce (op : Nat) (n : Int) (nm : ByteArray) (ao : Option Addr) (len cap : Nat) (w : World) (e1 : ((op : Int) == 1) = false) (e2 : ((op : Int) == 2) = true) (h0 : (n == 0) = false) (h1 : (n == 1) = true) (he : nm.toList.isEmpty = true) : Calls Tryd.prog 93 #[.agg #[.int .u8 (op : Int), .int .i64 n, .string nm, .slice ao len cap]] w fun e w' => e = .returned (.bool ((len : Int) == 0)) ∧ Below w.heap.size w w' := by
  go_enter Tryd.func93, Tryd.ntmps93
  go_wp2
  go_ret
  exact ⟨rfl, (Below.refl _ _).alloc (Nat.le_refl _) _⟩
set_option maxRecDepth 100000 in
set_option maxHeartbeats 1000000 in
theorem has_3a (op : Nat) (n : Int) (nm : ByteArray) (ao : Option Addr) (len cap : Nat) (w : World) (e1 : ((op : Int) == 1) = false) (e2 : ((op : Int) == 2) = false) (e3 : ((op : Int) == 3) = true) (h0 : (n == 0) = false) : Calls Tryd.prog 93 #[.agg #[.int .u8 (op : Int), .int .i64 n, .string nm, .slice ao len cap]] w fun e w' => e = .returned (.bool false) ∧ Below w.heap.size w w' := by
  go_enter Tryd.func93, Tryd.ntmps93
  go_wp2
  go_ret
  exact ⟨rfl, (Below.refl _ _).alloc (Nat.le_refl _) _⟩
set_option maxRecDepth 100000 in
set_option maxHeartbeats 1000000 in
theorem has_3b (op : Nat) (n : Int) (nm : ByteArray) (ao : Option Addr) (len cap : Nat) (w : World) (e1 : ((op : Int) == 1) = false) (e2 : ((op : Int) == 2) = false) (e3 : ((op : Int) == 3) = true) (h0 : (n == 0) = true) (c : ∀ W, TabR W → Calls Tryd.prog 83 #[.string nm] W fun e w' => e = .returned (.bool false) ∧ Below W.heap.size W w') (hR : Hid (TabR w)) : Calls Tryd.prog 93 #[.agg #[.int .u8 (op : Int), .int .i64 n, .string nm, .slice ao len cap]] w fun e w' => e = .returned (.bool false) ∧ Below w.heap.size w w' := by
  go_enter Tryd.func93, Tryd.ntmps93
  go_wp2_with (go_at_call 83; refine (c _ (hR.out.below ((Below.refl _ _).alloc (Nat.le_refl _) _))).mono ?_; rintro e w2 ⟨rfl, hb2⟩)
  go_ret
  exact ⟨rfl, bstep ((Below.refl _ _).alloc (Nat.le_refl _) _) hb2⟩
set_option maxRecDepth 100000 in
set_option maxHeartbeats 1000000 in
theorem has_3c (op : Nat) (n : Int) (nm : ByteArray) (ao : Option Addr) (len cap : Nat) (w : World) (e1 : ((op : Int) == 1) = false) (e2 : ((op : Int) == 2) = false) (e3 : ((op : Int) == 3) = true) (h0 : (n == 0) = true) (c : ∀ W, TabR W → Calls Tryd.prog 83 #[.string nm] W fun e w' => e = .returned (.bool true) ∧ Below W.heap.size W w') (hR : Hid (TabR w)) : Calls Tryd.prog 93 #[.agg #[.int .u8 (op : Int), .int .i64 n, .string nm, .slice ao len cap]] w fun e w' => e = .returned (.bool ((len : Int) == 0)) ∧ Below w.heap.size w w' := by
  go_enter Tryd.func93, Tryd.ntmps93
  go_wp2_with (go_at_call 83; refine (c _ (hR.out.below ((Below.refl _ _).alloc (Nat.le_refl _) _))).mono ?_; rintro e w2 ⟨rfl, hb2⟩; have bx := fun j v (h : (w.alloc (.cells #[.int .u8 (op : Int), .int .i64 n, .string nm, .slice ao len cap] 70)).cell? ⟨w.heap.size, j, none⟩ = some v) => cell_kept h hb2; have x3 := bx 3 (.slice ao len cap) (by rw [World.cell?_alloc_at _ _ _ _ rfl]; rfl); clear bx)
  go_ret
  exact ⟨rfl, bstep ((Below.refl _ _).alloc (Nat.le_refl _) _) hb2⟩
set_option maxRecDepth 100000 in
set_option maxHeartbeats 1000000 in
theorem has_4a (op : Nat) (n : Int) (nm : ByteArray) (ao : Option Addr) (len cap : Nat) (w : World) (e1 : ((op : Int) == 1) = false) (e2 : ((op : Int) == 2) = false) (e3 : ((op : Int) == 3) = false) (p : Nat) (c : ∀ W, TabJ W → Calls Tryd.prog 97 #[.int .u8 (op : Int)] W fun e w' => e = .returned (.int .i64 (p : Int)) ∧ Below W.heap.size W w') (hJ : Hid (TabJ w)) (hp : ¬ (0 : Int) < (p : Int)) : Calls Tryd.prog 93 #[.agg #[.int .u8 (op : Int), .int .i64 n, .string nm, .slice ao len cap]] w fun e w' => e = .returned (.bool false) ∧ Below w.heap.size w w' := by
  go_enter Tryd.func93, Tryd.ntmps93
  go_wp2_with (go_at_call 97; refine (c _ (hJ.out.below ((Below.refl _ _).alloc (Nat.le_refl _) _))).mono ?_; rintro e w2 ⟨rfl, hb2⟩)
  go_ret
  exact ⟨rfl, bstep ((Below.refl _ _).alloc (Nat.le_refl _) _) hb2⟩
set_option maxRecDepth 100000 in
set_option maxHeartbeats 1000000 in
theorem has_4b (op : Nat) (n : Int) (nm : ByteArray) (ao : Option Addr) (len cap : Nat) (w : World) (e1 : ((op : Int) == 1) = false) (e2 : ((op : Int) == 2) = false) (e3 : ((op : Int) == 3) = false) (p : Nat) (c : ∀ W, TabJ W → Calls Tryd.prog 97 #[.int .u8 (op : Int)] W fun e w' => e = .returned (.int .i64 (p : Int)) ∧ Below W.heap.size W w') (hJ : Hid (TabJ w)) (hp : (0 : Int) < (p : Int)) (h0 : (n == 0) = false) : Calls Tryd.prog 93 #[.agg #[.int .u8 (op : Int), .int .i64 n, .string nm, .slice ao len cap]] w fun e w' => e = .returned (.bool false) ∧ Below w.heap.size w w' := by
  go_enter Tryd.func93, Tryd.ntmps93
  go_wp2_with (go_at_call 97; refine (c _ (hJ.out.below ((Below.refl _ _).alloc (Nat.le_refl _) _))).mono ?_; rintro e w2 ⟨rfl, hb2⟩; have bx := fun j v (h : (w.alloc (.cells #[.int .u8 (op : Int), .int .i64 n, .string nm, .slice ao len cap] 70)).cell? ⟨w.heap.size, j, none⟩ = some v) => cell_kept h hb2; have x1 := bx 1 (.int .i64 n) (by rw [World.cell?_alloc_at _ _ _ _ rfl]; rfl); have x2 := bx 2 (.string nm) (by rw [World.cell?_alloc_at _ _ _ _ rfl]; rfl); have x3 := bx 3 (.slice ao len cap) (by rw [World.cell?_alloc_at _ _ _ _ rfl]; rfl); clear bx)
  go_ret
  exact ⟨rfl, bstep ((Below.refl _ _).alloc (Nat.le_refl _) _) hb2⟩
set_option maxRecDepth 100000 in
set_option maxHeartbeats 1000000 in
theorem has_4c (op : Nat) (n : Int) (nm : ByteArray) (ao : Option Addr) (len cap : Nat) (w : World) (e1 : ((op : Int) == 1) = false) (e2 : ((op : Int) == 2) = false) (e3 : ((op : Int) == 3) = false) (p : Nat) (c : ∀ W, TabJ W → Calls Tryd.prog 97 #[.int .u8 (op : Int)] W fun e w' => e = .returned (.int .i64 (p : Int)) ∧ Below W.heap.size W w') (hJ : Hid (TabJ w)) (hp : (0 : Int) < (p : Int)) (h0 : (n == 0) = true) (he : nm.toList.isEmpty = false) : Calls Tryd.prog 93 #[.agg #[.int .u8 (op : Int), .int .i64 n, .string nm, .slice ao len cap]] w fun e w' => e = .returned (.bool false) ∧ Below w.heap.size w w' := by
  go_enter Tryd.func93, Tryd.ntmps93
  go_wp2_with (go_at_call 97; refine (c _ (hJ.out.below ((Below.refl _ _).alloc (Nat.le_refl _) _))).mono ?_; rintro e w2 ⟨rfl, hb2⟩; have bx := fun j v (h : (w.alloc (.cells #[.int .u8 (op : Int), .int .i64 n, .string nm, .slice ao len cap] 70)).cell? ⟨w.heap.size, j, none⟩ = some v) => cell_kept h hb2; have x1 := bx 1 (.int .i64 n) (by rw [World.cell?_alloc_at _ _ _ _ rfl]; rfl); have x2 := bx 2 (.string nm) (by rw [World.cell?_alloc_at _ _ _ _ rfl]; rfl); have x3 := bx 3 (.slice ao len cap) (by rw [World.cell?_alloc_at _ _ _ _ rfl]; rfl); clear bx)
  go_ret
  exact ⟨rfl, bstep ((Below.refl _ _).alloc (Nat.le_refl _) _) hb2⟩
set_option maxRecDepth 100000 in
set_option maxHeartbeats 1000000 in
theorem has_4d (op : Nat) (n : Int) (nm : ByteArray) (ao : Option Addr) (len cap : Nat) (w : World) (e1 : ((op : Int) == 1) = false) (e2 : ((op : Int) == 2) = false) (e3 : ((op : Int) == 3) = false) (p : Nat) (c : ∀ W, TabJ W → Calls Tryd.prog 97 #[.int .u8 (op : Int)] W fun e w' => e = .returned (.int .i64 (p : Int)) ∧ Below W.heap.size W w') (hJ : Hid (TabJ w)) (hp : (0 : Int) < (p : Int)) (h0 : (n == 0) = true) (he : nm.toList.isEmpty = true) : Calls Tryd.prog 93 #[.agg #[.int .u8 (op : Int), .int .i64 n, .string nm, .slice ao len cap]] w fun e w' => e = .returned (.bool ((len : Int) == (p : Int))) ∧ Below w.heap.size w w' := by
  go_enter Tryd.func93, Tryd.ntmps93
  go_wp2_with (go_at_call 97; refine (c _ (hJ.out.below ((Below.refl _ _).alloc (Nat.le_refl _) _))).mono ?_; rintro e w2 ⟨rfl, hb2⟩; have bx := fun j v (h : (w.alloc (.cells #[.int .u8 (op : Int), .int .i64 n, .string nm, .slice ao len cap] 70)).cell? ⟨w.heap.size, j, none⟩ = some v) => cell_kept h hb2; have x1 := bx 1 (.int .i64 n) (by rw [World.cell?_alloc_at _ _ _ _ rfl]; rfl); have x2 := bx 2 (.string nm) (by rw [World.cell?_alloc_at _ _ _ _ rfl]; rfl); have x3 := bx 3 (.slice ao len cap) (by rw [World.cell?_alloc_at _ _ _ _ rfl]; rfl); clear bx)
  go_ret
  exact ⟨rfl, bstep ((Below.refl _ _).alloc (Nat.le_refl _) _) hb2⟩
theorem len_eq (a b : Nat) : ((a : Int) == (b : Int)) = decide (a = b) := by
  by_cases h : a = b
  · rw [eqN h, decide_eq_true h]
  · rw [neN h, decide_eq_false h]
theorem len_zero' (a : Nat) : ((a : Int) == 0) = decide (a = 0) := len_eq a 0
/-- hasItsFields. -/
theorem hasIts (op : Nat) (n : Int) (nm : ByteArray) (ao : Option Addr) (len cap : Nat) (w : World) (hR : TabR w) (hJ : TabJ w) :
    Calls Tryd.prog 93 #[.agg #[.int .u8 (op : Int), .int .i64 n, .string nm, .slice ao len cap]] w fun e w' => e = .returned (.bool (fieldsOk op n nm len)) ∧ Below w.heap.size w w' := by
  unfold fieldsOk
  by_cases h1 : op = 1
  · rw [if_pos h1]
    have e1 := eqN (b := 1) h1
    by_cases h0 : 0 ≤ n
    · rw [decide_eq_true h0, Bool.true_and]
      by_cases hm : nm.size = 0
      · rw [decide_eq_true hm, Bool.true_and, ← len_zero']; exact has_1c op n nm ao len cap w e1 h0 (empty_yes hm)
      · rw [decide_eq_false hm, Bool.false_and]; exact has_1b op n nm ao len cap w e1 h0 (empty_no hm)
    · rw [decide_eq_false h0, Bool.false_and]; exact has_1a op n nm ao len cap w e1 h0
  · rw [if_neg h1]
    have e1 := neN (b := 1) h1
    by_cases h2 : op = 2
    · rw [if_pos h2]
      have e2 := eqN (b := 2) h2
      by_cases h0 : n = 0
      · rw [decide_eq_true h0, Bool.true_or, Bool.true_and]
        by_cases hm : nm.size = 0
        · rw [decide_eq_true hm, Bool.true_and, ← len_zero']; exact has_2be op n nm ao len cap w e1 e2 (ieq h0) (empty_yes hm)
        · rw [decide_eq_false hm, Bool.false_and]; exact has_2bn op n nm ao len cap w e1 e2 (ieq h0) (empty_no hm)
      · rw [decide_eq_false h0, Bool.false_or]
        by_cases h01 : n = 1
        · rw [decide_eq_true h01, Bool.true_and]
          by_cases hm : nm.size = 0
          · rw [decide_eq_true hm, Bool.true_and, ← len_zero']; exact has_2ce op n nm ao len cap w e1 e2 (ine h0) (ieq h01) (empty_yes hm)
          · rw [decide_eq_false hm, Bool.false_and]; exact has_2cn op n nm ao len cap w e1 e2 (ine h0) (ieq h01) (empty_no hm)
        · rw [decide_eq_false h01, Bool.false_and]; exact has_2a op n nm ao len cap w e1 e2 (ine h0) (ine h01)
    · rw [if_neg h2]
      have e2 := neN (b := 2) h2
      by_cases h3 : op = 3
      · rw [if_pos h3]
        have e3 := eqN (b := 3) h3
        by_cases h0 : n = 0
        · rw [decide_eq_true h0, Bool.true_and]
          have c := fun W hT => name nm W hT
          cases hb : isName nm
          · rw [hb] at c; rw [Bool.false_and]; exact has_3b op n nm ao len cap w e1 e2 e3 (ieq h0) c hR
          · rw [hb] at c; rw [Bool.true_and, ← len_zero']; exact has_3c op n nm ao len cap w e1 e2 e3 (ieq h0) c hR
        · rw [decide_eq_false h0, Bool.false_and]; exact has_3a op n nm ao len cap w e1 e2 e3 (ine h0)
      · rw [if_neg h3]
        have e3 := neN (b := 3) h3
        have c := fun W hT => partsOf op W hT
        generalize parts op = p at c
        by_cases hp : 0 < p
        · have hp' : (0 : Int) < (p : Int) := by omega
          rw [decide_eq_true hp, Bool.true_and]
          by_cases h0 : n = 0
          · rw [decide_eq_true h0, Bool.true_and]
            by_cases hm : nm.size = 0
            · rw [decide_eq_true hm, Bool.true_and, ← len_eq]; exact has_4d op n nm ao len cap w e1 e2 e3 p c hJ hp' (ieq h0) (empty_yes hm)
            · rw [decide_eq_false hm, Bool.false_and]; exact has_4c op n nm ao len cap w e1 e2 e3 p c hJ hp' (ieq h0) (empty_no hm)
          · rw [decide_eq_false h0, Bool.false_and]; exact has_4b op n nm ao len cap w e1 e2 e3 p c hJ hp' (ine h0)
        · rw [decide_eq_false hp, Bool.false_and]; exact has_4a op n nm ao len cap w e1 e2 e3 p c hJ (by omega)
end Go.Proofs.YtdenddknbmiboaaDoor.Lex
namespace Go.Proofs.YtdenddknbmiboaaDoor.Lex
open Go.ChangeShapes Go.WideShapes Go.ChangeAt Go.RowKit Go.Joins
/-- Are a row's token and a mark the same? -/
def jIs (r : J) (m : Mark) : Bool := r.kind == m.kind && r.text.toList == m.text.toList
def jAt (m : Mark) : Option J := JT.find? fun r => jIs r m
theorem jAt_some {m : Mark} (k : Nat) (hk : k < 12) (h : ∀ j, j < k → jIs (jR j) m = false) (he : jIs (jR k) m = true) : jAt m = some (jR k) := by
  unfold jAt
  rw [List.find?_eq_some_iff_getElem]
  have hget : ∀ j (hj : j < JT.length), JT[j]'hj = jR j := fun j hj => by unfold jR; rw [List.getD_eq_getElem?_getD, List.getElem?_eq_getElem hj]; rfl
  have hk' : k < JT.length := hk
  refine ⟨he, k, hk', hget k hk', fun j hj => ?_⟩
  have e := hget j (by omega)
  have hn := h j hj
  rw [← e] at hn
  rw [hn]
  rfl
theorem jAt_none {m : Mark} (h : ∀ j, j < 12 → jIs (jR j) m = false) : jAt m = none := by
  unfold jAt
  rw [List.find?_eq_none]
  intro r hr
  obtain ⟨j, hj, e⟩ := List.getElem_of_mem hr
  have := h j hj
  unfold jR at this
  rw [List.getD_eq_getElem?_getD, List.getElem?_eq_getElem hj, e] at this
  simp only [Option.getD_some] at this
  rw [this]
  simp
def jAtOut (m : Mark) : Array Value := jrow ((jAt m).getD j0)
end Go.Proofs.YtdenddknbmiboaaDoor.Lex
namespace Go.Proofs.YtdenddknbmiboaaDoor.Lex
open Go.ChangeShapes Go.WideShapes Go.ChangeAt Go.RowKit Go.Joins
theorem MarksAt.carry {w w' : World} {v : Value} {ts : List Mark} (h : MarksAt w v ts) (hb : ∀ a n c, v = .slice (some a) n c → a.block < w.heap.size → w'.heap[a.block]? = w.heap[a.block]?) : MarksAt w' v ts := by
  obtain ⟨a, cap, rfl, hc⟩ := h
  refine ⟨a, cap, rfl, ?_⟩
  rcases hc with h0 | ⟨g, o, rfl, hc⟩
  · exact .inl h0
  · refine .inr ⟨g, o, rfl, fun i hi => ?_⟩
    obtain ⟨m0, m1, at_, m2⟩ := hc i hi
    have hlt : g < w.heap.size := World.block_lt_of_cell? w ⟨g, o + i * 3, none⟩ m0
    have hk : ∀ {q x}, w.cell? ⟨g, q, none⟩ = some x → w'.cell? ⟨g, q, none⟩ = some x := fun {q x} hx => by
      rw [World.cell?_of_block (w := w) (a := ⟨g, q, none⟩) (hb ⟨g, o, none⟩ _ _ rfl hlt)]
      exact hx
    exact ⟨hk m0, hk m1, at_, hk m2⟩
theorem set_same' {w : World} {b : Nat} {c : Array Value} {t : TypeId} {f : Nat × Nat} (h : w.heap[b]? = some (.cells c t f)) (i : Nat) (u : Value) : (w.setCell ⟨b, i, none⟩ u).heap[b]? = some (.cells (c.setIfInBounds i u) t f) := by
  obtain ⟨hlt, hk⟩ := Array.getElem?_eq_some_iff.1 h
  show (w.heap.modify b _)[b]? = _
  rw [Array.getElem?_eq_getElem (by rw [Array.size_modify]; exact hlt), Array.getElem_modify_self, hk]
  rfl
end Go.Proofs.YtdenddknbmiboaaDoor.Lex
namespace Go.Proofs.YtdenddknbmiboaaDoor.Lex
open Go.ChangeShapes Go.WideShapes Go.ChangeAt Go.RowKit Go.Joins
/-- It stands in memory, in blocks that are so, looked at so deep. -/
def StPN (ok : Nat → Prop) (w : World) : Nat → Ex → Value → Prop
  | 0, _, _ => False
  | k + 1, x, s => ∃ (ao : Option Addr) (cap : Nat) (sl : Nat → Value), s = .slice ao x.args.length cap ∧ x.op < 256 ∧ (-9223372036854775808 ≤ x.n ∧ x.n ≤ 9223372036854775807) ∧ x.name.size ≤ 140737488355328 ∧ x.args.length ≤ 2513169434843 ∧ x.args.length ≤ cap ∧
    (x.args.length = 0 ∨ ∃ b o, ao = some ⟨b, o, none⟩ ∧ ok b ∧ ∀ i (h : i < x.args.length), w.cell? ⟨b, o + i * 4, none⟩ = some (.int .u8 (x.args[i].op : Int)) ∧ w.cell? ⟨b, o + i * 4 + 1, none⟩ = some (.int .i64 x.args[i].n) ∧
        w.cell? ⟨b, o + i * 4 + 2, none⟩ = some (.string x.args[i].name) ∧ w.cell? ⟨b, o + i * 4 + 3, none⟩ = some (sl i)) ∧ ∀ i (h : i < x.args.length), StPN ok w k x.args[i] (sl i)
theorem StPN.up {ok : Nat → Prop} {w : World} : ∀ (k' k : Nat) (x : Ex) (s : Value), StPN ok w k x s → SizeOf.sizeOf x ≤ k' → StPN ok w k' x s
  | 0, k, x, s, _, hs => by have := x.pos; omega
  | k' + 1, 0, x, s, h, _ => h.elim
  | k' + 1, k + 1, x, s, h, hs => by
    obtain ⟨ao, cap, sl, h1, h2, h3, h4, h5, h6, h7, h8⟩ := h
    exact ⟨ao, cap, sl, h1, h2, h3, h4, h5, h6, h7, fun i hi => StPN.up k' k _ _ (h8 i hi) (by have := x.part_lt i hi; omega)⟩
/-- It stands in memory, in blocks that are so. -/
def StP (ok : Nat → Prop) (w : World) (x : Ex) (s : Value) : Prop := StPN ok w (SizeOf.sizeOf x) x s
theorem StP.intro {ok : Nat → Prop} {w : World} (x : Ex) (ao : Option Addr) (cap : Nat) (sl : Nat → Value) (hop : x.op < 256) (hn : -9223372036854775808 ≤ x.n ∧ x.n ≤ 9223372036854775807) (hnm : x.name.size ≤ 140737488355328) (hlen : x.args.length ≤ 2513169434843) (hcap : x.args.length ≤ cap)
      (hc : x.args.length = 0 ∨ ∃ b o, ao = some ⟨b, o, none⟩ ∧ ok b ∧ ∀ i (h : i < x.args.length), w.cell? ⟨b, o + i * 4, none⟩ = some (.int .u8 (x.args[i].op : Int)) ∧ w.cell? ⟨b, o + i * 4 + 1, none⟩ = some (.int .i64 x.args[i].n) ∧
        w.cell? ⟨b, o + i * 4 + 2, none⟩ = some (.string x.args[i].name) ∧ w.cell? ⟨b, o + i * 4 + 3, none⟩ = some (sl i))
      (hs : ∀ i (h : i < x.args.length), StP ok w x.args[i] (sl i)) : StP ok w x (.slice ao x.args.length cap) := by
  unfold StP
  obtain ⟨m, hm⟩ : ∃ m, SizeOf.sizeOf x = m + 1 := ⟨SizeOf.sizeOf x - 1, by have := x.pos; omega⟩
  rw [hm]
  exact ⟨ao, cap, sl, rfl, hop, hn, hnm, hlen, hcap, hc, fun i hi => StPN.up m _ _ _ (hs i hi) (by have := x.part_lt i hi; omega)⟩
theorem StP.out {ok : Nat → Prop} {w : World} {x : Ex} {s : Value} (h : StP ok w x s) : ∃ (ao : Option Addr) (cap : Nat) (sl : Nat → Value), s = .slice ao x.args.length cap ∧ x.op < 256 ∧ (-9223372036854775808 ≤ x.n ∧ x.n ≤ 9223372036854775807) ∧ x.name.size ≤ 140737488355328 ∧ x.args.length ≤ 2513169434843 ∧ x.args.length ≤ cap ∧
    (x.args.length = 0 ∨ ∃ b o, ao = some ⟨b, o, none⟩ ∧ ok b ∧ ∀ i (h : i < x.args.length), w.cell? ⟨b, o + i * 4, none⟩ = some (.int .u8 (x.args[i].op : Int)) ∧ w.cell? ⟨b, o + i * 4 + 1, none⟩ = some (.int .i64 x.args[i].n) ∧
        w.cell? ⟨b, o + i * 4 + 2, none⟩ = some (.string x.args[i].name) ∧ w.cell? ⟨b, o + i * 4 + 3, none⟩ = some (sl i)) ∧ ∀ i (h : i < x.args.length), StP ok w x.args[i] (sl i) := by
  unfold StP at h
  obtain ⟨m, hm⟩ : ∃ m, SizeOf.sizeOf x = m + 1 := ⟨SizeOf.sizeOf x - 1, by have := x.pos; omega⟩
  rw [hm] at h
  obtain ⟨ao, cap, sl, h1, h2, h3, h4, h5, h6, h7, h8⟩ := h
  exact ⟨ao, cap, sl, h1, h2, h3, h4, h5, h6, h7, fun i hi => StPN.up _ m _ _ (h8 i hi) (Nat.le_refl _)⟩
theorem StP.carryN {ok ok' : Nat → Prop} {w w' : World} (hb : ∀ b, ok b → b < w.heap.size → w'.heap[b]? = w.heap[b]?) (ho : ∀ b, b < w.heap.size → ok b → ok' b) : ∀ (m : Nat) (x : Ex) (s : Value), SizeOf.sizeOf x ≤ m → StP ok w x s → StP ok' w' x s
  | 0, x, s, hm, _ => by have := x.pos; omega
  | m + 1, x, s, hm, h => by
    obtain ⟨ao, cap, sl, rfl, hop, hn, hnm, hlen, hcap, hc, hs⟩ := h.out
    refine StP.intro x ao cap sl hop hn hnm hlen hcap ?_ (fun i hi => StP.carryN hb ho m _ _ (by have := x.part_lt i hi; omega) (hs i hi))
    by_cases h00 : x.args.length = 0
    · exact .inl h00
    · obtain ⟨b, o, ha, hok, hc⟩ := hc.resolve_left h00
      have hlt : b < w.heap.size := World.block_lt_of_cell? w ⟨b, o + 0 * 4, none⟩ (hc 0 (by omega)).1
      have hk : ∀ {q v}, w.cell? ⟨b, q, none⟩ = some v → w'.cell? ⟨b, q, none⟩ = some v := fun {q v} h => by
        rw [World.cell?_of_block (w := w) (a := ⟨b, q, none⟩) (hb b hok hlt)]
        exact h
      refine .inr ⟨b, o, ha, ho b hlt hok, fun i hi => ?_⟩
      obtain ⟨h0, h1, h2, h3⟩ := hc i hi
      exact ⟨hk h0, hk h1, hk h2, hk h3⟩
theorem StP.carry {ok : Nat → Prop} {w w' : World} {x : Ex} {s : Value} (h : StP ok w x s) (hb : ∀ b, ok b → b < w.heap.size → w'.heap[b]? = w.heap[b]?) : StP ok w' x s := StP.carryN hb (fun _ _ h => h) _ x s (Nat.le_refl _) h
theorem StP.stN {ok : Nat → Prop} {w : World} : ∀ (m : Nat) (x : Ex) (s : Value), SizeOf.sizeOf x ≤ m → StP ok w x s → St w x s
  | 0, x, s, hm, _ => by have := x.pos; omega
  | m + 1, x, s, hm, h => by
    obtain ⟨ao, cap, sl, rfl, hop, hn, hnm, hlen, hcap, hc, hs⟩ := h.out
    refine St.intro x ao cap sl hop hn hnm hlen hcap ?_ (fun i hi => StP.stN m _ _ (by have := x.part_lt i hi; omega) (hs i hi))
    rcases hc with h0 | ⟨b, o, ha, _, hc⟩
    · exact .inl h0
    · exact .inr ⟨b, o, ha, hc⟩
theorem StP.st {ok : Nat → Prop} {w : World} {x : Ex} {s : Value} (h : StP ok w x s) : St w x s := StP.stN _ x s (Nat.le_refl _) h
/-- What has no parts stands anywhere. -/
theorem StP.leaf {ok : Nat → Prop} {w : World} (op : Nat) (n : Int) (nm : ByteArray) (hop : op < 256) (hn : -9223372036854775808 ≤ n ∧ n ≤ 9223372036854775807) (hnm : nm.size ≤ 140737488355328) : StP ok w ⟨op, n, nm, []⟩ (.slice none 0 0) :=
  StP.intro ⟨op, n, nm, []⟩ none 0 (fun _ => .slice none 0 0) hop hn hnm (Nat.zero_le _) (Nat.le_refl _) (.inl rfl) (fun i hi => by cases hi)
end Go.Proofs.YtdenddknbmiboaaDoor.Lex
namespace Go.Proofs.YtdenddknbmiboaaDoor.Lex
open Go.ChangeShapes Go.WideShapes Go.ChangeAt Go.RowKit Go.Joins
end Go.Proofs.YtdenddknbmiboaaDoor.Lex
namespace Go.Proofs.YtdenddknbmiboaaDoor.Lex
open Go.ChangeShapes Go.WideShapes Go.ChangeAt Go.RowKit Go.Joins
def spare : ByteArray := ⟨#[115, 112, 97, 114, 101]⟩
/-- A twin in memory, in blocks from some one on, looked at so deep. -/
def TwN (w : World) (lo : Nat) : Nat → Ex → Value → Prop
  | 0, _, _ => False
  | k + 1, x, s => ∃ (b cap : Nat) (sl : Nat → Value), s = .slice (some ⟨b, 0, none⟩) x.args.length cap ∧ lo ≤ b ∧ x.op < 256 ∧ (-9223372036854775808 ≤ x.n ∧ x.n ≤ 9223372036854775807) ∧ x.name.size ≤ 140737488355328 ∧ x.args.length ≤ 2513169434843 ∧ x.args.length < cap ∧
    (∀ i (h : i < x.args.length), w.cell? ⟨b, i * 4, none⟩ = some (.int .u8 (x.args[i].op : Int)) ∧ w.cell? ⟨b, i * 4 + 1, none⟩ = some (.int .i64 x.args[i].n) ∧ w.cell? ⟨b, i * 4 + 2, none⟩ = some (.string x.args[i].name) ∧ w.cell? ⟨b, i * 4 + 3, none⟩ = some (sl i)) ∧
    (w.cell? ⟨b, x.args.length * 4, none⟩ = some (.int .u8 0) ∧ w.cell? ⟨b, x.args.length * 4 + 1, none⟩ = some (.int .i64 0) ∧ w.cell? ⟨b, x.args.length * 4 + 2, none⟩ = some (.string spare) ∧ w.cell? ⟨b, x.args.length * 4 + 3, none⟩ = some (.slice none 0 0)) ∧ ∀ i (h : i < x.args.length), TwN w lo k x.args[i] (sl i)
theorem TwN.up {w : World} {lo : Nat} : ∀ (k' k : Nat) (x : Ex) (s : Value), TwN w lo k x s → SizeOf.sizeOf x ≤ k' → TwN w lo k' x s
  | 0, k, x, s, _, hs => by have := x.pos; omega
  | k' + 1, 0, x, s, h, _ => h.elim
  | k' + 1, k + 1, x, s, h, hs => by
    obtain ⟨b, cap, sl, h1, h2, h3, h4, h5, h6, h7, h8, h9, h10⟩ := h
    exact ⟨b, cap, sl, h1, h2, h3, h4, h5, h6, h7, h8, h9, fun i hi => TwN.up k' k _ _ (h10 i hi) (by have := x.part_lt i hi; omega)⟩
/-- A twin in memory, in blocks from some one on. -/
def Tw (w : World) (lo : Nat) (x : Ex) (s : Value) : Prop := TwN w lo (SizeOf.sizeOf x) x s
theorem Tw.intro {w : World} {lo : Nat} (x : Ex) (b cap : Nat) (sl : Nat → Value) (hlo : lo ≤ b) (hop : x.op < 256) (hn : -9223372036854775808 ≤ x.n ∧ x.n ≤ 9223372036854775807) (hnm : x.name.size ≤ 140737488355328) (hlen : x.args.length ≤ 2513169434843) (hcap : x.args.length < cap)
      (hc : ∀ i (h : i < x.args.length), w.cell? ⟨b, i * 4, none⟩ = some (.int .u8 (x.args[i].op : Int)) ∧ w.cell? ⟨b, i * 4 + 1, none⟩ = some (.int .i64 x.args[i].n) ∧ w.cell? ⟨b, i * 4 + 2, none⟩ = some (.string x.args[i].name) ∧ w.cell? ⟨b, i * 4 + 3, none⟩ = some (sl i))
      (hsp : w.cell? ⟨b, x.args.length * 4, none⟩ = some (.int .u8 0) ∧ w.cell? ⟨b, x.args.length * 4 + 1, none⟩ = some (.int .i64 0) ∧ w.cell? ⟨b, x.args.length * 4 + 2, none⟩ = some (.string spare) ∧ w.cell? ⟨b, x.args.length * 4 + 3, none⟩ = some (.slice none 0 0))
      (hs : ∀ i (h : i < x.args.length), Tw w lo x.args[i] (sl i)) : Tw w lo x (.slice (some ⟨b, 0, none⟩) x.args.length cap) := by
  unfold Tw
  obtain ⟨m, hm⟩ : ∃ m, SizeOf.sizeOf x = m + 1 := ⟨SizeOf.sizeOf x - 1, by have := x.pos; omega⟩
  rw [hm]
  exact ⟨b, cap, sl, rfl, hlo, hop, hn, hnm, hlen, hcap, hc, hsp, fun i hi => TwN.up m _ _ _ (hs i hi) (by have := x.part_lt i hi; omega)⟩
theorem Tw.full {w : World} {lo : Nat} {x : Ex} {s : Value} (h : Tw w lo x s) : ∃ (b cap : Nat) (sl : Nat → Value), s = .slice (some ⟨b, 0, none⟩) x.args.length cap ∧ lo ≤ b ∧ x.op < 256 ∧ (-9223372036854775808 ≤ x.n ∧ x.n ≤ 9223372036854775807) ∧ x.name.size ≤ 140737488355328 ∧ x.args.length ≤ 2513169434843 ∧ x.args.length < cap ∧
    (∀ i (h : i < x.args.length), w.cell? ⟨b, i * 4, none⟩ = some (.int .u8 (x.args[i].op : Int)) ∧ w.cell? ⟨b, i * 4 + 1, none⟩ = some (.int .i64 x.args[i].n) ∧ w.cell? ⟨b, i * 4 + 2, none⟩ = some (.string x.args[i].name) ∧ w.cell? ⟨b, i * 4 + 3, none⟩ = some (sl i)) ∧
    (w.cell? ⟨b, x.args.length * 4, none⟩ = some (.int .u8 0) ∧ w.cell? ⟨b, x.args.length * 4 + 1, none⟩ = some (.int .i64 0) ∧ w.cell? ⟨b, x.args.length * 4 + 2, none⟩ = some (.string spare) ∧ w.cell? ⟨b, x.args.length * 4 + 3, none⟩ = some (.slice none 0 0)) ∧ ∀ i (h : i < x.args.length), Tw w lo x.args[i] (sl i) := by
  unfold Tw at h
  obtain ⟨m, hm⟩ : ∃ m, SizeOf.sizeOf x = m + 1 := ⟨SizeOf.sizeOf x - 1, by have := x.pos; omega⟩
  rw [hm] at h
  obtain ⟨b, cap, sl, h1, h2, h3, h4, h5, h6, h7, h8, h9, h10⟩ := h
  exact ⟨b, cap, sl, h1, h2, h3, h4, h5, h6, h7, h8, h9, fun i hi => TwN.up _ m _ _ (h10 i hi) (Nat.le_refl _)⟩
theorem Tw.carryN {w w' : World} {lo lo' : Nat} (hb : ∀ b, lo ≤ b → b < w.heap.size → w'.heap[b]? = w.heap[b]?) (hl : lo' ≤ lo) : ∀ (m : Nat) (x : Ex) (s : Value), SizeOf.sizeOf x ≤ m → Tw w lo x s → Tw w' lo' x s
  | 0, x, s, hm, _ => by have := x.pos; omega
  | m + 1, x, s, hm, h => by
    obtain ⟨b, cap, sl, rfl, hlo, hop, hn, hnm, hlen, hcap, hc, hsp, hs⟩ := h.full
    have hk : ∀ {o v}, w.cell? ⟨b, o, none⟩ = some v → w'.cell? ⟨b, o, none⟩ = some v := fun {o v} h => by
      have hlt := World.block_lt_of_cell? w _ h
      rw [World.cell?_of_block (w := w) (a := ⟨b, o, none⟩) (hb b hlo hlt)]
      exact h
    refine Tw.intro x b cap sl (by omega) hop hn hnm hlen hcap (fun i hi => ?_) ⟨hk hsp.1, hk hsp.2.1, hk hsp.2.2.1, hk hsp.2.2.2⟩ (fun i hi => Tw.carryN hb hl m _ _ (by have := x.part_lt i hi; omega) (hs i hi))
    obtain ⟨h0, h1, h2, h3⟩ := hc i hi
    exact ⟨hk h0, hk h1, hk h2, hk h3⟩
theorem Tw.carry {w w' : World} {lo : Nat} {x : Ex} {s : Value} (h : Tw w lo x s) (hb : ∀ b, lo ≤ b → b < w.heap.size → w'.heap[b]? = w.heap[b]?) : Tw w' lo x s := Tw.carryN hb (Nat.le_refl _) _ x s (Nat.le_refl _) h
theorem Tw.keep {w w' : World} {lo : Nat} {x : Ex} {s : Value} (h : Tw w lo x s) (hb : Below w.heap.size w w') : Tw w' lo x s := h.carry fun b _ hlt => hb.block b hlt
theorem Tw.grown {w w' : World} {lo g : Nat} {x : Ex} {s : Value} (h : Tw w lo x s) (hg : w.grownBy w' (some g)) (hlt : g < lo) : Tw w' lo x s := h.carry fun b hb hl => hg.block b hl (fun e => by cases e; omega)
theorem Tw.low {w : World} {lo lo' : Nat} {x : Ex} {s : Value} (h : Tw w lo x s) (hl : lo' ≤ lo) : Tw w lo' x s := Tw.carryN (fun _ _ _ => rfl) hl _ x s (Nat.le_refl _) h
theorem Tw.stN {w : World} {lo : Nat} : ∀ (m : Nat) (x : Ex) (s : Value), SizeOf.sizeOf x ≤ m → Tw w lo x s → St w x s
  | 0, x, s, hm, _ => by have := x.pos; omega
  | m + 1, x, s, hm, h => by
    obtain ⟨b, cap, sl, rfl, hlo, hop, hn, hnm, hlen, hcap, hc, hsp, hs⟩ := h.full
    exact St.intro x _ cap sl hop hn hnm hlen (by omega) (.inr ⟨b, 0, rfl, fun i hi => by simpa using hc i hi⟩) (fun i hi => Tw.stN m _ _ (by have := x.part_lt i hi; omega) (hs i hi))
theorem Tw.st {w : World} {lo : Nat} {x : Ex} {s : Value} (h : Tw w lo x s) : St w x s := Tw.stN _ x s (Nat.le_refl _) h
/-- The cells of parts, each with where its own lie. -/
def pairV (p : Ex × Value) : List Value := [.int .u8 (p.1.op : Int), .int .i64 p.1.n, .string p.1.name, p.2]
def pairsV (ps : List (Ex × Value)) : List Value := ps.flatMap pairV
theorem pairsV_len (ps : List (Ex × Value)) : (pairsV ps).length = ps.length * 4 := by
  induction ps with
  | nil => rfl
  | cons p ps ih => simp only [pairsV, List.flatMap_cons, List.length_append, List.length_cons] at ih ⊢; rw [ih]; simp [pairV]; omega
theorem pairsV_app (ps qs : List (Ex × Value)) : pairsV (ps ++ qs) = pairsV ps ++ pairsV qs := by simp [pairsV]
theorem pairsV_at (ps : List (Ex × Value)) (rest : List Value) : ∀ (i : Nat) (h : i < ps.length), (pairsV ps ++ rest)[i * 4]? = some (.int .u8 (ps[i].1.op : Int)) ∧ (pairsV ps ++ rest)[i * 4 + 1]? = some (.int .i64 ps[i].1.n) ∧ (pairsV ps ++ rest)[i * 4 + 2]? = some (.string ps[i].1.name) ∧ (pairsV ps ++ rest)[i * 4 + 3]? = some ps[i].2 := by
  induction ps with
  | nil => intro i h; cases h
  | cons p ps ih =>
    intro i h
    have e : pairsV (p :: ps) ++ rest = pairV p ++ (pairsV ps ++ rest) := by simp [pairsV]
    rw [e]
    cases i with
    | zero => exact ⟨rfl, rfl, rfl, rfl⟩
    | succ i =>
      have h' : i < ps.length := by simpa using h
      have hs : ∀ j, (pairV p ++ (pairsV ps ++ rest))[(i + 1) * 4 + j]? = (pairsV ps ++ rest)[i * 4 + j]? := fun j => by
        rw [List.getElem?_append_right (by simp [pairV]; omega)]
        congr 1
        simp [pairV]; omega
      have := ih i h'
      refine ⟨?_, ?_, ?_, ?_⟩
      · rw [← Nat.add_zero ((i + 1) * 4), hs 0]; exact this.1
      · rw [hs 1]; exact this.2.1
      · rw [hs 2]; exact this.2.2.1
      · rw [hs 3]; exact this.2.2.2
theorem info25' : (Tryd.prog.info? 70).map (fun i => (i.zero, i.size, i.bytes)) = some (some (.agg #[.int .u8 0, .int .i64 0, .string ByteArray.empty, .slice none 0 0]), 4, 56) := by kernel_rfl
/-- While the twin's row is made. -/
structure Mk (w : World) (x : Ex) (k : Nat) (ps : List (Ex × Value)) (W : World) : Prop where
  below : Below w.heap.size w W
  row : W.ownsRow w.heap.size 70 4 (.slice (some ⟨w.heap.size, 0, none⟩) k (x.args.length + 1)) k (pairsV ps)
  len : ps.length = k
  fst : ps.map (·.1) = x.args.take k
  parts : ∀ p ∈ ps, Tw W (w.heap.size + 1) p.1 p.2
  size : w.heap.size < W.heap.size
theorem Mk.step {w W W' : World} {x : Ex} {k : Nat} {ps : List (Ex × Value)} (h : Mk w x k ps W) (hb : Below W.heap.size W W') : Mk w x k ps W' :=
  ⟨bstep h.below hb, by
    have hr := h.row
    refine ⟨hr.1, ?_⟩
    rcases hr.2 with hn | ⟨g, cap, cur, e, hg0, hg, rest⟩
    · exact .inl hn
    · exact .inr ⟨g, cap, cur, e, hg0, (hb.block g (Array.getElem?_eq_some_iff.1 hg).1).trans hg, rest⟩, h.len, h.fst, fun p hp => (h.parts p hp).keep hb, Nat.lt_of_lt_of_le h.size hb.size⟩
theorem Mk.grow {w W W' : World} {x y : Ex} {k : Nat} {ps : List (Ex × Value)} {s : Value} (h : Mk w x k ps W) (hk : k < x.args.length) (hy : x.args[k] = y) (hT : Tw W (w.heap.size + 1) y s)
    (hr : W'.ownsRow w.heap.size 70 4 (.slice (some ⟨w.heap.size, 0, none⟩) (k + 1) (x.args.length + 1)) (k + 1) (pairsV ps ++ pairV (y, s))) (hg : W.grownBy W' (some w.heap.size)) : Mk w x (k + 1) (ps ++ [(y, s)]) W' where
  below := h.below.grown hg h.below.size (fun j hj => by cases hj; exact Nat.le_refl _)
  row := by rw [pairsV_app]; simpa [pairsV] using hr
  len := by simp [h.len]
  fst := by rw [List.map_append, h.fst, List.take_succ_eq_append_getElem hk, hy]; rfl
  parts := fun p hp => by
    rcases List.mem_append.1 hp with hp | hp
    · exact (h.parts p hp).grown hg (by omega)
    · rw [List.mem_singleton.1 hp]; exact hT.grown hg (by omega)
  size := Nat.lt_of_lt_of_le h.size hg.size
theorem four_next (w : World) (a b c d : Value) : ∀ j u, [a, b, c, d][j]? = some u → (w.alloc (.cells #[a, b, c, d] 70)).cell? ((⟨w.heap.size, 0, none⟩ : Addr).add j) = some u := by
  intro j u hj
  have hadd : (⟨w.heap.size, 0, none⟩ : Addr).add j = ⟨w.heap.size, j, none⟩ := by unfold Addr.add; split <;> simp_all
  rw [hadd, World.cell?_alloc_at _ _ _ _ rfl]
  simpa using hj
end Go.Proofs.YtdenddknbmiboaaDoor.Lex
namespace Go.Proofs.YtdenddknbmiboaaDoor.Lex
open Go.ChangeShapes Go.WideShapes Go.ChangeAt Go.RowKit Go.Joins
theorem Mk.done {w W W' : World} {x : Ex} {ps : List (Ex × Value)} (h : Mk w x x.args.length ps W) (hop : x.op < 256) (hn : -9223372036854775808 ≤ x.n ∧ x.n ≤ 9223372036854775807) (hnm : x.name.size ≤ 140737488355328) (hlen : x.args.length ≤ 2513169434843)
    (hr : W'.ownsRow w.heap.size 70 4 (.slice (some ⟨w.heap.size, 0, none⟩) (x.args.length + 1) (x.args.length + 1)) (x.args.length + 1) (pairsV ps ++ [.int .u8 0, .int .i64 0, .string spare, .slice none 0 0])) (hg : W.grownBy W' (some w.heap.size)) :
    Tw W' w.heap.size x (.slice (some ⟨w.heap.size, 0, none⟩) x.args.length (x.args.length + 1)) := by
  have hl := h.len
  have hf : ps.map (·.1) = x.args := by rw [h.fst, List.take_length]
  have hfst : ∀ i (hi : i < ps.length), ps[i].1 = x.args[i]'(by omega) := fun i hi => by
    have : (ps.map (·.1))[i]'(by simpa using hi) = x.args[i]'(by omega) := by simp only [hf]
    simpa using this
  refine Tw.intro x w.heap.size (x.args.length + 1) (fun i => (ps[i]?.map (·.2)).getD (.slice none 0 0)) (Nat.le_refl _) hop hn hnm hlen (by omega) (fun i hi => ?_) ?_ (fun i hi => ?_)
  · obtain ⟨q0, q1, q2, q3⟩ := pairsV_at ps [.int .u8 0, .int .i64 0, .string spare, .slice none 0 0] i (by omega)
    rw [hfst i (by omega)] at q0 q1 q2
    refine ⟨?_, ?_, ?_, ?_⟩
    · rw [hr.cellAt _ (by omega)]; exact q0
    · rw [hr.cellAt _ (by omega)]; exact q1
    · rw [hr.cellAt _ (by omega)]; exact q2
    · rw [hr.cellAt _ (by omega), q3, List.getElem?_eq_getElem (by omega)]; rfl
  · have hs : ∀ j, j < 4 → (pairsV ps ++ [.int .u8 0, .int .i64 0, .string spare, .slice none 0 0])[x.args.length * 4 + j]? = ([.int .u8 0, .int .i64 0, .string spare, .slice none 0 0] : List Value)[j]? := fun j hj => by
      rw [List.getElem?_append_right (by rw [pairsV_len]; omega), pairsV_len, hl]
      congr 1
      omega
    refine ⟨?_, ?_, ?_, ?_⟩
    · rw [hr.cellAt _ (by omega), ← Nat.add_zero (x.args.length * 4), hs 0 (by omega)]; rfl
    · rw [hr.cellAt _ (by omega), hs 1 (by omega)]; rfl
    · rw [hr.cellAt _ (by omega), hs 2 (by omega)]; rfl
    · rw [hr.cellAt _ (by omega), hs 3 (by omega)]; rfl
  · have hip : i < ps.length := by omega
    have := (h.parts ps[i] (List.getElem_mem hip)).grown hg (by omega)
    rw [hfst i hip] at this
    rw [List.getElem?_eq_getElem hip]
    exact this.low (by omega)
theorem Mk.start {w w1 : World} (x : Ex) (hown : w1.ownsRow w.heap.size 70 4 (.slice (some ⟨w.heap.size, 0, none⟩) 0 (x.args.length + 1)) 0 []) (hg : w.grownBy w1 none) : Mk w x 0 [] w1 where
  below := (Below.refl _ _).grown hg (Nat.le_refl _) (fun k hk => by cases hk)
  row := hown
  len := rfl
  fst := rfl
  parts := fun p hp => by cases hp
  size := by
    rcases hown.2 with ⟨h, _⟩ | ⟨g, c, cur, e, _, hh, _⟩
    · cases h
    · injection e with e1 _ _
      injection e1 with e1
      injection e1 with e1 _ _
      subst e1
      exact (Array.getElem?_eq_some_iff.1 hh).1
end Go.Proofs.YtdenddknbmiboaaDoor.Lex
