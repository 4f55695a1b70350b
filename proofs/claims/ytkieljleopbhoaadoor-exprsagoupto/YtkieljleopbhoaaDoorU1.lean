/-
  Plain mathematics of a text's tokens: how far bytes of a kind go; runes and bytes.
  The functions that tell what a rune is; how far runes of a kind go.
  How far runes of a kind go.
  How many bytes a word, a number has; the document's own functions for them.
  The words of the language; names.
  Contracts of library functions at this seat's translation.
  Numbers of digits: what Number answers, on both sides.
  What says nothing; signs; what each kind of token is asked by; a token.
  What is worked out, as a tree, and how it stands in memory.
  Plain mathematics of a text's tokens: one step; all tokens; what a step leaves behind.
  The parts of Read: the functions by kind, a token.
-/
import Derived.Lib.DecodeN
import Derived.Lib.Strings
import Derived.Laws.RangeAny
import Derived.Laws.RangeString
import Derived.Test.YtkieljleopbhoaaDoorProg
import Derived.WalkKit
import Derived.WalkSpells
import Derived.Lib.OthersKept
import Derived.Below
import Derived.Laws.Rows
import Derived.OwnWalk
import Derived.Shelf.Small.Wraps
import Derived.Shelf.Strconv.Itoa0
import Derived.Shelf.Strconv.Itoa1
import Derived.Shelf.LaysM
import Derived.Shelf.Strconv.Itoa2
import Derived.Shelf.Strconv.Itoa3
import Derived.Shelf.Strconv.Itoa4
import Derived.Shelf.Strconv.ParseIntEmpty
import Derived.Shelf.Strconv.Clone
import Derived.Shelf.Strconv.SyntaxError
import Derived.Shelf.LaysC
import Derived.Shelf.Strconv.ToError
import Derived.Shelf.Strconv.Lower
import Derived.Shelf.Strconv.ParseUint10
import Derived.Shelf.Strconv.ParseUint10Empty
import Derived.Shelf.Strconv.ParseUint10Any
import Derived.Shelf.Strconv.ParseInt10
import Derived.Shelf.Strconv.RangeError
import Derived.Shelf.Strconv.ToErrorRange
import Derived.Shelf.Strconv.ParseUintEmpty
import Derived.Shelf.Strconv.ParseUint10b64
import Derived.Shelf.Strconv.ParseUint10b32
import Derived.Shelf.Strconv.ParseUint10b16
import Derived.Shelf.Strconv.ParseUint10b8
import Derived.Shelf.Strconv.ParseUint10At
import Derived.Shelf.Strconv.ParseInt10At64
import Derived.Shelf.Strconv.ParseInt10At32
import Derived.Shelf.Strconv.ParseInt10At16
import Derived.Shelf.Strconv.ParseInt10At8
import Derived.Shelf.Strconv.ParseInt10All
import Derived.Shelf.Strconv.ParseIntPublic10
import Derived.Shelf.Strconv.ErrVarParseInt
import Derived.Shelf.Strings.Prefix
import Derived.Lib.ParseIntBTie
import Derived.ProofKit
import Derived.OpenShut
import Derived.ShutString
import Derived.ChangeOld
import Derived.LaidMore
import Derived.SizedLaws
import Derived.Lib.LaidTab
import Derived.Lib.SmallJoins
import Derived.Laws.Tables
namespace Go.Proofs.YtkieljleopbhoaaDoor.Lex
open Go
def letter (c : UInt8) : Bool := (decide (97 ≤ c.toNat) && decide (c.toNat ≤ 122)) || (decide (65 ≤ c.toNat) && decide (c.toNat ≤ 90))
def digit (c : UInt8) : Bool := decide (48 ≤ c.toNat) && decide (c.toNat ≤ 57)
def ofWord (c : UInt8) : Bool := letter c || digit c || c.toNat == 95
def ofLine (c : UInt8) : Bool := !(c.toNat == 10)
def blank (c : UInt8) : Bool := c.toNat == 32 || c.toNat == 9 || c.toNat == 10 || c.toNat == 13
/-- How many bytes of a kind a text begins with. -/
def span (p : UInt8 → Bool) (l : List UInt8) : Nat := (l.takeWhile p).length
theorem span_nil (p : UInt8 → Bool) : span p [] = 0 := rfl
theorem span_cons (p : UInt8 → Bool) (c : UInt8) (l : List UInt8) : span p (c :: l) = if p c then span p l + 1 else 0 := by
  unfold span
  rw [List.takeWhile_cons]
  split <;> simp
theorem span_le (p : UInt8 → Bool) (l : List UInt8) : span p l ≤ l.length := by
  induction l with
  | nil => exact Nat.le_refl _
  | cons c l ih => rw [span_cons, List.length_cons]; split <;> omega
theorem span_at (p : UInt8 → Bool) (l : List UInt8) (i : Nat) (h : i < span p l) : p (l.getD i 0) = true := by
  induction l generalizing i with
  | nil => simp [span_nil] at h
  | cons c l ih =>
    rw [span_cons] at h
    split at h
    · rename_i hc
      cases i with
      | zero => simpa using hc
      | succ i => simpa using ih i (by omega)
    · omega
theorem span_stop (p : UInt8 → Bool) (l : List UInt8) (h : span p l < l.length) : p (l.getD (span p l) 0) = false := by
  induction l with
  | nil => simp at h
  | cons c l ih =>
    rw [span_cons] at h ⊢
    split
    · rename_i hc
      rw [if_pos hc, List.length_cons] at h
      simpa using ih (by omega)
    · rename_i hc
      simpa using hc
theorem span_eq (p : UInt8 → Bool) (l : List UInt8) (k : Nat) (hk : k ≤ l.length) (h1 : ∀ i, i < k → p (l.getD i 0) = true) (h2 : k = l.length ∨ p (l.getD k 0) = false) : span p l = k := by
  have ha := span_le p l
  by_cases hlt : span p l < k
  · have := span_stop p l (by omega)
    rw [h1 _ hlt] at this
    cases this
  · by_cases hgt : k < span p l
    · rcases h2 with h2 | h2
      · omega
      · rw [span_at p l k hgt] at h2; cases h2
    · omega
/-! ### Runes and bytes -/
theorem getD_get! (s : ByteArray) (i : Nat) : s.data.toList.getD i 0 = s.get! i := by
  cases s with
  | mk d =>
    show d.toList.getD i 0 = d[i]!
    by_cases h : i < d.size
    · rw [getElem!_pos d i h]; simp [List.getD, h]
    · rw [getElem!_neg d i h]; simp [List.getD, h]; rfl
theorem getD_get (s : ByteArray) (i : Nat) (h : i < s.size) : s.data.toList.getD i 0 = s[i]'h := by
  cases s with
  | mk d =>
    have h' : i < d.size := h
    show d.toList.getD i 0 = d[i]
    simp [List.getD, h']
/-- The bytes of a rune that begins above 127 lie all above 127, and in the text. -/
theorem decode_range (s : ByteArray) (pos i : Nat) (hpos : pos < s.size) (h : 128 ≤ (s.data.toList.getD pos 0).toNat) (hi : pos ≤ i) (hlt : i < pos + (Utf8.decode s pos).2) : i < s.size ∧ 128 ≤ (s.data.toList.getD i 0).toNat := by
  rw [Lib.decode_at, ← getD_get!, ← getD_get!, ← getD_get!, ← getD_get!] at hlt
  have hc : i = pos ∨ i = pos + 1 ∨ i = pos + 2 ∨ i = pos + 3 ∨ pos + 4 ≤ i := by omega
  unfold Lib.decodeN at hlt
  rcases hc with rfl | rfl | rfl | rfl | hc
  · exact ⟨hpos, h⟩
  all_goals
    repeat' split at hlt
    all_goals first | (exfalso; simp only at hlt; omega) | (constructor <;> omega)
end Go.Proofs.YtkieljleopbhoaaDoor.Lex
namespace Go.Proofs.YtkieljleopbhoaaDoor.Lex
open Go.RowKit
/-- What the functions tell of a rune. -/
def rDigit (r : Int) : Bool := decide (48 ≤ r) && decide (r ≤ 57)
def rLetter (r : Int) : Bool := (decide (97 ≤ r) && decide (r ≤ 122)) || (decide (65 ≤ r) && decide (r ≤ 90))
def rOfWord (r : Int) : Bool := rLetter r || rDigit r || r == 95
def rOfLine (r : Int) : Bool := r != 10
def rBlank (r : Int) : Bool := r == 32 || r == 9 || r == 10 || r == 13
theorem isDigit (r : Int) (w : World) : Calls Tryd.prog 79 #[.int .i32 r] w fun e w' => e = .returned (.bool (rDigit r)) ∧ w' = w := by
  unfold rDigit
  by_cases h : 48 ≤ r
  · go_enter Tryd.func79, Tryd.ntmps79
    go_wp2
    go_ret
    exact ⟨by simp [h], rfl⟩
  · go_enter Tryd.func79, Tryd.ntmps79
    go_wp2
    go_ret
    have e : decide (48 ≤ r) = false := decide_eq_false (by omega)
    exact ⟨by simp [e], rfl⟩
theorem isLetter (r : Int) (w : World) : Calls Tryd.prog 77 #[.int .i32 r] w fun e w' => e = .returned (.bool (rLetter r)) ∧ w' = w := by
  by_cases h1 : 97 ≤ r ∧ r ≤ 122
  · obtain ⟨ha, hb⟩ := h1
    have Hr : Hid (rLetter r = true) := by unfold Hid rLetter; simp [ha, hb]
    go_enter Tryd.func77, Tryd.ntmps77
    go_wp2
    go_ret
    exact ⟨by rw [Hr.out]; simp, rfl⟩
  · by_cases h2 : 65 ≤ r ∧ r ≤ 90
    · obtain ⟨ha, hb⟩ := h2
      have hc : ¬ 97 ≤ r := by omega
      have Hr : Hid (rLetter r = true) := by unfold Hid rLetter; simp [ha, hb]
      clear h1
      go_enter Tryd.func77, Tryd.ntmps77
      go_wp2
      go_ret
      exact ⟨by rw [Hr.out]; simp, rfl⟩
    · have Hr : Hid (rLetter r = false) := by unfold Hid rLetter; simp; omega
      by_cases h3 : 97 ≤ r
      · have h4 : ¬ r ≤ 122 := by omega
        have h5 : ¬ r ≤ 90 := by omega
        have h6 : 65 ≤ r := by omega
        clear h1 h2
        go_enter Tryd.func77, Tryd.ntmps77
        go_wp2
        go_ret
        exact ⟨by rw [Hr.out]; simp, rfl⟩
      · by_cases h6 : 65 ≤ r
        · have h5 : ¬ r ≤ 90 := by omega
          clear h1 h2
          go_enter Tryd.func77, Tryd.ntmps77
          go_wp2
          go_ret
          exact ⟨by rw [Hr.out]; simp, rfl⟩
        · clear h1 h2
          go_enter Tryd.func77, Tryd.ntmps77
          go_wp2
          go_ret
          exact ⟨by rw [Hr.out]; simp, rfl⟩
theorem isOfWord (r : Int) (w : World) : Calls Tryd.prog 78 #[.int .i32 r] w fun e w' => e = .returned (.bool (rOfWord r)) ∧ w' = w := by
  have h1 := isLetter r w
  have h2 := isDigit r w
  unfold rOfWord
  cases hl : rLetter r
  · rw [hl] at h1
    cases hd : rDigit r
    · rw [hd] at h2
      go_enter Tryd.func78, Tryd.ntmps78
      go_wp2_with (first
        | (go_at_call 77; refine h1.mono ?_; rintro e w2 ⟨rfl, h⟩; rw [h]; clear h w2)
        | (go_at_call 79; refine h2.mono ?_; rintro e w2 ⟨rfl, h⟩; rw [h]; clear h w2))
      go_ret
      exact ⟨by simp, rfl⟩
    · rw [hd] at h2
      go_enter Tryd.func78, Tryd.ntmps78
      go_wp2_with (first
        | (go_at_call 77; refine h1.mono ?_; rintro e w2 ⟨rfl, h⟩; rw [h]; clear h w2)
        | (go_at_call 79; refine h2.mono ?_; rintro e w2 ⟨rfl, h⟩; rw [h]; clear h w2))
      go_ret
      exact ⟨by simp, rfl⟩
  · rw [hl] at h1
    go_enter Tryd.func78, Tryd.ntmps78
    go_wp2_with (go_at_call 77; refine h1.mono ?_; rintro e w2 ⟨rfl, h⟩; rw [h]; clear h w2)
    go_ret
    exact ⟨by simp, rfl⟩
theorem isOfLine (r : Int) (w : World) : Calls Tryd.prog 75 #[.int .i32 r] w fun e w' => e = .returned (.bool (rOfLine r)) ∧ w' = w := by
  unfold rOfLine
  go_enter Tryd.func75, Tryd.ntmps75
  go_wp2
  go_ret
  exact ⟨rfl, rfl⟩
theorem isBlank (r : Int) (w : World) : Calls Tryd.prog 76 #[.int .i32 r] w fun e w' => e = .returned (.bool (rBlank r)) ∧ w' = w := by
  unfold rBlank
  cases h1 : r == 32 <;> cases h2 : r == 9 <;> cases h3 : r == 10 <;> cases h4 : r == 13
  all_goals
    go_enter Tryd.func76, Tryd.ntmps76
    go_wp2
    go_ret
    exact ⟨by simp, rfl⟩
end Go.Proofs.YtkieljleopbhoaaDoor.Lex
namespace Go.Proofs.YtkieljleopbhoaaDoor.Lex
open Go.RowKit
theorem digit_byte (c : UInt8) : rDigit (c.toNat : Int) = digit c := by
  unfold rDigit digit
  congr 1 <;> simp <;> omega
theorem letter_byte (c : UInt8) : rLetter (c.toNat : Int) = letter c := by
  have h : ∀ a b : Nat, (decide ((a : Int) ≤ (b : Int))) = decide (a ≤ b) := fun a b => decide_eq_decide.2 (by omega)
  unfold rLetter letter
  rw [← h 97, ← h _ 122, ← h 65, ← h _ 90]
  rfl
theorem eq_byte (c : UInt8) (n : Nat) : ((c.toNat : Int) == (n : Int)) = (c.toNat == n) := by
  rw [Bool.eq_iff_iff]; simp only [beq_iff_eq]; omega
theorem ofWord_byte (c : UInt8) : rOfWord (c.toNat : Int) = ofWord c := by
  unfold rOfWord ofWord
  rw [letter_byte, digit_byte, ← eq_byte c 95]
  rfl
theorem ofLine_byte (c : UInt8) : rOfLine (c.toNat : Int) = ofLine c := by
  unfold rOfLine ofLine
  rw [← eq_byte c 10]
  rfl
theorem blank_byte (c : UInt8) : rBlank (c.toNat : Int) = blank c := by
  unfold rBlank blank
  rw [← eq_byte c 32, ← eq_byte c 9, ← eq_byte c 10, ← eq_byte c 13]
  rfl
theorem rDigit_high (r : Int) (h : 128 ≤ r) : rDigit r = false := by unfold rDigit; simp; omega
theorem rLetter_high (r : Int) (h : 128 ≤ r) : rLetter r = false := by unfold rLetter; simp; omega
theorem rOfWord_high (r : Int) (h : 128 ≤ r) : rOfWord r = false := by
  unfold rOfWord; rw [rLetter_high r h, rDigit_high r h]; simp; omega
theorem rOfLine_high (r : Int) (h : 128 ≤ r) : rOfLine r = true := by unfold rOfLine; simp; omega
theorem rBlank_high (r : Int) (h : 128 ≤ r) : rBlank r = false := by unfold rBlank; simp; omega
theorem drop_high (p : UInt8 → Bool) (R : Int → Bool) (q : Bool) (hb : ∀ c : UInt8, R (c.toNat : Int) = p c) (hq : ∀ r : Int, 128 ≤ r → R r = q) (c : UInt8) (h : 128 ≤ c.toNat) : p c = q := by rw [← hb c]; exact hq _ (by omega)
/-- One rune: what is told of it is what is told of its first byte, and of all its bytes. -/
theorem rune_step (p : UInt8 → Bool) (R : Int → Bool) (q : Bool) (hb : ∀ c : UInt8, R (c.toNat : Int) = p c) (hq : ∀ r : Int, 128 ≤ r → R r = q) (s : ByteArray) (pos : Nat) (hp : pos < s.size) :
    R ((Utf8.decode s pos).1 : Int) = p (s.data.toList.getD pos 0) ∧ 1 ≤ (Utf8.decode s pos).2 ∧ pos + (Utf8.decode s pos).2 ≤ s.size ∧ ∀ i, pos ≤ i → i < pos + (Utf8.decode s pos).2 → p (s.data.toList.getD i 0) = p (s.data.toList.getD pos 0) := by
  have hg := getD_get s pos hp
  by_cases h : (s[pos]'hp).toNat < 128
  · rw [decode_ascii s pos hp h, hg]
    refine ⟨hb _, Nat.le_refl _, by show pos + 1 ≤ s.size; omega, fun i h1 h2 => ?_⟩
    have : i = pos := by have h2 : i < pos + 1 := h2; omega
    rw [this, hg]
  · obtain ⟨h1, h2⟩ := decode_high s pos hp (by omega)
    have hc : 128 ≤ (s.data.toList.getD pos 0).toNat := by rw [hg]; omega
    have hr := fun i hi hlt => decode_range s pos i hp hc hi hlt
    refine ⟨?_, h2, ?_, fun i hi hlt => ?_⟩
    · rw [hq _ (by omega), drop_high p R q hb hq _ hc]
    · have := (hr (pos + (Utf8.decode s pos).2 - 1) (by omega) (by omega)).1
      omega
    · rw [drop_high p R q hb hq _ (hr i hi hlt).2, drop_high p R q hb hq _ hc]
theorem run_digit (s : ByteArray) (w : World) :
    Calls Tryd.prog 74 #[.string s, .func (.func 79) #[] #[]] w fun e w' => e = .returned (.int .i64 (span digit s.data.toList : Int)) ∧ Below w.heap.size w w' := by
  have hk0 : (w.iter s 0).heap[w.heap.size]? = some (.stringIter s 0) := World.iter_heap w s 0
  have hb0 : Below w.heap.size w (w.iter s 0) := (Below.refl _ w).alloc (Nat.le_refl _) _
  have HL : Hid (s.data.toList.length = s.size) := (Lib.size_eq s).symm
  go_enter Tryd.func74, Tryd.ntmps74
  go_wp2
  go_loopw [5] (fun _ wr => ∃ pos : Nat, pos ≤ s.size ∧ wr.heap[w.heap.size]? = some (.stringIter s pos) ∧ (∀ i, i < pos → digit (s.data.toList.getD i 0) = true) ∧ Below w.heap.size w wr) (fun _ wr => s.size - wr.iterPos w.heap.size)
  case atStart => exact ⟨0, Nat.zero_le _, hk0, fun i hi => by omega, hb0⟩
  case round =>
    obtain ⟨pos, hps, hk, hall, hb⟩ := hrel
    clear hk0 hb0
    have Hall : Hid (∀ i, i < pos → digit (s.data.toList.getD i 0) = true) := hall
    clear hall
    by_cases hp : pos < s.size
    · obtain ⟨hR, hn, hle, hrange⟩ := rune_step digit rDigit false digit_byte rDigit_high s pos hp
      have hnext : ∀ ty, (Instr.next (.pointer (some ⟨w.heap.size, 0, none⟩)) true ty).run Tryd.prog wr = _ := fun ty => Lib.run_next_any_at wr w.heap.size s pos ty hk hp
      have hmu : Hid (wr.iterPos w.heap.size = pos) := by unfold Hid; simp [World.iterPos, hk]
      generalize (Utf8.decode s pos).1 = rr at hR hnext
      generalize (Utf8.decode s pos).2 = nn at hn hle hrange hnext
      have hk1 := Lib.iterAt_heap wr w.heap.size s pos (pos + nn) hk
      have hb1 : Below w.heap.size w (wr.iterAt w.heap.size s (pos + nn)) := Lib.below_iterAt hb (Nat.le_refl _) s (pos + nn)
      generalize wr.iterAt w.heap.size s (pos + nn) = W1 at hnext hk1 hb1
      have Hrange : Hid (∀ i, pos ≤ i → i < pos + nn → digit (s.data.toList.getD i 0) = digit (s.data.toList.getD pos 0)) := hrange
      have hfn := isDigit (rr : Int) W1
      rw [hR] at hfn
      clear hk hb hrange hR
      cases hv : digit (s.data.toList.getD pos 0)
      · rw [hv] at hfn
        have Hv : Hid (digit (s.data.toList.getD pos 0) = false) := hv
        clear hv
        go_wp2_with (go_at_call 79; refine hfn.mono ?_; rintro e w2 ⟨rfl, h⟩; rw [h]; clear h w2)
        go_ret
        refine ⟨?_, hb1⟩
        rw [span_eq digit s.data.toList pos (by rw [HL.out]; omega) Hall.out (.inr Hv.out)]
        rfl
      · rw [hv] at hfn
        have Hv : Hid (digit (s.data.toList.getD pos 0) = true) := hv
        clear hv
        go_wp2_with (go_at_call 79; refine hfn.mono ?_; rintro e w2 ⟨rfl, h⟩; rw [h]; clear h w2)
        go_roundw
        case rel =>
          refine ⟨pos + nn, hle, hk1, fun i hi => ?_, hb1⟩
          by_cases h : i < pos
          · exact Hall.out i h
          · rw [Hrange.out i (by omega) hi]; exact Hv.out
        case measure =>
          have hmu2 : W1.iterPos w.heap.size = pos + nn := by simp [World.iterPos, hk1]
          rw [hmu.out, hmu2]
          omega
    · have hnext : ∀ ty, (Instr.next (.pointer (some ⟨w.heap.size, 0, none⟩)) true ty).run Tryd.prog wr = _ := fun ty => Lib.run_next_end_at wr w.heap.size s pos ty hk hp
      go_wp2
      go_ret
      refine ⟨?_, hb⟩
      rw [span_eq digit s.data.toList pos (by rw [HL.out]; omega) Hall.out (.inl (by rw [HL.out]; omega)), show pos = s.size by omega]
      rfl
theorem run_letter (s : ByteArray) (w : World) :
    Calls Tryd.prog 74 #[.string s, .func (.func 77) #[] #[]] w fun e w' => e = .returned (.int .i64 (span letter s.data.toList : Int)) ∧ Below w.heap.size w w' := by
  have hk0 : (w.iter s 0).heap[w.heap.size]? = some (.stringIter s 0) := World.iter_heap w s 0
  have hb0 : Below w.heap.size w (w.iter s 0) := (Below.refl _ w).alloc (Nat.le_refl _) _
  have HL : Hid (s.data.toList.length = s.size) := (Lib.size_eq s).symm
  go_enter Tryd.func74, Tryd.ntmps74
  go_wp2
  go_loopw [5] (fun _ wr => ∃ pos : Nat, pos ≤ s.size ∧ wr.heap[w.heap.size]? = some (.stringIter s pos) ∧ (∀ i, i < pos → letter (s.data.toList.getD i 0) = true) ∧ Below w.heap.size w wr) (fun _ wr => s.size - wr.iterPos w.heap.size)
  case atStart => exact ⟨0, Nat.zero_le _, hk0, fun i hi => by omega, hb0⟩
  case round =>
    obtain ⟨pos, hps, hk, hall, hb⟩ := hrel
    clear hk0 hb0
    have Hall : Hid (∀ i, i < pos → letter (s.data.toList.getD i 0) = true) := hall
    clear hall
    by_cases hp : pos < s.size
    · obtain ⟨hR, hn, hle, hrange⟩ := rune_step letter rLetter false letter_byte rLetter_high s pos hp
      have hnext : ∀ ty, (Instr.next (.pointer (some ⟨w.heap.size, 0, none⟩)) true ty).run Tryd.prog wr = _ := fun ty => Lib.run_next_any_at wr w.heap.size s pos ty hk hp
      have hmu : Hid (wr.iterPos w.heap.size = pos) := by unfold Hid; simp [World.iterPos, hk]
      generalize (Utf8.decode s pos).1 = rr at hR hnext
      generalize (Utf8.decode s pos).2 = nn at hn hle hrange hnext
      have hk1 := Lib.iterAt_heap wr w.heap.size s pos (pos + nn) hk
      have hb1 : Below w.heap.size w (wr.iterAt w.heap.size s (pos + nn)) := Lib.below_iterAt hb (Nat.le_refl _) s (pos + nn)
      generalize wr.iterAt w.heap.size s (pos + nn) = W1 at hnext hk1 hb1
      have Hrange : Hid (∀ i, pos ≤ i → i < pos + nn → letter (s.data.toList.getD i 0) = letter (s.data.toList.getD pos 0)) := hrange
      have hfn := isLetter (rr : Int) W1
      rw [hR] at hfn
      clear hk hb hrange hR
      cases hv : letter (s.data.toList.getD pos 0)
      · rw [hv] at hfn
        have Hv : Hid (letter (s.data.toList.getD pos 0) = false) := hv
        clear hv
        go_wp2_with (go_at_call 77; refine hfn.mono ?_; rintro e w2 ⟨rfl, h⟩; rw [h]; clear h w2)
        go_ret
        refine ⟨?_, hb1⟩
        rw [span_eq letter s.data.toList pos (by rw [HL.out]; omega) Hall.out (.inr Hv.out)]
        rfl
      · rw [hv] at hfn
        have Hv : Hid (letter (s.data.toList.getD pos 0) = true) := hv
        clear hv
        go_wp2_with (go_at_call 77; refine hfn.mono ?_; rintro e w2 ⟨rfl, h⟩; rw [h]; clear h w2)
        go_roundw
        case rel =>
          refine ⟨pos + nn, hle, hk1, fun i hi => ?_, hb1⟩
          by_cases h : i < pos
          · exact Hall.out i h
          · rw [Hrange.out i (by omega) hi]; exact Hv.out
        case measure =>
          have hmu2 : W1.iterPos w.heap.size = pos + nn := by simp [World.iterPos, hk1]
          rw [hmu.out, hmu2]
          omega
    · have hnext : ∀ ty, (Instr.next (.pointer (some ⟨w.heap.size, 0, none⟩)) true ty).run Tryd.prog wr = _ := fun ty => Lib.run_next_end_at wr w.heap.size s pos ty hk hp
      go_wp2
      go_ret
      refine ⟨?_, hb⟩
      rw [span_eq letter s.data.toList pos (by rw [HL.out]; omega) Hall.out (.inl (by rw [HL.out]; omega)), show pos = s.size by omega]
      rfl
theorem run_ofWord (s : ByteArray) (w : World) :
    Calls Tryd.prog 74 #[.string s, .func (.func 78) #[] #[]] w fun e w' => e = .returned (.int .i64 (span ofWord s.data.toList : Int)) ∧ Below w.heap.size w w' := by
  have hk0 : (w.iter s 0).heap[w.heap.size]? = some (.stringIter s 0) := World.iter_heap w s 0
  have hb0 : Below w.heap.size w (w.iter s 0) := (Below.refl _ w).alloc (Nat.le_refl _) _
  have HL : Hid (s.data.toList.length = s.size) := (Lib.size_eq s).symm
  go_enter Tryd.func74, Tryd.ntmps74
  go_wp2
  go_loopw [5] (fun _ wr => ∃ pos : Nat, pos ≤ s.size ∧ wr.heap[w.heap.size]? = some (.stringIter s pos) ∧ (∀ i, i < pos → ofWord (s.data.toList.getD i 0) = true) ∧ Below w.heap.size w wr) (fun _ wr => s.size - wr.iterPos w.heap.size)
  case atStart => exact ⟨0, Nat.zero_le _, hk0, fun i hi => by omega, hb0⟩
  case round =>
    obtain ⟨pos, hps, hk, hall, hb⟩ := hrel
    clear hk0 hb0
    have Hall : Hid (∀ i, i < pos → ofWord (s.data.toList.getD i 0) = true) := hall
    clear hall
    by_cases hp : pos < s.size
    · obtain ⟨hR, hn, hle, hrange⟩ := rune_step ofWord rOfWord false ofWord_byte rOfWord_high s pos hp
      have hnext : ∀ ty, (Instr.next (.pointer (some ⟨w.heap.size, 0, none⟩)) true ty).run Tryd.prog wr = _ := fun ty => Lib.run_next_any_at wr w.heap.size s pos ty hk hp
      have hmu : Hid (wr.iterPos w.heap.size = pos) := by unfold Hid; simp [World.iterPos, hk]
      generalize (Utf8.decode s pos).1 = rr at hR hnext
      generalize (Utf8.decode s pos).2 = nn at hn hle hrange hnext
      have hk1 := Lib.iterAt_heap wr w.heap.size s pos (pos + nn) hk
      have hb1 : Below w.heap.size w (wr.iterAt w.heap.size s (pos + nn)) := Lib.below_iterAt hb (Nat.le_refl _) s (pos + nn)
      generalize wr.iterAt w.heap.size s (pos + nn) = W1 at hnext hk1 hb1
      have Hrange : Hid (∀ i, pos ≤ i → i < pos + nn → ofWord (s.data.toList.getD i 0) = ofWord (s.data.toList.getD pos 0)) := hrange
      have hfn := isOfWord (rr : Int) W1
      rw [hR] at hfn
      clear hk hb hrange hR
      cases hv : ofWord (s.data.toList.getD pos 0)
      · rw [hv] at hfn
        have Hv : Hid (ofWord (s.data.toList.getD pos 0) = false) := hv
        clear hv
        go_wp2_with (go_at_call 78; refine hfn.mono ?_; rintro e w2 ⟨rfl, h⟩; rw [h]; clear h w2)
        go_ret
        refine ⟨?_, hb1⟩
        rw [span_eq ofWord s.data.toList pos (by rw [HL.out]; omega) Hall.out (.inr Hv.out)]
        rfl
      · rw [hv] at hfn
        have Hv : Hid (ofWord (s.data.toList.getD pos 0) = true) := hv
        clear hv
        go_wp2_with (go_at_call 78; refine hfn.mono ?_; rintro e w2 ⟨rfl, h⟩; rw [h]; clear h w2)
        go_roundw
        case rel =>
          refine ⟨pos + nn, hle, hk1, fun i hi => ?_, hb1⟩
          by_cases h : i < pos
          · exact Hall.out i h
          · rw [Hrange.out i (by omega) hi]; exact Hv.out
        case measure =>
          have hmu2 : W1.iterPos w.heap.size = pos + nn := by simp [World.iterPos, hk1]
          rw [hmu.out, hmu2]
          omega
    · have hnext : ∀ ty, (Instr.next (.pointer (some ⟨w.heap.size, 0, none⟩)) true ty).run Tryd.prog wr = _ := fun ty => Lib.run_next_end_at wr w.heap.size s pos ty hk hp
      go_wp2
      go_ret
      refine ⟨?_, hb⟩
      rw [span_eq ofWord s.data.toList pos (by rw [HL.out]; omega) Hall.out (.inl (by rw [HL.out]; omega)), show pos = s.size by omega]
      rfl
theorem run_ofLine (s : ByteArray) (w : World) :
    Calls Tryd.prog 74 #[.string s, .func (.func 75) #[] #[]] w fun e w' => e = .returned (.int .i64 (span ofLine s.data.toList : Int)) ∧ Below w.heap.size w w' := by
  have hk0 : (w.iter s 0).heap[w.heap.size]? = some (.stringIter s 0) := World.iter_heap w s 0
  have hb0 : Below w.heap.size w (w.iter s 0) := (Below.refl _ w).alloc (Nat.le_refl _) _
  have HL : Hid (s.data.toList.length = s.size) := (Lib.size_eq s).symm
  go_enter Tryd.func74, Tryd.ntmps74
  go_wp2
  go_loopw [5] (fun _ wr => ∃ pos : Nat, pos ≤ s.size ∧ wr.heap[w.heap.size]? = some (.stringIter s pos) ∧ (∀ i, i < pos → ofLine (s.data.toList.getD i 0) = true) ∧ Below w.heap.size w wr) (fun _ wr => s.size - wr.iterPos w.heap.size)
  case atStart => exact ⟨0, Nat.zero_le _, hk0, fun i hi => by omega, hb0⟩
  case round =>
    obtain ⟨pos, hps, hk, hall, hb⟩ := hrel
    clear hk0 hb0
    have Hall : Hid (∀ i, i < pos → ofLine (s.data.toList.getD i 0) = true) := hall
    clear hall
    by_cases hp : pos < s.size
    · obtain ⟨hR, hn, hle, hrange⟩ := rune_step ofLine rOfLine true ofLine_byte rOfLine_high s pos hp
      have hnext : ∀ ty, (Instr.next (.pointer (some ⟨w.heap.size, 0, none⟩)) true ty).run Tryd.prog wr = _ := fun ty => Lib.run_next_any_at wr w.heap.size s pos ty hk hp
      have hmu : Hid (wr.iterPos w.heap.size = pos) := by unfold Hid; simp [World.iterPos, hk]
      generalize (Utf8.decode s pos).1 = rr at hR hnext
      generalize (Utf8.decode s pos).2 = nn at hn hle hrange hnext
      have hk1 := Lib.iterAt_heap wr w.heap.size s pos (pos + nn) hk
      have hb1 : Below w.heap.size w (wr.iterAt w.heap.size s (pos + nn)) := Lib.below_iterAt hb (Nat.le_refl _) s (pos + nn)
      generalize wr.iterAt w.heap.size s (pos + nn) = W1 at hnext hk1 hb1
      have Hrange : Hid (∀ i, pos ≤ i → i < pos + nn → ofLine (s.data.toList.getD i 0) = ofLine (s.data.toList.getD pos 0)) := hrange
      have hfn := isOfLine (rr : Int) W1
      rw [hR] at hfn
      clear hk hb hrange hR
      cases hv : ofLine (s.data.toList.getD pos 0)
      · rw [hv] at hfn
        have Hv : Hid (ofLine (s.data.toList.getD pos 0) = false) := hv
        clear hv
        go_wp2_with (go_at_call 75; refine hfn.mono ?_; rintro e w2 ⟨rfl, h⟩; rw [h]; clear h w2)
        go_ret
        refine ⟨?_, hb1⟩
        rw [span_eq ofLine s.data.toList pos (by rw [HL.out]; omega) Hall.out (.inr Hv.out)]
        rfl
      · rw [hv] at hfn
        have Hv : Hid (ofLine (s.data.toList.getD pos 0) = true) := hv
        clear hv
        go_wp2_with (go_at_call 75; refine hfn.mono ?_; rintro e w2 ⟨rfl, h⟩; rw [h]; clear h w2)
        go_roundw
        case rel =>
          refine ⟨pos + nn, hle, hk1, fun i hi => ?_, hb1⟩
          by_cases h : i < pos
          · exact Hall.out i h
          · rw [Hrange.out i (by omega) hi]; exact Hv.out
        case measure =>
          have hmu2 : W1.iterPos w.heap.size = pos + nn := by simp [World.iterPos, hk1]
          rw [hmu.out, hmu2]
          omega
    · have hnext : ∀ ty, (Instr.next (.pointer (some ⟨w.heap.size, 0, none⟩)) true ty).run Tryd.prog wr = _ := fun ty => Lib.run_next_end_at wr w.heap.size s pos ty hk hp
      go_wp2
      go_ret
      refine ⟨?_, hb⟩
      rw [span_eq ofLine s.data.toList pos (by rw [HL.out]; omega) Hall.out (.inl (by rw [HL.out]; omega)), show pos = s.size by omega]
      rfl
theorem run_blank (s : ByteArray) (w : World) :
    Calls Tryd.prog 74 #[.string s, .func (.func 76) #[] #[]] w fun e w' => e = .returned (.int .i64 (span blank s.data.toList : Int)) ∧ Below w.heap.size w w' := by
  have hk0 : (w.iter s 0).heap[w.heap.size]? = some (.stringIter s 0) := World.iter_heap w s 0
  have hb0 : Below w.heap.size w (w.iter s 0) := (Below.refl _ w).alloc (Nat.le_refl _) _
  have HL : Hid (s.data.toList.length = s.size) := (Lib.size_eq s).symm
  go_enter Tryd.func74, Tryd.ntmps74
  go_wp2
  go_loopw [5] (fun _ wr => ∃ pos : Nat, pos ≤ s.size ∧ wr.heap[w.heap.size]? = some (.stringIter s pos) ∧ (∀ i, i < pos → blank (s.data.toList.getD i 0) = true) ∧ Below w.heap.size w wr) (fun _ wr => s.size - wr.iterPos w.heap.size)
  case atStart => exact ⟨0, Nat.zero_le _, hk0, fun i hi => by omega, hb0⟩
  case round =>
    obtain ⟨pos, hps, hk, hall, hb⟩ := hrel
    clear hk0 hb0
    have Hall : Hid (∀ i, i < pos → blank (s.data.toList.getD i 0) = true) := hall
    clear hall
    by_cases hp : pos < s.size
    · obtain ⟨hR, hn, hle, hrange⟩ := rune_step blank rBlank false blank_byte rBlank_high s pos hp
      have hnext : ∀ ty, (Instr.next (.pointer (some ⟨w.heap.size, 0, none⟩)) true ty).run Tryd.prog wr = _ := fun ty => Lib.run_next_any_at wr w.heap.size s pos ty hk hp
      have hmu : Hid (wr.iterPos w.heap.size = pos) := by unfold Hid; simp [World.iterPos, hk]
      generalize (Utf8.decode s pos).1 = rr at hR hnext
      generalize (Utf8.decode s pos).2 = nn at hn hle hrange hnext
      have hk1 := Lib.iterAt_heap wr w.heap.size s pos (pos + nn) hk
      have hb1 : Below w.heap.size w (wr.iterAt w.heap.size s (pos + nn)) := Lib.below_iterAt hb (Nat.le_refl _) s (pos + nn)
      generalize wr.iterAt w.heap.size s (pos + nn) = W1 at hnext hk1 hb1
      have Hrange : Hid (∀ i, pos ≤ i → i < pos + nn → blank (s.data.toList.getD i 0) = blank (s.data.toList.getD pos 0)) := hrange
      have hfn := isBlank (rr : Int) W1
      rw [hR] at hfn
      clear hk hb hrange hR
      cases hv : blank (s.data.toList.getD pos 0)
      · rw [hv] at hfn
        have Hv : Hid (blank (s.data.toList.getD pos 0) = false) := hv
        clear hv
        go_wp2_with (go_at_call 76; refine hfn.mono ?_; rintro e w2 ⟨rfl, h⟩; rw [h]; clear h w2)
        go_ret
        refine ⟨?_, hb1⟩
        rw [span_eq blank s.data.toList pos (by rw [HL.out]; omega) Hall.out (.inr Hv.out)]
        rfl
      · rw [hv] at hfn
        have Hv : Hid (blank (s.data.toList.getD pos 0) = true) := hv
        clear hv
        go_wp2_with (go_at_call 76; refine hfn.mono ?_; rintro e w2 ⟨rfl, h⟩; rw [h]; clear h w2)
        go_roundw
        case rel =>
          refine ⟨pos + nn, hle, hk1, fun i hi => ?_, hb1⟩
          by_cases h : i < pos
          · exact Hall.out i h
          · rw [Hrange.out i (by omega) hi]; exact Hv.out
        case measure =>
          have hmu2 : W1.iterPos w.heap.size = pos + nn := by simp [World.iterPos, hk1]
          rw [hmu.out, hmu2]
          omega
    · have hnext : ∀ ty, (Instr.next (.pointer (some ⟨w.heap.size, 0, none⟩)) true ty).run Tryd.prog wr = _ := fun ty => Lib.run_next_end_at wr w.heap.size s pos ty hk hp
      go_wp2
      go_ret
      refine ⟨?_, hb⟩
      rw [span_eq blank s.data.toList pos (by rw [HL.out]; omega) Hall.out (.inl (by rw [HL.out]; omega)), show pos = s.size by omega]
      rfl
end Go.Proofs.YtkieljleopbhoaaDoor.Lex
namespace Go.Proofs.YtkieljleopbhoaaDoor.Lex
open Go.RowKit
theorem bstep {w w1 w2 : World} (h1 : Below w.heap.size w w1) (h2 : Below w1.heap.size w1 w2) : Below w.heap.size w w2 := h1.trans (h2.mono h1.size)
def wordLen (l : List UInt8) : Nat := if span letter l = 0 then 0 else span ofWord l
def numLen (l : List UInt8) : Nat := if 1 < span digit l ∧ (l.getD 0 0).toNat = 48 then 0 else span digit l
theorem wordLength (s : ByteArray) (w : World) : Calls Tryd.prog 52 #[.string s] w fun e w' => e = .returned (.int .i64 (wordLen s.data.toList : Int)) ∧ Below w.heap.size w w' := by
  have h1 := run_letter s w
  have h2 := fun W => run_ofWord s W
  unfold wordLen
  generalize span letter s.data.toList = a at h1
  generalize span ofWord s.data.toList = b at h2
  by_cases ha : a = 0
  · subst ha
    go_enter Tryd.func52, Tryd.ntmps52
    go_wp2_with (go_at_call 74; refine h1.mono ?_; rintro e w2 ⟨rfl, hk2⟩)
    go_ret
    exact ⟨rfl, hk2⟩
  · rw [if_neg ha]
    have hz : ((a : Int) == 0) = false := by simp; omega
    have p1 : Hid True := trivial
    clear ha
    go_enter Tryd.func52, Tryd.ntmps52
    go_wp2_with (go_at_call 74; first
      | (clear p1; refine h1.mono ?_; rintro e w2 ⟨rfl, hk2⟩)
      | (refine (h2 w2).mono ?_; rintro e w3 ⟨rfl, hk3⟩))
    go_ret
    exact ⟨rfl, bstep hk2 hk3⟩
theorem numberLength (s : ByteArray) (w : World) : Calls Tryd.prog 53 #[.string s] w fun e w' => e = .returned (.int .i64 (numLen s.data.toList : Int)) ∧ Below w.heap.size w w' := by
  have h1 := run_digit s w
  have hsz := span_le digit s.data.toList
  rw [← Lib.size_eq] at hsz
  unfold numLen
  generalize span digit s.data.toList = a at h1 hsz
  by_cases ha : 1 < a
  · have h0 : 0 < s.size := by omega
    have h0' : (0 : Int) < (s.size : Int) := by omega
    have ha' : (1 : Int) < (a : Int) := by omega
    rw [getD_get s 0 h0]
    obtain ⟨c, hc⟩ : ∃ c, s[0]'h0 = c := ⟨_, rfl⟩
    rw [hc]
    by_cases h48 : c.toNat = 48
    · rw [if_pos ⟨ha, h48⟩]
      have hb : ((c.toNat : Int) == 48) = true := by simp; omega
      clear h48
      go_enter Tryd.func53, Tryd.ntmps53
      go_wp2_with (go_at_call 74; refine h1.mono ?_; rintro e w2 ⟨rfl, hk2⟩)
      go_ret
      exact ⟨rfl, hk2⟩
    · rw [if_neg (fun h => h48 h.2)]
      have hb : ((c.toNat : Int) == 48) = false := by simp; omega
      clear h48
      go_enter Tryd.func53, Tryd.ntmps53
      go_wp2_with (go_at_call 74; refine h1.mono ?_; rintro e w2 ⟨rfl, hk2⟩)
      go_ret
      exact ⟨rfl, hk2⟩
  · have ha' : ¬ (1 : Int) < (a : Int) := by omega
    rw [if_neg (fun h => ha h.1)]
    clear ha
    go_enter Tryd.func53, Tryd.ntmps53
    go_wp2_with (go_at_call 74; refine h1.mono ?_; rintro e w2 ⟨rfl, hk2⟩)
    go_ret
    exact ⟨rfl, hk2⟩
/-! ### The document's own -/
theorem refDigit (c : UInt8) (w : World) : Calls Tryd.prog 93 #[.int .u8 (c.toNat : Int)] w fun e w' => e = .returned (.bool (digit c)) ∧ w' = w := by
  rw [← digit_byte]
  unfold rDigit
  generalize (c.toNat : Int) = r
  by_cases h : 48 ≤ r
  · go_enter Tryd.func93, Tryd.ntmps93
    go_wp2
    go_ret
    exact ⟨by simp [h], rfl⟩
  · go_enter Tryd.func93, Tryd.ntmps93
    go_wp2
    go_ret
    have e : decide (48 ≤ r) = false := decide_eq_false (by omega)
    exact ⟨by simp [e], rfl⟩
theorem refLetter (c : UInt8) (w : World) : Calls Tryd.prog 92 #[.int .u8 (c.toNat : Int)] w fun e w' => e = .returned (.bool (letter c)) ∧ w' = w := by
  rw [← letter_byte]
  generalize (c.toNat : Int) = r
  by_cases h1 : 97 ≤ r ∧ r ≤ 122
  · obtain ⟨ha, hb⟩ := h1
    have Hr : Hid (rLetter r = true) := by unfold Hid rLetter; simp [ha, hb]
    go_enter Tryd.func92, Tryd.ntmps92
    go_wp2
    go_ret
    exact ⟨by rw [Hr.out]; simp, rfl⟩
  · by_cases h2 : 65 ≤ r ∧ r ≤ 90
    · obtain ⟨ha, hb⟩ := h2
      have hc : ¬ 97 ≤ r := by omega
      have Hr : Hid (rLetter r = true) := by unfold Hid rLetter; simp [ha, hb]
      clear h1
      go_enter Tryd.func92, Tryd.ntmps92
      go_wp2
      go_ret
      exact ⟨by rw [Hr.out]; simp, rfl⟩
    · have Hr : Hid (rLetter r = false) := by unfold Hid rLetter; simp; omega
      by_cases h3 : 97 ≤ r
      · have h4 : ¬ r ≤ 122 := by omega
        have h5 : ¬ r ≤ 90 := by omega
        have h6 : 65 ≤ r := by omega
        clear h1 h2
        go_enter Tryd.func92, Tryd.ntmps92
        go_wp2
        go_ret
        exact ⟨by rw [Hr.out]; simp, rfl⟩
      · by_cases h6 : 65 ≤ r
        · have h5 : ¬ r ≤ 90 := by omega
          clear h1 h2
          go_enter Tryd.func92, Tryd.ntmps92
          go_wp2
          go_ret
          exact ⟨by rw [Hr.out]; simp, rfl⟩
        · clear h1 h2
          go_enter Tryd.func92, Tryd.ntmps92
          go_wp2
          go_ret
          exact ⟨by rw [Hr.out]; simp, rfl⟩
theorem drop_getD (l : List UInt8) (a i : Nat) : (l.drop a).getD i 0 = l.getD (a + i) 0 := by simp [List.getD, List.getElem?_drop]
theorem letter_ofWord {c : UInt8} (h : letter c = true) : ofWord c = true := by unfold ofWord; rw [h]; rfl
/-- The i-th byte of a word may stand there. -/
def okW (c : UInt8) (i : Nat) : Bool := letter c || (decide (0 < i) && (digit c || c.toNat == 95))
theorem okW_ofWord {c : UInt8} {i : Nat} (h : okW c i = true) : ofWord c = true := by
  unfold okW at h; unfold ofWord
  cases hl : letter c <;> rw [hl] at h <;> simp_all
theorem okW_succ (c : UInt8) (i : Nat) (h : 0 < i) : okW c i = ofWord c := by
  unfold okW ofWord; rw [decide_eq_true h, Bool.true_and, Bool.or_assoc]
theorem okW_zero (c : UInt8) : okW c 0 = letter c := by unfold okW; simp
theorem wordLen_eq (l : List UInt8) (k : Nat) (hk : k ≤ l.length) (h1 : ∀ i, i < k → okW (l.getD i 0) i = true) (h2 : k = l.length ∨ okW (l.getD k 0) k = false) : wordLen l = k := by
  unfold wordLen
  by_cases h0 : k = 0
  · subst h0
    have : span letter l = 0 := span_eq letter l 0 hk (fun i hi => by omega) (h2.imp id fun h => by rwa [okW_zero] at h)
    rw [if_pos this]
  · have ha : span letter l ≠ 0 := fun h => by
      have hs := span_stop letter l (by omega)
      rw [h] at hs
      have := h1 0 (by omega)
      rw [okW_zero] at this
      rw [this] at hs; cases hs
    rw [if_neg ha]
    exact span_eq ofWord l k hk (fun i hi => okW_ofWord (h1 i hi)) (h2.imp id fun h => by rwa [okW_succ _ _ (by omega)] at h)
set_option maxHeartbeats 1000000 in
theorem refWord (s : ByteArray) (a : Nat) (w : World) (ha : a ≤ s.size) (hs : s.size ≤ 140737488355328) : Calls Tryd.prog 73 #[.string s, .int .i64 (a : Int)] w fun e w' => e = .returned (.int .i64 (wordLen (s.data.toList.drop a) : Int)) ∧ w' = w := by
  have HL : Hid (s.data.toList.length = s.size) := (Lib.size_eq s).symm
  go_enter Tryd.func73, Tryd.ntmps73
  go_wp2
  go_loop [5] (fun n => ∃ k : Nat, a + k ≤ s.size ∧ n = .int .i64 ((a : Int) + (k : Int)) ∧ Hid (∀ i, i < k → okW (s.data.toList.getD (a + i) 0) i = true)) (fun n => s.size - (intOf n).toNat)
  case atStart => exact ⟨0, by omega, by go_num, fun i hi => by omega⟩
  case round =>
    obtain ⟨k, hk, rfl, hall⟩ := hrel
    by_cases hlt : a + k < s.size
    · have hlt' : (a : Int) + (k : Int) < (s.size : Int) := by omega
      have hg := getD_get s (a + k) hlt
      obtain ⟨c, hc⟩ : ∃ c, s[a + k]'hlt = c := ⟨_, rfl⟩
      rw [hc] at hg
      have Hnew : Hid (okW c k = true → Hid (∀ i, i < k + 1 → okW (s.data.toList.getD (a + i) 0) i = true)) := fun h i hi => by
        by_cases e : i = k
        · subst e; rw [hg]; exact h
        · exact hall.out i (by omega)
      have Hstop : Hid (okW c k = false → wordLen (s.data.toList.drop a) = k) := fun h =>
        wordLen_eq _ k (by rw [List.length_drop, HL.out]; omega) (fun i hi => by rw [drop_getD]; exact hall.out i hi) (.inr (by rw [drop_getD, hg]; exact h))
      have hl := fun W => refLetter c W
      have hd := fun W => refDigit c W
      have hi0 : (0 : Int) ≤ (a : Int) + (k : Int) := by omega
      clear hg hall
      cases h1 : letter c
      · rw [h1] at hl
        by_cases hk0 : k = 0
        · have hk' : ¬ (a : Int) < (a : Int) + (k : Int) := by omega
          have HO : Hid (okW c k = false) := by unfold Hid; rw [hk0, okW_zero]; exact h1
          clear hd h1 hk0
          go_wp2_with (go_at_call 92; refine (hl _).mono ?_; rintro e w2 ⟨rfl, h⟩; rw [h]; clear h w2)
          go_ret
          refine ⟨?_, rfl⟩
          rw [Hstop.out HO.out]
          go_num
        · have hk' : (a : Int) < (a : Int) + (k : Int) := by omega
          have hk0' : 0 < k := by omega
          cases h2 : digit c
          · rw [h2] at hd
            cases h3 : (c.toNat == 95)
            · have h3' : ((c.toNat : Int) == 95) = false := by rw [← eq_byte c 95] at h3; exact h3
              have HO : Hid (okW c k = false) := by unfold Hid okW; rw [h1, h2, h3]; simp
              clear h1 h2 h3
              go_wp2_with (first
                | (go_at_call 92; refine (hl _).mono ?_; rintro e w2 ⟨rfl, h⟩; rw [h]; clear h w2)
                | (go_at_call 93; refine (hd _).mono ?_; rintro e w2 ⟨rfl, h⟩; rw [h]; clear h w2))
              go_ret
              refine ⟨?_, rfl⟩
              rw [Hstop.out HO.out]
              go_num
            · have h3' : ((c.toNat : Int) == 95) = true := by rw [← eq_byte c 95] at h3; exact h3
              have HO : Hid (okW c k = true) := by unfold Hid okW; rw [h1, h2, h3]; simp [hk0']
              clear h1 h2 h3
              go_wp2_with (first
                | (go_at_call 92; refine (hl _).mono ?_; rintro e w2 ⟨rfl, h⟩; rw [h]; clear h w2)
                | (go_at_call 93; refine (hd _).mono ?_; rintro e w2 ⟨rfl, h⟩; rw [h]; clear h w2))
              go_round
              case rel => exact ⟨k + 1, by omega, by go_num, Hnew.out HO.out⟩
              case measure => simp [intOf]; omega
          · rw [h2] at hd
            have HO : Hid (okW c k = true) := by unfold Hid okW; rw [h1, h2]; simp [hk0']
            clear h1 h2
            go_wp2_with (first
              | (go_at_call 92; refine (hl _).mono ?_; rintro e w2 ⟨rfl, h⟩; rw [h]; clear h w2)
              | (go_at_call 93; refine (hd _).mono ?_; rintro e w2 ⟨rfl, h⟩; rw [h]; clear h w2))
            go_round
            case rel => exact ⟨k + 1, by omega, by go_num, Hnew.out HO.out⟩
            case measure => simp [intOf]; omega
      · rw [h1] at hl
        have HO : Hid (okW c k = true) := by unfold Hid okW; rw [h1]; rfl
        clear h1 hd
        go_wp2_with (go_at_call 92; refine (hl _).mono ?_; rintro e w2 ⟨rfl, h⟩; rw [h]; clear h w2)
        go_round
        case rel => exact ⟨k + 1, by omega, by go_num, Hnew.out HO.out⟩
        case measure => simp [intOf]; omega
    · have hlt' : ¬ (a : Int) + (k : Int) < (s.size : Int) := by omega
      have He : Hid (wordLen (s.data.toList.drop a) = k) := wordLen_eq _ k (by rw [List.length_drop, HL.out]; omega) (fun i hi => by rw [drop_getD]; exact hall.out i hi) (.inl (by rw [List.length_drop, HL.out]; omega))
      clear hall
      go_wp2
      go_ret
      refine ⟨?_, rfl⟩
      rw [He.out]
      go_num
/-! ### A number -/
end Go.Proofs.YtkieljleopbhoaaDoor.Lex
namespace Go.Proofs.YtkieljleopbhoaaDoor.Lex
open Go.RowKit
/-- The words of the language. -/
def resL : List ByteArray := [⟨#[115, 116, 97, 116, 105, 111, 110, 115]⟩, ⟨#[105, 110]⟩, ⟨#[97, 116]⟩, ⟨#[102, 108, 111, 119]⟩, ⟨#[100, 101, 102, 97, 117, 108, 116]⟩, ⟨#[111, 117, 116]⟩, ⟨#[105, 102]⟩, ⟨#[116, 104, 101, 110]⟩, ⟨#[101, 108, 115, 101]⟩, ⟨#[112, 114, 101]⟩, ⟨#[97, 110, 100]⟩, ⟨#[111, 114]⟩, ⟨#[110, 111, 116]⟩, ⟨#[116, 114, 117, 101]⟩, ⟨#[102, 97, 108, 115, 101]⟩, ⟨#[105, 110, 116]⟩, ⟨#[98, 111, 111, 108]⟩]
def resV : Array Value := #[.string ⟨#[115, 116, 97, 116, 105, 111, 110, 115]⟩, .string ⟨#[105, 110]⟩, .string ⟨#[97, 116]⟩, .string ⟨#[102, 108, 111, 119]⟩, .string ⟨#[100, 101, 102, 97, 117, 108, 116]⟩, .string ⟨#[111, 117, 116]⟩, .string ⟨#[105, 102]⟩, .string ⟨#[116, 104, 101, 110]⟩, .string ⟨#[101, 108, 115, 101]⟩, .string ⟨#[112, 114, 101]⟩, .string ⟨#[97, 110, 100]⟩, .string ⟨#[111, 114]⟩, .string ⟨#[110, 111, 116]⟩, .string ⟨#[116, 114, 117, 101]⟩, .string ⟨#[102, 97, 108, 115, 101]⟩, .string ⟨#[105, 110, 116]⟩, .string ⟨#[98, 111, 111, 108]⟩]
def resS (k : Nat) : ByteArray := resL.getD k ⟨#[]⟩
def isRes (s : ByteArray) : Bool := resL.any fun x => x.toList == s.toList
/-- The package's table of words stands as it is laid. -/
def TabR (w : World) : Prop := ∃ t fz, w.heap[3]? = some (.cells resV t fz)
theorem TabR.below {w w' : World} (h : TabR w) (hb : Below w.heap.size w w') : TabR w' := by
  obtain ⟨t, fz, h⟩ := h
  exact ⟨t, fz, (hb.block 3 (Array.getElem?_eq_some_iff.1 h).1).trans h⟩
theorem res_index_0 (w : World) : (Instr.index 129 (.agg resV) (.int .i64 0)).run Tryd.prog w = .ok (.string ⟨#[115, 116, 97, 116, 105, 111, 110, 115]⟩) w := by kernel_rfl
theorem res_index_1 (w : World) : (Instr.index 129 (.agg resV) (.int .i64 1)).run Tryd.prog w = .ok (.string ⟨#[105, 110]⟩) w := by kernel_rfl
theorem res_index_2 (w : World) : (Instr.index 129 (.agg resV) (.int .i64 2)).run Tryd.prog w = .ok (.string ⟨#[97, 116]⟩) w := by kernel_rfl
theorem res_index_3 (w : World) : (Instr.index 129 (.agg resV) (.int .i64 3)).run Tryd.prog w = .ok (.string ⟨#[102, 108, 111, 119]⟩) w := by kernel_rfl
theorem res_index_4 (w : World) : (Instr.index 129 (.agg resV) (.int .i64 4)).run Tryd.prog w = .ok (.string ⟨#[100, 101, 102, 97, 117, 108, 116]⟩) w := by kernel_rfl
theorem res_index_5 (w : World) : (Instr.index 129 (.agg resV) (.int .i64 5)).run Tryd.prog w = .ok (.string ⟨#[111, 117, 116]⟩) w := by kernel_rfl
theorem res_index_6 (w : World) : (Instr.index 129 (.agg resV) (.int .i64 6)).run Tryd.prog w = .ok (.string ⟨#[105, 102]⟩) w := by kernel_rfl
theorem res_index_7 (w : World) : (Instr.index 129 (.agg resV) (.int .i64 7)).run Tryd.prog w = .ok (.string ⟨#[116, 104, 101, 110]⟩) w := by kernel_rfl
theorem res_index_8 (w : World) : (Instr.index 129 (.agg resV) (.int .i64 8)).run Tryd.prog w = .ok (.string ⟨#[101, 108, 115, 101]⟩) w := by kernel_rfl
theorem res_index_9 (w : World) : (Instr.index 129 (.agg resV) (.int .i64 9)).run Tryd.prog w = .ok (.string ⟨#[112, 114, 101]⟩) w := by kernel_rfl
theorem res_index_10 (w : World) : (Instr.index 129 (.agg resV) (.int .i64 10)).run Tryd.prog w = .ok (.string ⟨#[97, 110, 100]⟩) w := by kernel_rfl
theorem res_index_11 (w : World) : (Instr.index 129 (.agg resV) (.int .i64 11)).run Tryd.prog w = .ok (.string ⟨#[111, 114]⟩) w := by kernel_rfl
theorem res_index_12 (w : World) : (Instr.index 129 (.agg resV) (.int .i64 12)).run Tryd.prog w = .ok (.string ⟨#[110, 111, 116]⟩) w := by kernel_rfl
theorem res_index_13 (w : World) : (Instr.index 129 (.agg resV) (.int .i64 13)).run Tryd.prog w = .ok (.string ⟨#[116, 114, 117, 101]⟩) w := by kernel_rfl
theorem res_index_14 (w : World) : (Instr.index 129 (.agg resV) (.int .i64 14)).run Tryd.prog w = .ok (.string ⟨#[102, 97, 108, 115, 101]⟩) w := by kernel_rfl
theorem res_index_15 (w : World) : (Instr.index 129 (.agg resV) (.int .i64 15)).run Tryd.prog w = .ok (.string ⟨#[105, 110, 116]⟩) w := by kernel_rfl
theorem res_index_16 (w : World) : (Instr.index 129 (.agg resV) (.int .i64 16)).run Tryd.prog w = .ok (.string ⟨#[98, 111, 111, 108]⟩) w := by kernel_rfl
theorem res_index (k : Nat) (hk : k < 17) (w : World) : (Instr.index 129 (.agg resV) (.int .i64 (k : Int))).run Tryd.prog w = .ok (.string (resS k)) w := by
  have h : k = 0 ∨ k = 1 ∨ k = 2 ∨ k = 3 ∨ k = 4 ∨ k = 5 ∨ k = 6 ∨ k = 7 ∨ k = 8 ∨ k = 9 ∨ k = 10 ∨ k = 11 ∨ k = 12 ∨ k = 13 ∨ k = 14 ∨ k = 15 ∨ k = 16 := by omega
  rcases h with rfl | rfl | rfl | rfl | rfl | rfl | rfl | rfl | rfl | rfl | rfl | rfl | rfl | rfl | rfl | rfl | rfl
  · exact res_index_0 w
  · exact res_index_1 w
  · exact res_index_2 w
  · exact res_index_3 w
  · exact res_index_4 w
  · exact res_index_5 w
  · exact res_index_6 w
  · exact res_index_7 w
  · exact res_index_8 w
  · exact res_index_9 w
  · exact res_index_10 w
  · exact res_index_11 w
  · exact res_index_12 w
  · exact res_index_13 w
  · exact res_index_14 w
  · exact res_index_15 w
  · exact res_index_16 w
theorem res_cell (k : Nat) (hk : k < 17) : resV[k]? = some (.string (resS k)) := by
  have h : k = 0 ∨ k = 1 ∨ k = 2 ∨ k = 3 ∨ k = 4 ∨ k = 5 ∨ k = 6 ∨ k = 7 ∨ k = 8 ∨ k = 9 ∨ k = 10 ∨ k = 11 ∨ k = 12 ∨ k = 13 ∨ k = 14 ∨ k = 15 ∨ k = 16 := by omega
  rcases h with rfl | rfl | rfl | rfl | rfl | rfl | rfl | rfl | rfl | rfl | rfl | rfl | rfl | rfl | rfl | rfl | rfl
  all_goals rfl
theorem isRes_true {s : ByteArray} (k : Nat) (hk : k < 17) (h : ((resS k).toList == s.toList) = true) : isRes s = true := by
  unfold isRes
  rw [List.any_eq_true]
  refine ⟨resS k, ?_, h⟩
  unfold resS
  rw [List.getD_eq_getElem?_getD, List.getElem?_eq_getElem (show k < resL.length from hk)]
  exact List.getElem_mem _
theorem isRes_false {s : ByteArray} (h : ∀ k, k < 17 → ((resS k).toList == s.toList) = false) : isRes s = false := by
  unfold isRes
  rw [List.any_eq_false]
  intro x hx hxs
  obtain ⟨k, hk, e⟩ := List.getElem_of_mem hx
  have := h k hk
  unfold resS at this
  rw [List.getD_eq_getElem?_getD, List.getElem?_eq_getElem hk, e] at this
  simp only [Option.getD_some] at this
  rw [this] at hxs
  cases hxs
theorem isReserved (s : ByteArray) (w : World) (hT : TabR w) : Calls Tryd.prog 91 #[.string s] w fun e w' => e = .returned (.bool (isRes s)) ∧ w' = w := by
  obtain ⟨t, fz, h0⟩ := hT
  go_enter Tryd.func91, Tryd.ntmps91
  go_wp2_with (refine wpList_load_row rfl 129 _ rfl 3 rfl t resV fz _ h0 Tryd.underlying129 rfl (by kernel_rfl) ?_)
  go_loop [6] (fun i => ∃ k : Nat, k ≤ 17 ∧ i = .int .i64 k ∧ Hid (∀ j, j < k → ((resS j).toList == s.toList) = false)) (fun i => 17 - (intOf i).toNat)
  case atStart => exact ⟨0, by omega, rfl, fun j hj => by omega⟩
  case round =>
    obtain ⟨k, hk, rfl, hall⟩ := hrel
    by_cases hlt : k < 17
    · have hlt' : (k : Int) < 17 := by omega
      have hx := fun W => res_index k hlt W
      generalize hv : resV = V at hx ⊢
      clear hv h0
      cases he : ((resS k).toList == s.toList)
      · have Hnew : Hid (∀ j, j < k + 1 → ((resS j).toList == s.toList) = false) := fun j hj => by
          by_cases e : j = k
          · rw [e]; exact he
          · exact hall.out j (by omega)
        go_wp2
        go_round
        case rel => exact ⟨k + 1, by omega, by go_num, Hnew⟩
        case measure => simp [intOf]; omega
      · have Hr : Hid (isRes s = true) := isRes_true k hlt he
        go_wp2
        go_ret
        exact ⟨by rw [Hr.out]; rfl, rfl⟩
    · have Hr : Hid (isRes s = false) := isRes_false fun j hj => hall.out j (by omega)
      have hlt' : ¬ (k : Int) < 17 := by omega
      go_wp2
      go_ret
      exact ⟨by rw [Hr.out]; rfl, rfl⟩
theorem size_list (s : ByteArray) : s.toList.length = s.size := by rw [ByteArray.toList_eq, ← Lib.size_eq]
theorem empty_yes {s : ByteArray} (h : s.size = 0) : s.toList.isEmpty = true := by
  rw [List.isEmpty_iff_length_eq_zero, size_list]; exact h
theorem empty_no {s : ByteArray} (h : ¬ s.size = 0) : s.toList.isEmpty = false := by
  cases he : s.toList.isEmpty with
  | false => rfl
  | true => rw [List.isEmpty_iff_length_eq_zero, size_list] at he; exact (h he).elim
/-- May a text be a name? -/
def isName (s : ByteArray) : Bool := decide (0 < s.size) && (decide (s.size ≤ 40) && (decide (wordLen s.data.toList = s.size) && !isRes s))
theorem name (s : ByteArray) (w : World) (hT : TabR w) : Calls Tryd.prog 71 #[.string s] w fun e w' => e = .returned (.bool (isName s)) ∧ Below w.heap.size w w' := by
  have hw := wordLength s w
  have hr := fun W hT => isReserved s W hT
  unfold isName
  generalize wordLen s.data.toList = n at hw
  generalize isRes s = r at hr
  by_cases h0 : s.size = 0
  · have he : s.toList.isEmpty = true := empty_yes h0
    have Hz : Hid (decide (0 < s.size) = false) := decide_eq_false (by omega)
    clear h0
    go_enter Tryd.func71, Tryd.ntmps71
    go_wp2
    go_ret
    exact ⟨by rw [Hz.out]; simp, Below.refl _ _⟩
  · have he : s.toList.isEmpty = false := empty_no h0
    have Hz : Hid (decide (0 < s.size) = true) := decide_eq_true (by omega)
    by_cases h40 : s.size ≤ 40
    · have h40' : (s.size : Int) ≤ 40 := by omega
      have H40 : Hid (decide (s.size ≤ 40) = true) := decide_eq_true h40
      by_cases hn : n = s.size
      · have hn' : ((n : Int) == (s.size : Int)) = true := by simp [hn]
        have Hn : Hid (decide (n = s.size) = true) := decide_eq_true hn
        clear h0 hn
        go_enter Tryd.func71, Tryd.ntmps71
        go_wp2_with (first
          | (go_at_call 52; refine hw.mono ?_; rintro e w2 ⟨rfl, hk2⟩)
          | (go_at_call 91; refine (hr w2 (hT.below hk2)).mono ?_; rintro e w3 ⟨rfl, h3⟩; rw [h3]; clear h3 w3))
        go_ret
        exact ⟨by rw [Hz.out, H40.out, Hn.out]; simp, hk2⟩
      · have hn' : ((n : Int) == (s.size : Int)) = false := by simp; omega
        have Hn : Hid (decide (n = s.size) = false) := decide_eq_false hn
        clear h0 hn
        go_enter Tryd.func71, Tryd.ntmps71
        go_wp2_with (go_at_call 52; refine hw.mono ?_; rintro e w2 ⟨rfl, hk2⟩)
        go_ret
        exact ⟨by rw [Hz.out, H40.out, Hn.out]; simp, hk2⟩
    · have h40' : ¬ (s.size : Int) ≤ 40 := by omega
      have H40 : Hid (decide (s.size ≤ 40) = false) := decide_eq_false h40
      clear h0 h40
      go_enter Tryd.func71, Tryd.ntmps71
      go_wp2
      go_ret
      exact ⟨by rw [Hz.out, H40.out]; simp, Below.refl _ _⟩
theorem refName (s : ByteArray) (w : World) (hs : s.size ≤ 140737488355328) : Calls Tryd.prog 50 #[.string s] w fun e w' => e = .returned (.bool (isName s)) ∧ Below w.heap.size w w' := by
  have hw := refWord s 0 w (Nat.zero_le _) hs
  rw [List.drop_zero] at hw
  unfold isName
  generalize wordLen s.data.toList = n at hw
  by_cases h0 : s.size = 0
  · have he : s.toList.isEmpty = true := empty_yes h0
    have Hz : Hid (decide (0 < s.size) = false) := decide_eq_false (by omega)
    clear h0
    go_enter Tryd.func50, Tryd.ntmps50
    go_wp2
    go_ret
    exact ⟨by rw [Hz.out]; simp, Below.refl _ _⟩
  · have he : s.toList.isEmpty = false := empty_no h0
    have Hz : Hid (decide (0 < s.size) = true) := decide_eq_true (by omega)
    by_cases h40 : s.size ≤ 40
    · have h40' : ¬ (40 : Int) < (s.size : Int) := by omega
      have H40 : Hid (decide (s.size ≤ 40) = true) := decide_eq_true h40
      by_cases hn : n = s.size
      · have hn' : ((n : Int) != (s.size : Int)) = false := by simp [hn]
        have Hn : Hid (decide (n = s.size) = true) := decide_eq_true hn
        clear h0 hn
        go_enter Tryd.func50, Tryd.ntmps50
        go_wp2_with (go_at_call 73; refine hw.mono ?_; rintro e w2 ⟨rfl, h2⟩; rw [h2]; clear h2 w2)
        have hc : ∀ k, k < 17 → (w.alloc (.cells resV 9)).cell? ⟨w.heap.size, k, none⟩ = some (.string (resS k)) := fun k hk => by
          rw [World.cell?_alloc_at _ _ _ _ rfl]
          exact res_cell k hk
        have hb : Below w.heap.size w (w.alloc (.cells resV 9)) := (Below.refl _ _).alloc (Nat.le_refl _) _
        have HC : Hid (∀ k, k < 17 → (w.alloc (.cells resV 9)).cell? ⟨w.heap.size, k, none⟩ = some (.string (resS k))) := hc
        clear hc
        have eV : resV = #[.string ⟨#[115, 116, 97, 116, 105, 111, 110, 115]⟩, .string ⟨#[105, 110]⟩, .string ⟨#[97, 116]⟩, .string ⟨#[102, 108, 111, 119]⟩, .string ⟨#[100, 101, 102, 97, 117, 108, 116]⟩, .string ⟨#[111, 117, 116]⟩, .string ⟨#[105, 102]⟩, .string ⟨#[116, 104, 101, 110]⟩, .string ⟨#[101, 108, 115, 101]⟩, .string ⟨#[112, 114, 101]⟩, .string ⟨#[97, 110, 100]⟩, .string ⟨#[111, 114]⟩, .string ⟨#[110, 111, 116]⟩, .string ⟨#[116, 114, 117, 101]⟩, .string ⟨#[102, 97, 108, 115, 101]⟩, .string ⟨#[105, 110, 116]⟩, .string ⟨#[98, 111, 111, 108]⟩] := rfl
        rw [← eV]
        clear eV
        generalize w.alloc (.cells resV 9) = W1 at HC hb ⊢
        go_loop [4] (fun i => ∃ k : Nat, k ≤ 17 ∧ i = .int .i64 k ∧ Hid (∀ j, j < k → ((resS j).toList == s.toList) = false)) (fun i => 17 - (intOf i).toNat)
        case atStart => exact ⟨0, by omega, rfl, fun j hj => by omega⟩
        case round =>
          obtain ⟨k, hk, rfl, hall⟩ := hrel
          by_cases hlt : k < 17
          · have hlt' : (k : Int) < 17 := by omega
            have hk0 : (0 : Int) ≤ (k : Int) := by omega
            have hx := HC.out k hlt
            cases hq : ((resS k).toList == s.toList)
            · have Hnew : Hid (∀ j, j < k + 1 → ((resS j).toList == s.toList) = false) := fun j hj => by
                by_cases e : j = k
                · rw [e]; exact hq
                · exact hall.out j (by omega)
              go_wp2
              go_round
              case rel => exact ⟨k + 1, by omega, by go_num, Hnew⟩
              case measure => simp [intOf]; omega
            · have Hr : Hid (isRes s = true) := isRes_true k hlt hq
              go_wp2
              go_ret
              exact ⟨by rw [Hr.out]; simp, hb⟩
          · have Hr : Hid (isRes s = false) := isRes_false fun j hj => hall.out j (by omega)
            have hlt' : ¬ (k : Int) < 17 := by omega
            go_wp2
            go_ret
            exact ⟨by rw [Hr.out, Hz.out, Hn.out]; rfl, hb⟩
      · have hn' : ((n : Int) != (s.size : Int)) = true := by simp; omega
        have Hn : Hid (decide (n = s.size) = false) := decide_eq_false hn
        clear h0 hn
        go_enter Tryd.func50, Tryd.ntmps50
        go_wp2_with (go_at_call 73; refine hw.mono ?_; rintro e w2 ⟨rfl, h2⟩; rw [h2]; clear h2 w2)
        go_ret
        exact ⟨by rw [Hz.out, H40.out, Hn.out]; simp, Below.refl _ _⟩
    · have h40' : (40 : Int) < (s.size : Int) := by omega
      have H40 : Hid (decide (s.size ≤ 40) = false) := decide_eq_false h40
      clear h0 h40
      go_enter Tryd.func50, Tryd.ntmps50
      go_wp2
      go_ret
      exact ⟨by rw [Hz.out, H40.out]; simp, Below.refl _ _⟩
end Go.Proofs.YtkieljleopbhoaaDoor.Lex
namespace Go.Proofs
open Go.Shelf
def Tryd.lays121_ren : Go.Shelf.Ren := ⟨fun | 121 => 40 | 214 => 68 | n => n, fun | 4 => 4 | 9 => 9 | n => n, fun | n => n⟩
theorem Tryd.lays121 : Go.Proofs.Lays.n121 Tryd.prog Tryd.lays121_ren := {
  mixed := by kernel_rfl
  f121 := Tryd.func40.trans (congrArg some (by kernel_rfl))
  f214 := Tryd.func68.trans (congrArg some (by kernel_rfl))
  t4 := Tryd.underlying4
  a4 := Tryd.isAgg4
  z4 := Tryd.sizeOf4
  v4 := Tryd.zeroValue4
  t9 := Tryd.underlying9
  a9 := Tryd.isAgg9
  z9 := Tryd.sizeOf9
  v9 := Tryd.zeroValue9 }
open Go.RowKit in
theorem Tryd.strconv_FormatBool (b : Bool) (w : World) :
    Calls Tryd.prog 40 #[.bool b] w fun e w' => e = .returned (.string ⟨(Lib.formatBool b).toArray⟩) ∧ w' = w := Any.strconv_FormatBool Tryd.lays121 b w
def Tryd.laysM173_ren : Go.Shelf.Ren := ⟨fun | 173 => 39 | 246 => 67 | 283 => 86 | 284 => 87 | 285 => 88 | 286 => 89 | 129 => 96 | 317 => 95 | 318 => 97 | 319 => 98 | 320 => 99 | 337 => 102 | 338 => 103 | n => n, fun | 2 => 2 | 3 => 3 | 9 => 9 | 4 => 4 | 171 => 109 | 0 => 0 | 53 => 110 | 37 => 106 | 5 => 5 | 173 => 113 | 212 => 123 | 51 => 124 | 20 => 20 | 213 => 125 | 46 => 127 | 232 => 138 | 233 => 139 | n => n, fun | 17 => 2 | 18 => 4 | 19 => 5 | n => n⟩
theorem Tryd.laysM173 : Go.Proofs.LaysM.n173 Tryd.prog Tryd.laysM173_ren := {
  mixed := by kernel_rfl
  f129 := Tryd.func96.trans (congrArg some (by kernel_rfl))
  f173 := Tryd.func39.trans (congrArg some (by kernel_rfl))
  f246 := Tryd.func67.trans (congrArg some (by kernel_rfl))
  f283 := Tryd.func86.trans (congrArg some (by kernel_rfl))
  f284 := Tryd.func87.trans (congrArg some (by kernel_rfl))
  f285 := Tryd.func88.trans (congrArg some (by kernel_rfl))
  f286 := Tryd.func89.trans (congrArg some (by kernel_rfl))
  f317 := Tryd.func95.trans (congrArg some (by kernel_rfl))
  f318 := Tryd.func97.trans (congrArg some (by kernel_rfl))
  f319 := Tryd.func98.trans (congrArg some (by kernel_rfl))
  f320 := Tryd.func99.trans (congrArg some (by kernel_rfl))
  f337 := Tryd.func102.trans (congrArg some (by kernel_rfl))
  f338 := Tryd.func103.trans (congrArg some (by kernel_rfl))
  t0 := Tryd.underlying0
  a0 := Tryd.isAgg0
  z0 := Tryd.sizeOf0
  v0 := Tryd.zeroValue0
  t2 := Tryd.underlying2
  a2 := Tryd.isAgg2
  z2 := Tryd.sizeOf2
  v2 := Tryd.zeroValue2
  t3 := Tryd.underlying3
  a3 := Tryd.isAgg3
  z3 := Tryd.sizeOf3
  v3 := Tryd.zeroValue3
  t4 := Tryd.underlying4
  a4 := Tryd.isAgg4
  z4 := Tryd.sizeOf4
  v4 := Tryd.zeroValue4
  t5 := Tryd.underlying5
  a5 := Tryd.isAgg5
  z5 := Tryd.sizeOf5
  v5 := Tryd.zeroValue5
  t9 := Tryd.underlying9
  a9 := Tryd.isAgg9
  z9 := Tryd.sizeOf9
  v9 := Tryd.zeroValue9
  t20 := Tryd.underlying20
  a20 := Tryd.isAgg20
  z20 := Tryd.sizeOf20
  v20 := Tryd.zeroValue20
  t37 := Tryd.underlying106
  a37 := Tryd.isAgg106
  z37 := Tryd.sizeOf106
  v37 := Tryd.zeroValue106
  t46 := Tryd.underlying127
  a46 := Tryd.isAgg127
  z46 := Tryd.sizeOf127
  v46 := Tryd.zeroValue127
  t51 := Tryd.underlying124
  a51 := Tryd.isAgg124
  z51 := Tryd.sizeOf124
  v51 := Tryd.zeroValue124
  t53 := Tryd.underlying110
  a53 := Tryd.isAgg110
  z53 := Tryd.sizeOf110
  v53 := Tryd.zeroValue110
  t171 := Tryd.underlying109
  a171 := Tryd.isAgg109
  z171 := Tryd.sizeOf109
  v171 := Tryd.zeroValue109
  t173 := Tryd.underlying113
  a173 := Tryd.isAgg113
  z173 := Tryd.sizeOf113
  v173 := Tryd.zeroValue113
  t212 := Tryd.underlying123
  a212 := Tryd.isAgg123
  z212 := Tryd.sizeOf123
  v212 := Tryd.zeroValue123
  t213 := Tryd.underlying125
  a213 := Tryd.isAgg125
  z213 := Tryd.sizeOf125
  t232 := Tryd.underlying138
  a232 := Tryd.isAgg138
  z232 := Tryd.sizeOf138
  v232 := Tryd.zeroValue138
  t233 := Tryd.underlying139
  a233 := Tryd.isAgg139
  z233 := Tryd.sizeOf139
  v233 := Tryd.zeroValue139
  g17 := by kernel_rfl
  g18 := by kernel_rfl
  g19 := by kernel_rfl
  i0 := by kernel_rfl
  i2 := by kernel_rfl
  i3 := by kernel_rfl
  i4 := by kernel_rfl
  i5 := by kernel_rfl
  i9 := by kernel_rfl
  i20 := by kernel_rfl
  i37 := by kernel_rfl
  i46 := by kernel_rfl
  i51 := by kernel_rfl
  i53 := by kernel_rfl
  i171 := by kernel_rfl
  i173 := by kernel_rfl
  i212 := by kernel_rfl
  i232 := by kernel_rfl
  i233 := by kernel_rfl
  m17 := by kernel_rfl
  m18 := by kernel_rfl
  m19 := by kernel_rfl }
open Go.RowKit Go.Sort Go.Lib in
theorem Tryd.strconv_FormatInt_10 (n : Int) (h0 : -9223372036854775808 ≤ n) (h1 : n ≤ 9223372036854775807) (w : World) (htab : Lib.TabIs Tryd.prog w "internal/strconv.uint64pow10" .u64 Lib.pow10Tab) :
    Calls Tryd.prog 39 #[.int .i64 n, .int .i64 10] w fun e w' => e = .returned (.string ⟨(Lib.itoa n).toArray⟩) ∧ ∃ k os, w' = grow (w.drewN k) os := Any.strconv_FormatInt_10 Tryd.laysM173 n h0 h1 w htab
def Tryd.laysM316_ren : Go.Shelf.Ren := ⟨fun | 316 => 66 | n => n, fun | 9 => 9 | 3 => 3 | 4 => 4 | 37 => 106 | 0 => 0 | 127 => 107 | 5 => 5 | n => n, fun | n => n⟩
theorem Tryd.laysM316 : Go.Proofs.LaysM.n316 Tryd.prog Tryd.laysM316_ren := {
  mixed := by kernel_rfl
  f316 := Tryd.func66.trans (congrArg some (by kernel_rfl))
  t0 := Tryd.underlying0
  a0 := Tryd.isAgg0
  z0 := Tryd.sizeOf0
  v0 := Tryd.zeroValue0
  t3 := Tryd.underlying3
  a3 := Tryd.isAgg3
  z3 := Tryd.sizeOf3
  v3 := Tryd.zeroValue3
  t4 := Tryd.underlying4
  a4 := Tryd.isAgg4
  z4 := Tryd.sizeOf4
  v4 := Tryd.zeroValue4
  t9 := Tryd.underlying9
  a9 := Tryd.isAgg9
  z9 := Tryd.sizeOf9
  v9 := Tryd.zeroValue9
  t37 := Tryd.underlying106
  a37 := Tryd.isAgg106
  z37 := Tryd.sizeOf106
  v37 := Tryd.zeroValue106
  t127 := Tryd.underlying107
  a127 := Tryd.isAgg107
  z127 := Tryd.sizeOf107
  v127 := Tryd.zeroValue107
  t5 := Tryd.underlying5
  a5 := Tryd.isAgg5
  z5 := Tryd.sizeOf5
  v5 := Tryd.zeroValue5
  i0 := by kernel_rfl
  i3 := by kernel_rfl
  i4 := by kernel_rfl
  i5 := by kernel_rfl
  i9 := by kernel_rfl
  i37 := by kernel_rfl
  i127 := by kernel_rfl }
open Go.RowKit in
theorem Tryd.stringslite_Clone (s : ByteArray) (w : World) (hlim : s.size ≤ 281474976710656) :
    Calls Tryd.prog 66 #[.string s] w fun e w' => e = .returned (.string s) ∧ Below w.heap.size w w' := Any.stringslite_Clone Tryd.laysM316 s w hlim
def Tryd.laysC174_ren : Go.Shelf.Ren := ⟨fun | 174 => 94 | 247 => 100 | 245 => 101 | 287 => 104 | 279 => 105 | 280 => 106 | 281 => 107 | 282 => 108 | 321 => 109 | 322 => 110 | 316 => 66 | 171 => 112 | 205 => 111 | 243 => 113 | 246 => 67 | 283 => 86 | 284 => 87 | 285 => 88 | 286 => 89 | 129 => 96 | 317 => 95 | 318 => 97 | 319 => 98 | 320 => 99 | 337 => 102 | 338 => 103 | n => n, fun | 9 => 9 | 3 => 3 | 2 => 2 | 75 => 117 | 85 => 118 | 4 => 4 | 167 => 132 | 5 => 5 | 53 => 110 | 175 => 133 | 46 => 127 | 168 => 135 | 37 => 106 | 0 => 0 | 210 => 142 | 21 => 21 | 127 => 107 | 145 => 146 | 143 => 144 | 171 => 109 | 173 => 113 | 212 => 123 | 51 => 124 | 20 => 20 | 213 => 125 | 232 => 138 | 233 => 139 | 80 => 147 | n => n, fun | 15 => 6 | 16 => 7 | 17 => 2 | 18 => 4 | 19 => 5 | n => n⟩
theorem Tryd.laysC174 : Go.Proofs.LaysC.n174 Tryd.prog Tryd.laysC174_ren := {
  mixed := by kernel_rfl
  f129 := Tryd.func96.trans (congrArg some (by kernel_rfl))
  f171 := Tryd.func112.trans (congrArg some (by kernel_rfl))
  f174 := Tryd.func94.trans (congrArg some (by kernel_rfl))
  f205 := Tryd.func111.trans (congrArg some (by kernel_rfl))
  f243 := Tryd.func113.trans (congrArg some (by kernel_rfl))
  f245 := Tryd.func101.trans (congrArg some (by kernel_rfl))
  f246 := Tryd.func67.trans (congrArg some (by kernel_rfl))
  f247 := Tryd.func100.trans (congrArg some (by kernel_rfl))
  f279 := Tryd.func105.trans (congrArg some (by kernel_rfl))
  f280 := Tryd.func106.trans (congrArg some (by kernel_rfl))
  f281 := Tryd.func107.trans (congrArg some (by kernel_rfl))
  f282 := Tryd.func108.trans (congrArg some (by kernel_rfl))
  f283 := Tryd.func86.trans (congrArg some (by kernel_rfl))
  f284 := Tryd.func87.trans (congrArg some (by kernel_rfl))
  f285 := Tryd.func88.trans (congrArg some (by kernel_rfl))
  f286 := Tryd.func89.trans (congrArg some (by kernel_rfl))
  f287 := Tryd.func104.trans (congrArg some (by kernel_rfl))
  f316 := Tryd.func66.trans (congrArg some (by kernel_rfl))
  f317 := Tryd.func95.trans (congrArg some (by kernel_rfl))
  f318 := Tryd.func97.trans (congrArg some (by kernel_rfl))
  f319 := Tryd.func98.trans (congrArg some (by kernel_rfl))
  f320 := Tryd.func99.trans (congrArg some (by kernel_rfl))
  f321 := Tryd.func109.trans (congrArg some (by kernel_rfl))
  f322 := Tryd.func110.trans (congrArg some (by kernel_rfl))
  f337 := Tryd.func102.trans (congrArg some (by kernel_rfl))
  f338 := Tryd.func103.trans (congrArg some (by kernel_rfl))
  t0 := Tryd.underlying0
  a0 := Tryd.isAgg0
  z0 := Tryd.sizeOf0
  v0 := Tryd.zeroValue0
  t2 := Tryd.underlying2
  a2 := Tryd.isAgg2
  z2 := Tryd.sizeOf2
  v2 := Tryd.zeroValue2
  t3 := Tryd.underlying3
  a3 := Tryd.isAgg3
  z3 := Tryd.sizeOf3
  v3 := Tryd.zeroValue3
  t4 := Tryd.underlying4
  a4 := Tryd.isAgg4
  z4 := Tryd.sizeOf4
  v4 := Tryd.zeroValue4
  t5 := Tryd.underlying5
  a5 := Tryd.isAgg5
  z5 := Tryd.sizeOf5
  v5 := Tryd.zeroValue5
  t9 := Tryd.underlying9
  a9 := Tryd.isAgg9
  z9 := Tryd.sizeOf9
  v9 := Tryd.zeroValue9
  t20 := Tryd.underlying20
  a20 := Tryd.isAgg20
  z20 := Tryd.sizeOf20
  v20 := Tryd.zeroValue20
  t21 := Tryd.underlying21
  a21 := Tryd.isAgg21
  z21 := Tryd.sizeOf21
  v21 := Tryd.zeroValue21
  t37 := Tryd.underlying106
  a37 := Tryd.isAgg106
  z37 := Tryd.sizeOf106
  v37 := Tryd.zeroValue106
  t46 := Tryd.underlying127
  a46 := Tryd.isAgg127
  z46 := Tryd.sizeOf127
  v46 := Tryd.zeroValue127
  t51 := Tryd.underlying124
  a51 := Tryd.isAgg124
  z51 := Tryd.sizeOf124
  v51 := Tryd.zeroValue124
  t53 := Tryd.underlying110
  a53 := Tryd.isAgg110
  z53 := Tryd.sizeOf110
  v53 := Tryd.zeroValue110
  t75 := Tryd.underlying117
  a75 := Tryd.isAgg117
  z75 := Tryd.sizeOf117
  v75 := Tryd.zeroValue117
  t85 := Tryd.underlying118
  a85 := Tryd.isAgg118
  z85 := Tryd.sizeOf118
  v85 := Tryd.zeroValue118
  t127 := Tryd.underlying107
  a127 := Tryd.isAgg107
  z127 := Tryd.sizeOf107
  v127 := Tryd.zeroValue107
  t143 := Tryd.underlying144
  a143 := Tryd.isAgg144
  z143 := Tryd.sizeOf144
  v143 := Tryd.zeroValue144
  t145 := Tryd.underlying146
  a145 := Tryd.isAgg146
  z145 := Tryd.sizeOf146
  v145 := Tryd.zeroValue146
  t167 := Tryd.underlying132
  a167 := Tryd.isAgg132
  z167 := Tryd.sizeOf132
  v167 := Tryd.zeroValue132
  t168 := Tryd.underlying135
  a168 := Tryd.isAgg135
  z168 := Tryd.sizeOf135
  v168 := Tryd.zeroValue135
  t171 := Tryd.underlying109
  a171 := Tryd.isAgg109
  z171 := Tryd.sizeOf109
  v171 := Tryd.zeroValue109
  t173 := Tryd.underlying113
  a173 := Tryd.isAgg113
  z173 := Tryd.sizeOf113
  v173 := Tryd.zeroValue113
  t175 := Tryd.underlying133
  a175 := Tryd.isAgg133
  z175 := Tryd.sizeOf133
  v175 := Tryd.zeroValue133
  t210 := Tryd.underlying142
  a210 := Tryd.isAgg142
  z210 := Tryd.sizeOf142
  v210 := Tryd.zeroValue142
  t212 := Tryd.underlying123
  a212 := Tryd.isAgg123
  z212 := Tryd.sizeOf123
  v212 := Tryd.zeroValue123
  t213 := Tryd.underlying125
  a213 := Tryd.isAgg125
  z213 := Tryd.sizeOf125
  t232 := Tryd.underlying138
  a232 := Tryd.isAgg138
  z232 := Tryd.sizeOf138
  v232 := Tryd.zeroValue138
  t233 := Tryd.underlying139
  a233 := Tryd.isAgg139
  z233 := Tryd.sizeOf139
  v233 := Tryd.zeroValue139
  g15 := by kernel_rfl
  g16 := by kernel_rfl
  g17 := by kernel_rfl
  g18 := by kernel_rfl
  g19 := by kernel_rfl
  t80 := Tryd.underlying147
  a80 := Tryd.isAgg147
  z80 := Tryd.sizeOf147
  v80 := Tryd.zeroValue147
  i0 := by kernel_rfl
  i2 := by kernel_rfl
  i3 := by kernel_rfl
  i4 := by kernel_rfl
  i5 := by kernel_rfl
  i9 := by kernel_rfl
  i20 := by kernel_rfl
  i21 := by kernel_rfl
  i37 := by kernel_rfl
  i46 := by kernel_rfl
  i51 := by kernel_rfl
  i53 := by kernel_rfl
  i75 := by kernel_rfl
  i80 := by kernel_rfl
  i85 := by kernel_rfl
  i127 := by kernel_rfl
  i143 := by kernel_rfl
  i145 := by kernel_rfl
  i167 := by kernel_rfl
  i168 := by kernel_rfl
  i171 := by kernel_rfl
  i173 := by kernel_rfl
  i175 := by kernel_rfl
  i210 := by kernel_rfl
  i212 := by kernel_rfl
  i232 := by kernel_rfl
  i233 := by kernel_rfl
  m15 := by kernel_rfl
  m16 := by kernel_rfl
  m17 := by kernel_rfl
  m18 := by kernel_rfl
  m19 := by kernel_rfl
  c0 := by kernel_rfl
  c2 := by kernel_rfl
  c3 := by kernel_rfl
  c4 := by kernel_rfl
  c5 := by kernel_rfl
  c9 := by kernel_rfl
  c20 := by kernel_rfl
  c21 := by kernel_rfl
  c37 := by kernel_rfl
  c46 := by kernel_rfl
  c51 := by kernel_rfl
  c53 := by kernel_rfl
  c75 := by kernel_rfl
  c80 := by kernel_rfl
  c85 := by kernel_rfl
  c127 := by kernel_rfl
  c143 := by kernel_rfl
  c145 := by kernel_rfl
  c167 := by kernel_rfl
  c168 := by kernel_rfl
  c171 := by kernel_rfl
  c173 := by kernel_rfl
  c175 := by kernel_rfl
  c210 := by kernel_rfl
  c212 := by kernel_rfl
  c213 := by kernel_rfl
  c232 := by kernel_rfl
  c233 := by kernel_rfl }
open Go.RowKit in
theorem Tryd.strconv_ParseInt_10_at64_ok (s : ByteArray) (hmax : s.size ≤ 9223372036854775806) (v : Int) (h : Lib.parseIntB 64 s.data.toList = .ok v) (w : World) :
    Calls Tryd.prog 94 #[.string s, .int .i64 10, .int .i64 64] w fun e w' => e = .returned (.tuple #[.int .i64 v, .nilIface]) ∧ (w' = w ∨ ∃ t, w' = Lib.bytesWorld w 5 t) := Any.strconv_ParseInt_10_at64_ok Tryd.laysC174 s hmax v h w
open Go.RowKit in
theorem Tryd.strconv_ParseInt_10_at64_range_var (s : ByteArray) (hlim : s.size ≤ 281474976710656) (h : Lib.parseIntB 64 s.data.toList = .range) (tp : TypeId) (p : Value) (w : World) (hvar : w.var? Tryd.prog "strconv.ErrRange" = some #[.iface tp p]) :
    Calls Tryd.prog 94 #[.string s, .int .i64 10, .int .i64 64] w fun e w' => ∃ N, e = .returned (.tuple #[.int .i64 (Lib.intSat 64 s.data.toList), .iface 135 (.pointer (some ⟨N, 0, none⟩))]) ∧ w.heap.size ≤ N ∧ w'.heap[N]? = some (.cells #[.string ⟨#[80, 97, 114, 115, 101, 73, 110, 116]⟩, .string s, .iface tp p] 142 (0, 0)) ∧ Below w.heap.size w w' := Any.strconv_ParseInt_10_at64_range_var Tryd.laysC174 s hlim h tp p w hvar
def Tryd.lays206_ren : Go.Shelf.Ren := ⟨fun | 206 => 90 | n => n, fun | 9 => 9 | 4 => 4 | 3 => 3 | n => n, fun | n => n⟩
theorem Tryd.lays206 : Go.Proofs.Lays.n206 Tryd.prog Tryd.lays206_ren := {
  mixed := by kernel_rfl
  f206 := Tryd.func90.trans (congrArg some (by kernel_rfl))
  t3 := Tryd.underlying3
  a3 := Tryd.isAgg3
  z3 := Tryd.sizeOf3
  v3 := Tryd.zeroValue3
  t4 := Tryd.underlying4
  a4 := Tryd.isAgg4
  z4 := Tryd.sizeOf4
  v4 := Tryd.zeroValue4
  t9 := Tryd.underlying9
  a9 := Tryd.isAgg9
  z9 := Tryd.sizeOf9
  v9 := Tryd.zeroValue9 }
open Go.RowKit Go.Lib in
theorem Tryd.stringslite_HasPrefix (s p : ByteArray) (w : World) :
    Calls Tryd.prog 90 #[.string s, .string p] w fun e w' => e = .returned (.bool (Lib.hasPrefix s.data.toList p.data.toList)) ∧ w' = w := Any.stringslite_HasPrefix Tryd.lays206 s p w
def Tryd.lays99_ren : Go.Shelf.Ren := ⟨fun | 99 => 69 | 206 => 90 | n => n, fun | 9 => 9 | 4 => 4 | 3 => 3 | n => n, fun | n => n⟩
theorem Tryd.lays99 : Go.Proofs.Lays.n99 Tryd.prog Tryd.lays99_ren := {
  mixed := by kernel_rfl
  f99 := Tryd.func69.trans (congrArg some (by kernel_rfl))
  f206 := Tryd.func90.trans (congrArg some (by kernel_rfl))
  t3 := Tryd.underlying3
  a3 := Tryd.isAgg3
  z3 := Tryd.sizeOf3
  v3 := Tryd.zeroValue3
  t4 := Tryd.underlying4
  a4 := Tryd.isAgg4
  z4 := Tryd.sizeOf4
  v4 := Tryd.zeroValue4
  t9 := Tryd.underlying9
  a9 := Tryd.isAgg9
  z9 := Tryd.sizeOf9
  v9 := Tryd.zeroValue9 }
open Go.RowKit Go.Lib in
theorem Tryd.strings_HasPrefix (s p : ByteArray) (w : World) :
    Calls Tryd.prog 69 #[.string s, .string p] w fun e w' => e = .returned (.bool (Lib.hasPrefix s.data.toList p.data.toList)) ∧ w' = w := Any.strings_HasPrefix Tryd.lays99 s p w
end Go.Proofs
namespace Go.Proofs.YtkieljleopbhoaaDoor.Lex
open Go.RowKit
/-- What digits spell behind what others before them did, if it is no more than may be. -/
def mag (acc : Nat) : List UInt8 → Option Nat
  | [] => some acc
  | c :: r => if 9223372036854775807 < acc * 10 + (c.toNat - 48) then none else mag (acc * 10 + (c.toNat - 48)) r
theorem mag_le : ∀ (l : List UInt8) (acc v : Nat), mag acc l = some v → acc ≤ v
  | [], acc, v, h => by simp only [mag] at h; injection h with h; omega
  | c :: r, acc, v, h => by
    simp only [mag] at h
    split at h
    · cases h
    · have := mag_le r _ v h; omega
theorem parse_some : ∀ (l : List UInt8) (acc v : Nat), (∀ c ∈ l, digit c = true) → mag acc l = some v → Lib.parseUint10 acc l = .ok v
  | [], acc, v, _, h => by simp only [mag] at h; injection h with h; rw [h]; rfl
  | c :: r, acc, v, hd, h => by
    have hc := hd c (List.mem_cons_self ..)
    unfold digit at hc
    simp at hc
    simp only [mag] at h
    split at h
    · cases h
    · next hn =>
      simp only [Lib.parseUint10]
      rw [if_pos hc, if_neg (by omega), if_neg (by omega)]
      exact parse_some r _ v (fun x hx => hd x (List.mem_cons_of_mem _ hx)) h
theorem parse_ge : ∀ (l : List UInt8) (acc u : Nat), Lib.parseUint10 acc l = .ok u → acc ≤ u
  | [], acc, u, h => by simp only [Lib.parseUint10] at h; injection h with h; omega
  | c :: r, acc, u, h => by
    simp only [Lib.parseUint10] at h
    split at h
    · split at h
      · cases h
      · split at h
        · cases h
        · have := parse_ge r _ u h; omega
    · cases h
theorem nosyn : ∀ (l : List UInt8) (acc : Nat), (∀ c ∈ l, digit c = true) → (∃ u, Lib.parseUint10 acc l = .ok u) ∨ Lib.parseUint10 acc l = .range
  | [], acc, _ => .inl ⟨acc, by simp [Lib.parseUint10]⟩
  | c :: r, acc, hd => by
    have hc := hd c (List.mem_cons_self ..)
    unfold digit at hc
    simp at hc
    simp only [Lib.parseUint10]
    rw [if_pos hc]
    split
    · exact .inr rfl
    · split
      · exact .inr rfl
      · exact nosyn r _ fun x hx => hd x (List.mem_cons_of_mem _ hx)
theorem parse_none : ∀ (l : List UInt8) (acc : Nat), (∀ c ∈ l, digit c = true) → mag acc l = none → Lib.parseUint10 acc l = .range ∨ ∃ u, Lib.parseUint10 acc l = .ok u ∧ 9223372036854775808 ≤ u
  | [], acc, _, h => by simp only [mag] at h; cases h
  | c :: r, acc, hd, h => by
    have hc := hd c (List.mem_cons_self ..)
    have hr : ∀ x ∈ r, digit x = true := fun x hx => hd x (List.mem_cons_of_mem _ hx)
    unfold digit at hc
    simp at hc
    simp only [mag] at h
    simp only [Lib.parseUint10]
    rw [if_pos hc]
    split at h
    · next hn =>
      by_cases h1 : 1844674407370955162 ≤ acc
      · left; rw [if_pos h1]
      · rw [if_neg h1]
        by_cases h2 : 18446744073709551616 ≤ acc * 10 + (c.toNat - 48)
        · left; rw [if_pos h2]
        · rw [if_neg h2]
          rcases nosyn r (acc * 10 + (c.toNat - 48)) hr with ⟨u, hp⟩ | hp
          · rw [hp]; exact .inr ⟨u, rfl, by have := parse_ge r _ u hp; omega⟩
          · rw [hp]; exact .inl rfl
    · next hn =>
      rw [if_neg (by omega), if_neg (by omega)]
      exact parse_none r _ hr h
theorem mag_top : ∀ (l : List UInt8) (acc v : Nat), acc ≤ 9223372036854775807 → mag acc l = some v → v ≤ 9223372036854775807
  | [], acc, v, ha, h => by simp only [mag] at h; injection h with h; omega
  | c :: r, acc, v, ha, h => by
    simp only [mag] at h
    split at h
    · cases h
    · exact mag_top r _ v (by omega) h
theorem atoi_digits (l : List UInt8) (hn : l ≠ []) (hd : ∀ c ∈ l, digit c = true) : Lib.parseIntB 64 l = match mag 0 l with | none => .range | some v => .ok (v : Int) := by
  rw [Lib.parseIntB_64]
  cases l with
  | nil => exact (hn rfl).elim
  | cons c r =>
    have hc := hd c (List.mem_cons_self ..)
    unfold digit at hc
    simp at hc
    have hm : Lib.parseMag (c :: r) = Lib.parseUint10 0 (c :: r) := by unfold Lib.parseMag; rw [if_neg (by simp)]
    unfold Lib.atoiAll
    simp only
    rw [if_neg (by omega), hm]
    cases hg : mag 0 (c :: r) with
    | some v =>
      have hv : v < 9223372036854775808 := by
        have := mag_top (c :: r) 0 v (by omega) hg; omega
      rw [parse_some _ _ _ hd hg]
      simp only
      rw [if_neg (by omega), if_neg (by omega), if_neg (by omega)]
    | none =>
      rcases parse_none _ _ hd hg with h | ⟨u, h, hu⟩
      · rw [h]
      · rw [h]
        simp only
        rw [if_pos ⟨by omega, hu⟩]
/-- Where a whole text is a number, its bytes are digits. -/
theorem digits_of_numLen {l : List UInt8} (h0 : l ≠ []) (h : numLen l = l.length) : ∀ c ∈ l, digit c = true := by
  have hp : 0 < l.length := List.length_pos_iff.2 h0
  have hs : span digit l = l.length := by
    unfold numLen at h
    split at h
    · omega
    · exact h
  intro c hc
  obtain ⟨i, hi, rfl⟩ := List.mem_iff_getElem.1 hc
  have := span_at digit l i (by omega)
  simpa [List.getD, List.getElem?_eq_getElem hi] using this
/-- What Number answers. -/
def outE : Option Nat → Int | none => 3 | some _ => 0
def outN : Option Nat → Int | none => 0 | some v => (v : Int)
def numE (s : ByteArray) : Int := if s.size = 0 ∨ numLen s.data.toList ≠ s.size then 5 else outE (mag 0 s.data.toList)
def numN (s : ByteArray) : Int := if s.size = 0 ∨ numLen s.data.toList ≠ s.size then 0 else outN (mag 0 s.data.toList)
theorem gRange : Tryd.prog.globalNamed "strconv.ErrRange" = some 7 := by kernel_rfl
theorem varAt {w W : World} {x : Array Value} (h : w.var? Tryd.prog "strconv.ErrRange" = some x) (hb : Below w.heap.size w W) : W.var? Tryd.prog "strconv.ErrRange" = some x := by
  unfold World.var? at h ⊢
  rw [gRange] at h ⊢
  simp only [Option.bind_some] at h ⊢
  by_cases hl : 7 < w.heap.size
  · rw [hb.block 7 hl]; exact h
  · rw [Array.getElem?_eq_none (by omega)] at h; cases h
theorem list_ne {s : ByteArray} (h : ¬ s.size = 0) : s.data.toList ≠ [] := by
  intro e
  have := Lib.size_eq s
  rw [e] at this
  exact h this
theorem number (s : ByteArray) (w : World) (hs : s.size ≤ 1048576) (tp : TypeId) (p : Value) (hvar : w.var? Tryd.prog "strconv.ErrRange" = some #[.iface tp p]) : Calls Tryd.prog 81 #[.string s] w fun e w' => e = .returned (.tuple #[.int .i64 (numN s), .int .i64 (numE s)]) ∧ Below w.heap.size w w' := by
  have hw := numberLength s w
  unfold numN numE
  by_cases h0 : s.size = 0
  · have he : s.toList.isEmpty = true := empty_yes h0
    rw [if_pos (.inl h0), if_pos (.inl h0)]
    clear h0 hw
    go_enter Tryd.func81, Tryd.ntmps81
    go_wp2
    refine bodyPost_ret (results_tmp2 rfl _ _ _) rfl ?_
    exact ⟨rfl, Below.refl _ _⟩
  · have he : s.toList.isEmpty = false := empty_no h0
    by_cases hn : numLen s.data.toList = s.size
    · rw [if_neg (fun h => h.elim h0 (fun k => k hn)), if_neg (fun h => h.elim h0 (fun k => k hn))]
      have hd := digits_of_numLen (list_ne h0) (hn.trans (Lib.size_eq s))
      have ha := atoi_digits _ (list_ne h0) hd
      have hn' : ((numLen s.data.toList : Int) != (s.size : Int)) = false := by simp [hn]
      generalize numLen s.data.toList = n at hw hn'
      have hb : s.size ≤ 281474976710656 := by omega
      have hb' : s.size ≤ 9223372036854775806 := by omega
      cases hm : mag 0 s.data.toList with
      | some v =>
        rw [hm] at ha
        have e1 : outN (some v) = (v : Int) := rfl
        rw [e1]
        have hp := fun W => Tryd.strconv_ParseInt_10_at64_ok s hb' (v : Int) ha W
        generalize (v : Int) = V at hp ⊢
        clear ha hd h0 hn hb hb' hm hvar hs
        go_enter Tryd.func81, Tryd.ntmps81
        go_wp2_with (first
          | (go_at_call 53; refine hw.mono ?_; rintro e w2 ⟨rfl, hk2⟩)
          | (go_at_call 94; refine (hp w2).mono ?_; rintro e w3 ⟨rfl, h3⟩))
        refine bodyPost_ret (results_tmp2 rfl _ _ _) rfl ?_
        refine ⟨rfl, ?_⟩
        rcases h3 with h | ⟨t, h⟩
        · rw [h]; exact hk2
        · rw [h]; exact bstep hk2 (Lib.bytesWorld_below _ _ _)
      | none =>
        rw [hm] at ha
        have hp := fun W h => Tryd.strconv_ParseInt_10_at64_range_var s hb ha tp p W h
        generalize Lib.intSat 64 s.data.toList = V at hp
        have hV : ∀ W, Below w.heap.size w W → W.var? Tryd.prog "strconv.ErrRange" = some #[.iface tp p] := fun W h => varAt hvar h
        clear ha hd h0 hn hb hb' hm hvar hs
        go_enter Tryd.func81, Tryd.ntmps81
        go_wp2_with (first
          | (go_at_call 53; refine hw.mono ?_; rintro e w2 ⟨rfl, hk2⟩)
          | (go_at_call 94; refine (hp w2 (hV w2 hk2)).mono ?_; rintro e w3 ⟨N, rfl, hN, hcell, h3⟩))
        refine bodyPost_ret (results_tmp2 rfl _ _ _) rfl ?_
        exact ⟨rfl, bstep hk2 h3⟩
    · rw [if_pos (.inr hn), if_pos (.inr hn)]
      have hn' : ((numLen s.data.toList : Int) != (s.size : Int)) = true := by simp; omega
      generalize numLen s.data.toList = n at hw hn'
      clear h0 hn hvar hs
      go_enter Tryd.func81, Tryd.ntmps81
      go_wp2_with (go_at_call 53; refine hw.mono ?_; rintro e w2 ⟨rfl, hk2⟩)
      refine bodyPost_ret (results_tmp2 rfl _ _ _) rfl ?_
      exact ⟨rfl, hk2⟩
theorem wrap_in {a : Int} (h1 : -9223372036854775808 ≤ a) (h2 : a ≤ 9223372036854775807) : wrap64 a = a := by
  unfold wrap64; omega
theorem mag_step {l : List UInt8} {k a : Nat} (hk : k < l.length) : mag a (l.drop k) = if 9223372036854775807 < a * 10 + ((l.getD k 0).toNat - 48) then none else mag (a * 10 + ((l.getD k 0).toNat - 48)) (l.drop (k + 1)) := by
  rw [List.drop_eq_getElem_cons hk]
  have : l.getD k 0 = l[k] := by simp [List.getD, List.getElem?_eq_getElem hk]
  rw [this]
  rfl
end Go.Proofs.YtkieljleopbhoaaDoor.Lex
namespace Go.Proofs.YtkieljleopbhoaaDoor.Lex
open Go.RowKit
/-- How many bytes that say nothing a text begins with. -/
def silLen (l : List UInt8) : Nat := if Lib.hasPrefix l [45, 45] then span ofLine l else span blank l
theorem silentLength (s : ByteArray) (w : World) : Calls Tryd.prog 51 #[.string s] w fun e w' => e = .returned (.int .i64 (silLen s.data.toList : Int)) ∧ Below w.heap.size w w' := by
  have h1 : Calls Tryd.prog 69 #[.string s, .string ⟨#[45, 45]⟩] w fun e w' => e = .returned (.bool (Lib.hasPrefix s.data.toList [45, 45])) ∧ w' = w := Tryd.strings_HasPrefix s ⟨#[45, 45]⟩ w
  have h2 := run_ofLine s w
  have h3 := run_blank s w
  unfold silLen
  cases hp : Lib.hasPrefix s.data.toList [45, 45]
  · rw [hp] at h1
    rw [if_neg (by simp)]
    generalize span blank s.data.toList = n at h3
    go_enter Tryd.func51, Tryd.ntmps51
    go_wp2_with (first
      | (go_at_call 69; refine h1.mono ?_; rintro e w2 ⟨rfl, h⟩; rw [h]; clear h w2)
      | (go_at_call 74; refine h3.mono ?_; rintro e w2 ⟨rfl, hb⟩))
    go_ret
    exact ⟨rfl, hb⟩
  · rw [hp] at h1
    rw [if_pos rfl]
    generalize span ofLine s.data.toList = n at h2
    go_enter Tryd.func51, Tryd.ntmps51
    go_wp2_with (first
      | (go_at_call 69; refine h1.mono ?_; rintro e w2 ⟨rfl, h⟩; rw [h]; clear h w2)
      | (go_at_call 74; refine h2.mono ?_; rintro e w2 ⟨rfl, hb⟩))
    go_ret
    exact ⟨rfl, hb⟩
/-- The signs. -/
def sgL : List ByteArray := [⟨#[60, 61]⟩, ⟨#[61, 61]⟩, ⟨#[33, 61]⟩, ⟨#[45, 62]⟩, ⟨#[40]⟩, ⟨#[41]⟩, ⟨#[58]⟩, ⟨#[59]⟩, ⟨#[44]⟩, ⟨#[61]⟩, ⟨#[43]⟩, ⟨#[45]⟩, ⟨#[42]⟩, ⟨#[47]⟩, ⟨#[37]⟩, ⟨#[60]⟩]
def sgV : Array Value := #[.string ⟨#[60, 61]⟩, .string ⟨#[61, 61]⟩, .string ⟨#[33, 61]⟩, .string ⟨#[45, 62]⟩, .string ⟨#[40]⟩, .string ⟨#[41]⟩, .string ⟨#[58]⟩, .string ⟨#[59]⟩, .string ⟨#[44]⟩, .string ⟨#[61]⟩, .string ⟨#[43]⟩, .string ⟨#[45]⟩, .string ⟨#[42]⟩, .string ⟨#[47]⟩, .string ⟨#[37]⟩, .string ⟨#[60]⟩]
def sgS (k : Nat) : ByteArray := sgL.getD k ⟨#[]⟩
/-- How many bytes the first of the signs has that a text begins with. -/
def signLen (l : List UInt8) : Nat := match sgL.find? fun p => Lib.hasPrefix l p.data.toList with | some p => p.size | none => 0
/-- The package's table of signs stands as it is laid. -/
def TabS (w : World) : Prop := ∃ t fz, w.heap[1]? = some (.cells sgV t fz)
theorem TabS.below {w w' : World} (h : TabS w) (hb : Below w.heap.size w w') : TabS w' := by
  obtain ⟨t, fz, h⟩ := h
  exact ⟨t, fz, (hb.block 1 (Array.getElem?_eq_some_iff.1 h).1).trans h⟩
theorem sg_index_0 (w : World) : (Instr.index 100 (.agg sgV) (.int .i64 0)).run Tryd.prog w = .ok (.string ⟨#[60, 61]⟩) w := by kernel_rfl
theorem sg_index_1 (w : World) : (Instr.index 100 (.agg sgV) (.int .i64 1)).run Tryd.prog w = .ok (.string ⟨#[61, 61]⟩) w := by kernel_rfl
theorem sg_index_2 (w : World) : (Instr.index 100 (.agg sgV) (.int .i64 2)).run Tryd.prog w = .ok (.string ⟨#[33, 61]⟩) w := by kernel_rfl
theorem sg_index_3 (w : World) : (Instr.index 100 (.agg sgV) (.int .i64 3)).run Tryd.prog w = .ok (.string ⟨#[45, 62]⟩) w := by kernel_rfl
theorem sg_index_4 (w : World) : (Instr.index 100 (.agg sgV) (.int .i64 4)).run Tryd.prog w = .ok (.string ⟨#[40]⟩) w := by kernel_rfl
theorem sg_index_5 (w : World) : (Instr.index 100 (.agg sgV) (.int .i64 5)).run Tryd.prog w = .ok (.string ⟨#[41]⟩) w := by kernel_rfl
theorem sg_index_6 (w : World) : (Instr.index 100 (.agg sgV) (.int .i64 6)).run Tryd.prog w = .ok (.string ⟨#[58]⟩) w := by kernel_rfl
theorem sg_index_7 (w : World) : (Instr.index 100 (.agg sgV) (.int .i64 7)).run Tryd.prog w = .ok (.string ⟨#[59]⟩) w := by kernel_rfl
theorem sg_index_8 (w : World) : (Instr.index 100 (.agg sgV) (.int .i64 8)).run Tryd.prog w = .ok (.string ⟨#[44]⟩) w := by kernel_rfl
theorem sg_index_9 (w : World) : (Instr.index 100 (.agg sgV) (.int .i64 9)).run Tryd.prog w = .ok (.string ⟨#[61]⟩) w := by kernel_rfl
theorem sg_index_10 (w : World) : (Instr.index 100 (.agg sgV) (.int .i64 10)).run Tryd.prog w = .ok (.string ⟨#[43]⟩) w := by kernel_rfl
theorem sg_index_11 (w : World) : (Instr.index 100 (.agg sgV) (.int .i64 11)).run Tryd.prog w = .ok (.string ⟨#[45]⟩) w := by kernel_rfl
theorem sg_index_12 (w : World) : (Instr.index 100 (.agg sgV) (.int .i64 12)).run Tryd.prog w = .ok (.string ⟨#[42]⟩) w := by kernel_rfl
theorem sg_index_13 (w : World) : (Instr.index 100 (.agg sgV) (.int .i64 13)).run Tryd.prog w = .ok (.string ⟨#[47]⟩) w := by kernel_rfl
theorem sg_index_14 (w : World) : (Instr.index 100 (.agg sgV) (.int .i64 14)).run Tryd.prog w = .ok (.string ⟨#[37]⟩) w := by kernel_rfl
theorem sg_index_15 (w : World) : (Instr.index 100 (.agg sgV) (.int .i64 15)).run Tryd.prog w = .ok (.string ⟨#[60]⟩) w := by kernel_rfl
theorem sg_index (k : Nat) (hk : k < 16) (w : World) : (Instr.index 100 (.agg sgV) (.int .i64 (k : Int))).run Tryd.prog w = .ok (.string (sgS k)) w := by
  have h : k = 0 ∨ k = 1 ∨ k = 2 ∨ k = 3 ∨ k = 4 ∨ k = 5 ∨ k = 6 ∨ k = 7 ∨ k = 8 ∨ k = 9 ∨ k = 10 ∨ k = 11 ∨ k = 12 ∨ k = 13 ∨ k = 14 ∨ k = 15 := by omega
  rcases h with rfl | rfl | rfl | rfl | rfl | rfl | rfl | rfl | rfl | rfl | rfl | rfl | rfl | rfl | rfl | rfl
  · exact sg_index_0 w
  · exact sg_index_1 w
  · exact sg_index_2 w
  · exact sg_index_3 w
  · exact sg_index_4 w
  · exact sg_index_5 w
  · exact sg_index_6 w
  · exact sg_index_7 w
  · exact sg_index_8 w
  · exact sg_index_9 w
  · exact sg_index_10 w
  · exact sg_index_11 w
  · exact sg_index_12 w
  · exact sg_index_13 w
  · exact sg_index_14 w
  · exact sg_index_15 w
theorem sg_size (k : Nat) (hk : k < 16) : 1 ≤ (sgS k).size ∧ (sgS k).size ≤ 2 := by
  have h : k = 0 ∨ k = 1 ∨ k = 2 ∨ k = 3 ∨ k = 4 ∨ k = 5 ∨ k = 6 ∨ k = 7 ∨ k = 8 ∨ k = 9 ∨ k = 10 ∨ k = 11 ∨ k = 12 ∨ k = 13 ∨ k = 14 ∨ k = 15 := by omega
  rcases h with rfl | rfl | rfl | rfl | rfl | rfl | rfl | rfl | rfl | rfl | rfl | rfl | rfl | rfl | rfl | rfl
  all_goals exact ⟨by decide, by decide⟩
theorem find_at : ∀ (l : List ByteArray) (p : ByteArray → Bool) (k : Nat), k < l.length → (∀ j, j < k → p (l.getD j ⟨#[]⟩) = false) → p (l.getD k ⟨#[]⟩) = true → l.find? p = some (l.getD k ⟨#[]⟩)
  | [], _, k, hk, _, _ => by simp at hk
  | a :: l, p, 0, _, _, h => by simp at h; simp [List.find?, h]
  | a :: l, p, k + 1, hk, hl, h => by
    have h0 := hl 0 (by omega)
    simp at h0
    have := find_at l p k (by simpa using hk) (fun j hj => by simpa using hl (j + 1) (by omega)) (by simpa using h)
    simp only [List.find?, h0]
    simpa using this
theorem signLen_at {l : List UInt8} (k : Nat) (hk : k < 16) (h1 : ∀ j, j < k → Lib.hasPrefix l (sgS j).data.toList = false) (h2 : Lib.hasPrefix l (sgS k).data.toList = true) : signLen l = (sgS k).size := by
  unfold signLen
  rw [find_at sgL _ k hk h1 h2]
  rfl
theorem signLen_none {l : List UInt8} (h : ∀ j, j < 16 → Lib.hasPrefix l (sgS j).data.toList = false) : signLen l = 0 := by
  unfold signLen
  have : sgL.find? (fun p => Lib.hasPrefix l p.data.toList) = none := by
    rw [List.find?_eq_none]
    intro x hx hxs
    obtain ⟨k, hk, e⟩ := List.mem_iff_getElem.1 hx
    have := h k hk
    unfold sgS at this
    rw [List.getD_eq_getElem?_getD, List.getElem?_eq_getElem hk, e] at this
    simp only [Option.getD_some] at this
    rw [this] at hxs
    cases hxs
  rw [this]
theorem signsLength (s : ByteArray) (w : World) (hT : TabS w) : Calls Tryd.prog 54 #[.string s] w fun e w' => e = .returned (.int .i64 (signLen s.data.toList : Int)) ∧ w' = w := by
  obtain ⟨t, fz, h0⟩ := hT
  go_enter Tryd.func54, Tryd.ntmps54
  go_wp2_with (refine wpList_load_row rfl 100 _ rfl 1 rfl t sgV fz _ h0 Tryd.underlying100 rfl (by kernel_rfl) ?_)
  go_loop [6] (fun i => ∃ k : Nat, k ≤ 16 ∧ i = .int .i64 k ∧ Hid (∀ j, j < k → Lib.hasPrefix s.data.toList (sgS j).data.toList = false)) (fun i => 16 - (intOf i).toNat)
  case atStart => exact ⟨0, by omega, rfl, fun j hj => by omega⟩
  case round =>
    obtain ⟨k, hk, rfl, hall⟩ := hrel
    by_cases hlt : k < 16
    · have hlt' : (k : Int) < 16 := by omega
      have hx := fun W => sg_index k hlt W
      have hp := fun W => Tryd.strings_HasPrefix s (sgS k) W
      generalize hv : sgV = V at hx ⊢
      clear hv h0
      cases he : Lib.hasPrefix s.data.toList (sgS k).data.toList
      · rw [he] at hp
        have Hnew : Hid (∀ j, j < k + 1 → Lib.hasPrefix s.data.toList (sgS j).data.toList = false) := fun j hj => by
          by_cases e : j = k
          · rw [e]; exact he
          · exact hall.out j (by omega)
        generalize sgS k = S at hx hp
        clear he
        go_wp2_with (go_at_call 69; refine (hp _).mono ?_; rintro e w2 ⟨rfl, h⟩; rw [h]; clear h w2)
        go_round
        case rel => exact ⟨k + 1, by omega, by go_num, Hnew⟩
        case measure => simp [intOf]; omega
      · rw [he] at hp
        have Hr : Hid (signLen s.data.toList = (sgS k).size) := signLen_at k hlt hall.out he
        generalize sgS k = S at hx hp Hr
        clear he
        go_wp2_with (go_at_call 69; refine (hp _).mono ?_; rintro e w2 ⟨rfl, h⟩; rw [h]; clear h w2)
        go_ret
        exact ⟨by rw [Hr.out]; rfl, rfl⟩
    · have Hr : Hid (signLen s.data.toList = 0) := signLen_none fun j hj => hall.out j (by omega)
      have hlt' : ¬ (k : Int) < 16 := by omega
      go_wp2
      go_ret
      exact ⟨by rw [Hr.out]; rfl, rfl⟩
end Go.Proofs.YtkieljleopbhoaaDoor.Lex
namespace Go.Proofs.YtkieljleopbhoaaDoor.Lex
open Go.ChangeShapes Go.WideShapes Go.ChangeAt Go.RowKit Go.Joins
theorem hid {p : Prop} (h : p) : Hid p := h
/-- What is worked out. -/
structure Ex where
  op : Nat
  n : Int
  name : ByteArray
  args : List Ex
theorem Ex.part_lt (x : Ex) (i : Nat) (h : i < x.args.length) : SizeOf.sizeOf x.args[i] < SizeOf.sizeOf x := by
  obtain ⟨o, n, s, l⟩ := x
  have := List.sizeOf_lt_of_mem (List.getElem_mem h)
  simp only [Ex.mk.sizeOf_spec] at this ⊢
  omega
theorem Ex.pos (x : Ex) : 1 ≤ SizeOf.sizeOf x := by
  obtain ⟨o, n, s, l⟩ := x
  simp only [Ex.mk.sizeOf_spec]
  omega
/-- It stands in memory, looked at so deep: its parts lie behind the last of its cells. -/
def StN (w : World) : Nat → Ex → Value → Prop
  | 0, _, _ => False
  | k + 1, x, s => ∃ (ao : Option Addr) (cap : Nat) (sl : Nat → Value), s = .slice ao x.args.length cap ∧ x.op < 256 ∧ (-9223372036854775808 ≤ x.n ∧ x.n ≤ 9223372036854775807) ∧ x.name.size ≤ 140737488355328 ∧ x.args.length ≤ 2513169434843 ∧ x.args.length ≤ cap ∧
    (x.args.length = 0 ∨ ∃ b o, ao = some ⟨b, o, none⟩ ∧ ∀ i (h : i < x.args.length), w.cell? ⟨b, o + i * 4, none⟩ = some (.int .u8 (x.args[i].op : Int)) ∧ w.cell? ⟨b, o + i * 4 + 1, none⟩ = some (.int .i64 x.args[i].n) ∧
        w.cell? ⟨b, o + i * 4 + 2, none⟩ = some (.string x.args[i].name) ∧ w.cell? ⟨b, o + i * 4 + 3, none⟩ = some (sl i)) ∧ ∀ i (h : i < x.args.length), StN w k x.args[i] (sl i)
theorem StN.up {w : World} : ∀ (k' k : Nat) (x : Ex) (s : Value), StN w k x s → SizeOf.sizeOf x ≤ k' → StN w k' x s
  | 0, k, x, s, _, hs => by have := x.pos; omega
  | k' + 1, 0, x, s, h, _ => h.elim
  | k' + 1, k + 1, x, s, h, hs => by
    obtain ⟨ao, cap, sl, h1, h2, h3, h4, h5, h6, h7, h8⟩ := h
    exact ⟨ao, cap, sl, h1, h2, h3, h4, h5, h6, h7, fun i hi => StN.up k' k _ _ (h8 i hi) (by have := x.part_lt i hi; omega)⟩
/-- It stands in memory. -/
def St (w : World) (x : Ex) (s : Value) : Prop := StN w (SizeOf.sizeOf x) x s
theorem St.intro {w : World} (x : Ex) (ao : Option Addr) (cap : Nat) (sl : Nat → Value) (hop : x.op < 256) (hn : -9223372036854775808 ≤ x.n ∧ x.n ≤ 9223372036854775807) (hnm : x.name.size ≤ 140737488355328) (hlen : x.args.length ≤ 2513169434843) (hcap : x.args.length ≤ cap)
      (hc : x.args.length = 0 ∨ ∃ b o, ao = some ⟨b, o, none⟩ ∧ ∀ i (h : i < x.args.length), w.cell? ⟨b, o + i * 4, none⟩ = some (.int .u8 (x.args[i].op : Int)) ∧ w.cell? ⟨b, o + i * 4 + 1, none⟩ = some (.int .i64 x.args[i].n) ∧
        w.cell? ⟨b, o + i * 4 + 2, none⟩ = some (.string x.args[i].name) ∧ w.cell? ⟨b, o + i * 4 + 3, none⟩ = some (sl i))
      (hs : ∀ i (h : i < x.args.length), St w x.args[i] (sl i)) : St w x (.slice ao x.args.length cap) := by
  unfold St
  obtain ⟨m, hm⟩ : ∃ m, SizeOf.sizeOf x = m + 1 := ⟨SizeOf.sizeOf x - 1, by have := x.pos; omega⟩
  rw [hm]
  exact ⟨ao, cap, sl, rfl, hop, hn, hnm, hlen, hcap, hc, fun i hi => StN.up m _ _ _ (hs i hi) (by have := x.part_lt i hi; omega)⟩
/-- What is known of it, at hand. -/
theorem St.out {w : World} {x : Ex} {s : Value} (h : St w x s) : ∃ (ao : Option Addr) (cap : Nat) (sl : Nat → Value), s = .slice ao x.args.length cap ∧ x.op < 256 ∧ (-9223372036854775808 ≤ x.n ∧ x.n ≤ 9223372036854775807) ∧ x.name.size ≤ 140737488355328 ∧ x.args.length ≤ 2513169434843 ∧ x.args.length ≤ cap ∧
    (x.args.length = 0 ∨ ∃ b o, ao = some ⟨b, o, none⟩ ∧ ∀ i (h : i < x.args.length), w.cell? ⟨b, o + i * 4, none⟩ = some (.int .u8 (x.args[i].op : Int)) ∧ w.cell? ⟨b, o + i * 4 + 1, none⟩ = some (.int .i64 x.args[i].n) ∧
        w.cell? ⟨b, o + i * 4 + 2, none⟩ = some (.string x.args[i].name) ∧ w.cell? ⟨b, o + i * 4 + 3, none⟩ = some (sl i)) ∧ ∀ i (h : i < x.args.length), St w x.args[i] (sl i) := by
  unfold St at h
  obtain ⟨m, hm⟩ : ∃ m, SizeOf.sizeOf x = m + 1 := ⟨SizeOf.sizeOf x - 1, by have := x.pos; omega⟩
  rw [hm] at h
  obtain ⟨ao, cap, sl, h1, h2, h3, h4, h5, h6, h7, h8⟩ := h
  exact ⟨ao, cap, sl, h1, h2, h3, h4, h5, h6, h7, fun i hi => StN.up _ m _ _ (h8 i hi) (Nat.le_refl _)⟩
theorem cell_kept {w w' : World} {p : Addr} {v : Value} (h : w.cell? p = some v) (hb : Below w.heap.size w w') : w'.cell? p = some v := by
  rw [hb.cell (World.block_lt_of_cell? w _ h)]; exact h
theorem St.keepN {w w' : World} (hb : Below w.heap.size w w') : ∀ (m : Nat) (x : Ex) (s : Value), SizeOf.sizeOf x ≤ m → St w x s → St w' x s
  | 0, x, s, hm, _ => by have := x.pos; omega
  | m + 1, x, s, hm, h => by
    obtain ⟨ao, cap, sl, rfl, hop, hn, hnm, hlen, hcap, hc, hs⟩ := h.out
    refine St.intro x ao cap sl hop hn hnm hlen hcap ?_ (fun i hi => St.keepN hb m _ _ (by have := x.part_lt i hi; omega) (hs i hi))
    rcases hc with h0 | ⟨b, o, ha, hc⟩
    · exact .inl h0
    · refine .inr ⟨b, o, ha, fun i hi => ?_⟩
      obtain ⟨h0, h1, h2, h3⟩ := hc i hi
      exact ⟨cell_kept h0 hb, cell_kept h1 hb, cell_kept h2 hb, cell_kept h3 hb⟩
theorem St.keep {w w' : World} {x : Ex} {s : Value} (h : St w x s) (hb : Below w.heap.size w w') : St w' x s := St.keepN hb _ x s (Nat.le_refl _) h
/-- It as a value. -/
abbrev exV (x : Ex) (s : Value) : Value := .agg #[.int .u8 (x.op : Int), .int .i64 x.n, .string x.name, s]
end Go.Proofs.YtkieljleopbhoaaDoor.Lex
namespace Go.Proofs.YtkieljleopbhoaaDoor.Lex
open Go.RowKit
/-- What a text begins with: its kind, and how many bytes it has. -/
def step (l : List UInt8) : Option (Nat × Nat) :=
  if silLen l ≠ 0 then some (0, silLen l) else if wordLen l ≠ 0 then some (1, wordLen l) else if numLen l ≠ 0 then some (2, numLen l) else if signLen l ≠ 0 then some (3, signLen l) else none
theorem silLen_le (l : List UInt8) : silLen l ≤ l.length := by
  unfold silLen
  split
  · exact span_le _ _
  · exact span_le _ _
theorem wordLen_le (l : List UInt8) : wordLen l ≤ l.length := by
  unfold wordLen
  split
  · omega
  · exact span_le _ _
theorem numLen_le (l : List UInt8) : numLen l ≤ l.length := by
  unfold numLen
  split
  · omega
  · exact span_le _ _
theorem prefix_app {l p : List UInt8} (h : Lib.hasPrefix l p = true) : ∃ t, l = p ++ t := by
  unfold Lib.hasPrefix at h
  obtain ⟨t, ht⟩ := List.isPrefixOf_iff_prefix.1 h
  exact ⟨t, ht.symm⟩
theorem signLen_cases (l : List UInt8) : signLen l = 0 ∨ ∃ k, k < 16 ∧ Lib.hasPrefix l (sgS k).data.toList = true ∧ signLen l = (sgS k).size := by
  unfold signLen
  cases h : sgL.find? fun p => Lib.hasPrefix l p.data.toList with
  | none => exact .inl rfl
  | some p =>
    obtain ⟨k, hk, e⟩ := List.mem_iff_getElem.1 (List.mem_of_find?_eq_some h)
    have e2 : sgS k = p := by
      unfold sgS
      rw [List.getD_eq_getElem?_getD, List.getElem?_eq_getElem hk, e]
      rfl
    have hp := List.find?_some h
    refine .inr ⟨k, hk, ?_, ?_⟩
    · rw [e2]; exact hp
    · rw [e2]
theorem signLen_le (l : List UInt8) : signLen l ≤ l.length := by
  rcases signLen_cases l with h | ⟨k, _, hp, h⟩
  · omega
  · obtain ⟨t, ht⟩ := prefix_app hp
    rw [h, Lib.size_eq, ht, List.length_append]
    omega
theorem step_le {l : List UInt8} {k n : Nat} (h : step l = some (k, n)) : 1 ≤ n ∧ n ≤ l.length ∧ k ≤ 3 := by
  have h1 := silLen_le l
  have h2 := wordLen_le l
  have h3 := numLen_le l
  have h4 := signLen_le l
  unfold step at h
  split at h
  · injection h with h; injection h with e1 e2; omega
  · split at h
    · injection h with h; injection h with e1 e2; omega
    · split at h
      · injection h with h; injection h with e1 e2; omega
      · split at h
        · injection h with h; injection h with e1 e2; omega
        · cases h
theorem blank_low {c : UInt8} (h : blank c = true) : c.toNat < 128 := by unfold blank at h; simp at h; omega
theorem digit_low {c : UInt8} (h : digit c = true) : c.toNat < 128 := by unfold digit at h; simp at h; omega
theorem letter_low {c : UInt8} (h : letter c = true) : c.toNat < 128 := by unfold letter at h; simp at h; omega
theorem ofWord_low {c : UInt8} (h : ofWord c = true) : c.toNat < 128 := by
  unfold ofWord at h
  simp at h
  rcases h with (h | h) | h
  · exact letter_low h
  · exact digit_low h
  · omega
theorem sg_low (k : Nat) (hk : k < 16) : ((sgS k).data.toList.getD ((sgS k).size - 1) 0).toNat < 128 ∧ ((sgS k).data.toList.getD 0 0).toNat < 128 := by
  have h : k = 0 ∨ k = 1 ∨ k = 2 ∨ k = 3 ∨ k = 4 ∨ k = 5 ∨ k = 6 ∨ k = 7 ∨ k = 8 ∨ k = 9 ∨ k = 10 ∨ k = 11 ∨ k = 12 ∨ k = 13 ∨ k = 14 ∨ k = 15 := by omega
  rcases h with rfl | rfl | rfl | rfl | rfl | rfl | rfl | rfl | rfl | rfl | rfl | rfl | rfl | rfl | rfl | rfl
  all_goals exact ⟨by decide, by decide⟩
theorem getD_app (p t : List UInt8) (i : Nat) (h : i < p.length) : (p ++ t).getD i 0 = p.getD i 0 := by
  simp [List.getD, List.getElem?_append_left h]
/-- Behind a step the text is at its end, or one of the two bytes beside the place is no part of a longer rune. -/
theorem step_end {l : List UInt8} {k n : Nat} (h : step l = some (k, n)) : n = l.length ∨ (l.getD n 0).toNat < 128 ∨ (l.getD (n - 1) 0).toNat < 128 := by
  obtain ⟨hn, hle, _⟩ := step_le h
  unfold step at h
  split at h
  · injection h with h; injection h with e1 e2
    unfold silLen at e2
    split at e2
    · by_cases hl : n = l.length
      · exact .inl hl
      · right; left
        have := span_stop ofLine l (by omega)
        rw [e2] at this
        generalize l.getD n 0 = c at this ⊢
        unfold ofLine at this
        simp only [Bool.not_eq_eq_eq_not, Bool.not_false, beq_iff_eq] at this
        omega
    · right; right
      exact blank_low (span_at blank l (n - 1) (by omega))
  · split at h
    · injection h with h; injection h with e1 e2
      unfold wordLen at e2
      split at e2
      · omega
      · right; right
        exact ofWord_low (span_at ofWord l (n - 1) (by omega))
    · split at h
      · injection h with h; injection h with e1 e2
        unfold numLen at e2
        split at e2
        · omega
        · right; right
          exact digit_low (span_at digit l (n - 1) (by omega))
      · split at h
        · injection h with h; injection h with e1 e2
          rcases signLen_cases l with h | ⟨k', hk, hp, h⟩
          · omega
          · right; right
            obtain ⟨t, ht⟩ := prefix_app hp
            have hs := sg_size k' hk
            rw [ht, getD_app _ _ _ (by rw [← Lib.size_eq]; omega), show n = (sgS k').size by omega]
            exact (sg_low k' hk).1
        · cases h
theorem span_zero (p : UInt8 → Bool) (l : List UInt8) (h : p (l.getD 0 0) = false) : span p l = 0 := by
  by_cases h0 : span p l = 0
  · exact h0
  · have := span_at p l 0 (by omega)
    rw [h] at this
    cases this
/-- A text that begins with a byte of a longer rune begins with no token. -/
theorem step_high {l : List UInt8} (h : 128 ≤ (l.getD 0 0).toNat) : step l = none := by
  have hb : blank (l.getD 0 0) = false := by cases e : blank (l.getD 0 0) with | false => rfl | true => have := blank_low e; omega
  have hl : letter (l.getD 0 0) = false := by cases e : letter (l.getD 0 0) with | false => rfl | true => have := letter_low e; omega
  have hd : digit (l.getD 0 0) = false := by cases e : digit (l.getD 0 0) with | false => rfl | true => have := digit_low e; omega
  have h1 : silLen l = 0 := by
    unfold silLen
    rw [if_neg]
    · exact span_zero _ _ hb
    · intro hp
      obtain ⟨t, ht⟩ := prefix_app hp
      rw [ht] at h
      simp at h
  have h2 : wordLen l = 0 := by unfold wordLen; rw [if_pos (span_zero _ _ hl)]
  have h3 : numLen l = 0 := by
    have := span_zero _ _ hd
    unfold numLen
    rw [this]
    simp
  have h4 : signLen l = 0 := by
    rcases signLen_cases l with h | ⟨k', hk, hp, _⟩
    · exact h
    · obtain ⟨t, ht⟩ := prefix_app hp
      have hs := sg_size k' hk
      have := (sg_low k' hk).2
      rw [ht, getD_app _ _ _ (by rw [← Lib.size_eq]; omega)] at h
      omega
  unfold step
  simp [h1, h2, h3, h4]
/-- A token. -/
structure Tok where
  kind : Nat
  text : List UInt8
  at_ : Nat
/-- The tokens of a text that begins at a place, so many steps at most; where there is none. -/
def toksN : Nat → Nat → List UInt8 → Except Nat (List Tok)
  | 0, _, _ => .ok []
  | m + 1, at_, l => if l = [] then .ok [] else match step l with
    | none => .error at_
    | some (k, n) => match toksN m (at_ + n) (l.drop n) with
      | .error e => .error e
      | .ok ts => .ok (if k = 0 then ts else ⟨k, l.take n, at_⟩ :: ts)
/-- The tokens of a text that begins at a place; where there is none. -/
def toks (at_ : Nat) (l : List UInt8) : Except Nat (List Tok) := toksN l.length at_ l
theorem toksN_any : ∀ (m m' a : Nat) (l : List UInt8), l.length ≤ m → l.length ≤ m' → toksN m a l = toksN m' a l
  | 0, 0, a, l, _, _ => rfl
  | 0, m' + 1, a, l, h, _ => by rw [List.eq_nil_of_length_eq_zero (Nat.le_zero.1 h)]; simp [toksN]
  | m + 1, 0, a, l, _, h => by rw [List.eq_nil_of_length_eq_zero (Nat.le_zero.1 h)]; simp [toksN]
  | m + 1, m' + 1, a, l, h, h' => by
    simp only [toksN]
    by_cases h0 : l = []
    · rw [if_pos h0, if_pos h0]
    · rw [if_neg h0, if_neg h0]
      cases e : step l with
      | none => rfl
      | some kn =>
        obtain ⟨k, n⟩ := kn
        have hs := step_le e
        simp only
        rw [toksN_any m m' (a + n) (l.drop n) (by rw [List.length_drop]; omega) (by rw [List.length_drop]; omega)]
/-- Tokens ahead of others. -/
def ahead (ts : List Tok) : Except Nat (List Tok) → Except Nat (List Tok)
  | .error e => .error e
  | .ok us => .ok (ts ++ us)
theorem toks_nil (a : Nat) : toks a [] = .ok [] := rfl
theorem toks_none {a : Nat} {l : List UInt8} (h0 : l ≠ []) (h : step l = none) : toks a l = .error a := by
  unfold toks
  obtain ⟨m, hm⟩ : ∃ m, l.length = m + 1 := ⟨l.length - 1, by have := List.length_pos_iff.2 h0; omega⟩
  rw [hm, toksN, if_neg h0, h]
theorem toks_some {a k n : Nat} {l : List UInt8} (h0 : l ≠ []) (h : step l = some (k, n)) : toks a l = ahead (if k = 0 then [] else [⟨k, l.take n, a⟩]) (toks (a + n) (l.drop n)) := by
  have hs := step_le h
  unfold toks
  obtain ⟨m, hm⟩ : ∃ m, l.length = m + 1 := ⟨l.length - 1, by have := List.length_pos_iff.2 h0; omega⟩
  rw [hm, toksN, if_neg h0, h]
  simp only
  rw [toksN_any m (l.drop n).length (a + n) (l.drop n) (by rw [List.length_drop]; omega) (Nat.le_refl _)]
  cases toksN (l.drop n).length (a + n) (l.drop n) with
  | error x => rfl
  | ok us => unfold ahead; by_cases hk : k = 0 <;> simp [hk]
theorem ahead_app (ts us : List Tok) (r : Except Nat (List Tok)) : ahead ts (ahead us r) = ahead (ts ++ us) r := by
  cases r with
  | error x => rfl
  | ok vs => simp [ahead]
end Go.Proofs.YtkieljleopbhoaaDoor.Lex
namespace Go.Proofs.YtkieljleopbhoaaDoor.Lex
open Go.RowKit
/-- What tells how long each kind is. -/
def lenF : Array Value := #[.func (.func 51) #[] #[], .func (.func 52) #[] #[], .func (.func 53) #[] #[], .func (.func 54) #[] #[]]
theorem below_row {B b : Nat} {a w : World} (h : Below B a w) (hB : B ≤ w.heap.size) (hb : B ≤ b) (cs : Array Value) : Below B a (w.setRow b cs) :=
  h.grown (row := some b) ⟨rfl, rfl, rfl, by simp [World.setRow], fun k _ hk => setRow_other w b k _ (fun e => hk (by rw [e]))⟩ hB (fun k hk => by cases hk; exact hb)
theorem lengths (w : World) : Calls Tryd.prog 33 #[] w fun e w' => e = .returned (.agg lenF) ∧ Below w.heap.size w w' := by
  have hR0 := heap_alloc_new w (.cells #[.nilFunc, .nilFunc, .nilFunc, .nilFunc] 64)
  go_enter Tryd.func33, Tryd.ntmps33
  go_wp2_with (refine wpList_store_row rfl 64 _ _ rfl w.heap.size lenF rfl rfl 64 _ hR0 (by kernel_rfl) rfl (by kernel_rfl) ?_)
  refine bodyPost_ret (results_cell_row rfl _ _ w.heap.size 64 lenF (0, 0) _ rfl (setRow_heap _ _ _ _ _ _ hR0) Tryd.underlying64 rfl (by kernel_rfl)) rfl ⟨rfl, ?_⟩
  exact below_row ((Below.refl _ _).alloc (Nat.le_refl _) _) (by simp) (Nat.le_refl _) _
theorem info32 : (Tryd.prog.info? 45).map (·.size) = some 3 := by kernel_rfl
theorem clone (s : ByteArray) (w : World) (h : s.size ≤ 65536) : Calls Tryd.prog 38 #[.string s] w fun e w' => e = .returned (.string s) ∧ Below w.heap.size w w' := by
  have hc := Tryd.stringslite_Clone s w (by omega)
  go_enter Tryd.func38, Tryd.ntmps38
  go_wp2_with (go_at_call 66; refine hc.mono ?_; rintro e w2 ⟨rfl, hb⟩)
  go_ret
  exact ⟨rfl, hb⟩
theorem token (k : Nat) (t : ByteArray) (at_ : Nat) (w : World) (hk : k ≤ 3) (ht : t.size ≤ 65536) :
    Calls Tryd.prog 34 #[.int .i64 (k : Int), .string t, .int .i64 (at_ : Int)] w fun e w' => e = .returned (.agg #[.int .u8 (k : Int), .string t, .int .i64 (at_ : Int)]) ∧ Below w.heap.size w w' := by
  have hR0 := heap_alloc_new w (.cells #[.int .u8 0, .string ByteArray.empty, .int .i64 0] 45)
  have hb0 : Below w.heap.size w (w.alloc (.cells #[.int .u8 0, .string ByteArray.empty, .int .i64 0] 45)) := (Below.refl _ _).alloc (Nat.le_refl _) _
  have hc := fun W => clone t W ht
  have HR : ∀ W, Below (w.alloc (.cells #[.int .u8 0, .string ByteArray.empty, .int .i64 0] 45)).heap.size (w.alloc (.cells #[.int .u8 0, .string ByteArray.empty, .int .i64 0] 45)) W → W.heap[w.heap.size]? = some (.cells #[.int .u8 0, .string ByteArray.empty, .int .i64 0] 45 (0, 0)) ∧ Below w.heap.size w W := fun W hb =>
    ⟨(hb.block _ (by simp)).trans hR0, bstep hb0 hb⟩
  clear hR0 hb0
  go_enter Tryd.func34, Tryd.ntmps34
  go_wp2_with (first
    | (go_at_call 38; refine (hc _).mono ?_; rintro e w2 ⟨rfl, hb⟩; obtain ⟨hR, hB⟩ := HR w2 hb; clear hb)
    | (refine wpList_store_row rfl 45 _ _ rfl w.heap.size #[.int .u8 (k : Int), .string t, .int .i64 (at_ : Int)] rfl rfl 45 _ hR info32 rfl (by simp [Value.oneCell']) ?_))
  refine bodyPost_ret (results_cell_row rfl _ _ w.heap.size 45 #[.int .u8 (k : Int), .string t, .int .i64 (at_ : Int)] (0, 0) _ rfl (setRow_heap _ _ _ _ _ _ hR) Tryd.underlying45 rfl info32) rfl ⟨rfl, ?_⟩
  exact below_row hB hB.size (Nat.le_refl _) _
end Go.Proofs.YtkieljleopbhoaaDoor.Lex
