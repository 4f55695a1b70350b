/-
  How many bytes a word, a number has; the document's own functions for them.
-/
import Derived.Test.YtafelijlolidhabDoorRun
namespace Go.Proofs.YtafelijlolidhabDoor.Lex
open Go.RowKit
theorem bstep {w w1 w2 : World} (h1 : Below w.heap.size w w1) (h2 : Below w1.heap.size w1 w2) : Below w.heap.size w w2 := h1.trans (h2.mono h1.size)
def wordLen (l : List UInt8) : Nat := if span letter l = 0 then 0 else span ofWord l
def numLen (l : List UInt8) : Nat := if 1 < span digit l ∧ (l.getD 0 0).toNat = 48 then 0 else span digit l
theorem wordLength (s : ByteArray) (w : World) : Calls Tryd.prog 10 #[.string s] w fun e w' => e = .returned (.int .i64 (wordLen s.data.toList : Int)) ∧ Below w.heap.size w w' := by
  have h1 := run_letter s w
  have h2 := fun W => run_ofWord s W
  unfold wordLen
  generalize span letter s.data.toList = a at h1
  generalize span ofWord s.data.toList = b at h2
  by_cases ha : a = 0
  · subst ha
    go_enter Tryd.func10, Tryd.ntmps10
    go_wp2_with (go_at_call 16; refine h1.mono ?_; rintro e w2 ⟨rfl, hk2⟩)
    go_ret
    exact ⟨rfl, hk2⟩
  · rw [if_neg ha]
    have hz : ((a : Int) == 0) = false := by simp; omega
    have p1 : Hid True := trivial
    clear ha
    go_enter Tryd.func10, Tryd.ntmps10
    go_wp2_with (go_at_call 16; first
      | (clear p1; refine h1.mono ?_; rintro e w2 ⟨rfl, hk2⟩)
      | (refine (h2 w2).mono ?_; rintro e w3 ⟨rfl, hk3⟩))
    go_ret
    exact ⟨rfl, bstep hk2 hk3⟩
theorem numberLength (s : ByteArray) (w : World) : Calls Tryd.prog 14 #[.string s] w fun e w' => e = .returned (.int .i64 (numLen s.data.toList : Int)) ∧ Below w.heap.size w w' := by
  have h1 := run_digit s w
  have hsz := span_le digit s.data.toList
  rw [← Lib.size_eq] at hsz
  unfold numLen
  generalize span digit s.data.toList = a at h1 hsz
  by_cases ha : 1 < a
  · have h0 : 0 < s.size := by omega
    have h0' : (0 : Int) < (s.size : Int) := by omega
    have ha' : (1 : Int) < (a : Int) := by omega
    rw [getD_get s 0 h0]
    obtain ⟨c, hc⟩ : ∃ c, s[0]'h0 = c := ⟨_, rfl⟩
    rw [hc]
    by_cases h48 : c.toNat = 48
    · rw [if_pos ⟨ha, h48⟩]
      have hb : ((c.toNat : Int) == 48) = true := by simp; omega
      clear h48
      go_enter Tryd.func14, Tryd.ntmps14
      go_wp2_with (go_at_call 16; refine h1.mono ?_; rintro e w2 ⟨rfl, hk2⟩)
      go_ret
      exact ⟨rfl, hk2⟩
    · rw [if_neg (fun h => h48 h.2)]
      have hb : ((c.toNat : Int) == 48) = false := by simp; omega
      clear h48
      go_enter Tryd.func14, Tryd.ntmps14
      go_wp2_with (go_at_call 16; refine h1.mono ?_; rintro e w2 ⟨rfl, hk2⟩)
      go_ret
      exact ⟨rfl, hk2⟩
  · have ha' : ¬ (1 : Int) < (a : Int) := by omega
    rw [if_neg (fun h => ha h.1)]
    clear ha
    go_enter Tryd.func14, Tryd.ntmps14
    go_wp2_with (go_at_call 16; refine h1.mono ?_; rintro e w2 ⟨rfl, hk2⟩)
    go_ret
    exact ⟨rfl, hk2⟩
/-! ### The document's own -/
theorem drop_getD (l : List UInt8) (a i : Nat) : (l.drop a).getD i 0 = l.getD (a + i) 0 := by simp [List.getD, List.getElem?_drop]
theorem letter_ofWord {c : UInt8} (h : letter c = true) : ofWord c = true := by unfold ofWord; rw [h]; rfl
/-- The i-th byte of a word may stand there. -/
def okW (c : UInt8) (i : Nat) : Bool := letter c || (decide (0 < i) && (digit c || c.toNat == 95))
theorem okW_ofWord {c : UInt8} {i : Nat} (h : okW c i = true) : ofWord c = true := by
  unfold okW at h; unfold ofWord
  cases hl : letter c <;> rw [hl] at h <;> simp_all
theorem okW_succ (c : UInt8) (i : Nat) (h : 0 < i) : okW c i = ofWord c := by
  unfold okW ofWord; rw [decide_eq_true h, Bool.true_and, Bool.or_assoc]
theorem okW_zero (c : UInt8) : okW c 0 = letter c := by unfold okW; simp
theorem wordLen_eq (l : List UInt8) (k : Nat) (hk : k ≤ l.length) (h1 : ∀ i, i < k → okW (l.getD i 0) i = true) (h2 : k = l.length ∨ okW (l.getD k 0) k = false) : wordLen l = k := by
  unfold wordLen
  by_cases h0 : k = 0
  · subst h0
    have : span letter l = 0 := span_eq letter l 0 hk (fun i hi => by omega) (h2.imp id fun h => by rwa [okW_zero] at h)
    rw [if_pos this]
  · have ha : span letter l ≠ 0 := fun h => by
      have hs := span_stop letter l (by omega)
      rw [h] at hs
      have := h1 0 (by omega)
      rw [okW_zero] at this
      rw [this] at hs; cases hs
    rw [if_neg ha]
    exact span_eq ofWord l k hk (fun i hi => okW_ofWord (h1 i hi)) (h2.imp id fun h => by rwa [okW_succ _ _ (by omega)] at h)
/-! ### A number -/
end Go.Proofs.YtafelijlolidhabDoor.Lex
