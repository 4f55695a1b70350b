/-
  How many bytes a word, a number has; the document's own functions for them.
-/
import Derived.Test.YtkieljleopbhoaaDoorRun
namespace Go.Proofs.YtkieljleopbhoaaDoor.Lex
open Go.RowKit
theorem bstep {w w1 w2 : World} (h1 : Below w.heap.size w w1) (h2 : Below w1.heap.size w1 w2) : Below w.heap.size w w2 := h1.trans (h2.mono h1.size)
def wordLen (l : List UInt8) : Nat := if span letter l = 0 then 0 else span ofWord l
def numLen (l : List UInt8) : Nat := if 1 < span digit l ∧ (l.getD 0 0).toNat = 48 then 0 else span digit l
theorem wordLength (s : ByteArray) (w : World) : Calls Tryd.prog 52 #[.string s] w fun e w' => e = .returned (.int .i64 (wordLen s.data.toList : Int)) ∧ Below w.heap.size w w' := by
  have h1 := run_letter s w
  have h2 := fun W => run_ofWord s W
  unfold wordLen
  generalize span letter s.data.toList = a at h1
  generalize span ofWord s.data.toList = b at h2
  by_cases ha : a = 0
  · subst ha
    go_enter Tryd.func52, Tryd.ntmps52
    go_wp2_with (go_at_call 74; refine h1.mono ?_; rintro e w2 ⟨rfl, hk2⟩)
    go_ret
    exact ⟨rfl, hk2⟩
  · rw [if_neg ha]
    have hz : ((a : Int) == 0) = false := by simp; omega
    have p1 : Hid True := trivial
    clear ha
    go_enter Tryd.func52, Tryd.ntmps52
    go_wp2_with (go_at_call 74; first
      | (clear p1; refine h1.mono ?_; rintro e w2 ⟨rfl, hk2⟩)
      | (refine (h2 w2).mono ?_; rintro e w3 ⟨rfl, hk3⟩))
    go_ret
    exact ⟨rfl, bstep hk2 hk3⟩
theorem numberLength (s : ByteArray) (w : World) : Calls Tryd.prog 53 #[.string s] w fun e w' => e = .returned (.int .i64 (numLen s.data.toList : Int)) ∧ Below w.heap.size w w' := by
  have h1 := run_digit s w
  have hsz := span_le digit s.data.toList
  rw [← Lib.size_eq] at hsz
  unfold numLen
  generalize span digit s.data.toList = a at h1 hsz
  by_cases ha : 1 < a
  · have h0 : 0 < s.size := by omega
    have h0' : (0 : Int) < (s.size : Int) := by omega
    have ha' : (1 : Int) < (a : Int) := by omega
    rw [getD_get s 0 h0]
    obtain ⟨c, hc⟩ : ∃ c, s[0]'h0 = c := ⟨_, rfl⟩
    rw [hc]
    by_cases h48 : c.toNat = 48
    · rw [if_pos ⟨ha, h48⟩]
      have hb : ((c.toNat : Int) == 48) = true := by simp; omega
      clear h48
      go_enter Tryd.func53, Tryd.ntmps53
      go_wp2_with (go_at_call 74; refine h1.mono ?_; rintro e w2 ⟨rfl, hk2⟩)
      go_ret
      exact ⟨rfl, hk2⟩
    · rw [if_neg (fun h => h48 h.2)]
      have hb : ((c.toNat : Int) == 48) = false := by simp; omega
      clear h48
      go_enter Tryd.func53, Tryd.ntmps53
      go_wp2_with (go_at_call 74; refine h1.mono ?_; rintro e w2 ⟨rfl, hk2⟩)
      go_ret
      exact ⟨rfl, hk2⟩
  · have ha' : ¬ (1 : Int) < (a : Int) := by omega
    rw [if_neg (fun h => ha h.1)]
    clear ha
    go_enter Tryd.func53, Tryd.ntmps53
    go_wp2_with (go_at_call 74; refine h1.mono ?_; rintro e w2 ⟨rfl, hk2⟩)
    go_ret
    exact ⟨rfl, hk2⟩
/-! ### The document's own -/
theorem refDigit (c : UInt8) (w : World) : Calls Tryd.prog 93 #[.int .u8 (c.toNat : Int)] w fun e w' => e = .returned (.bool (digit c)) ∧ w' = w := by
  rw [← digit_byte]
  unfold rDigit
  generalize (c.toNat : Int) = r
  by_cases h : 48 ≤ r
  · go_enter Tryd.func93, Tryd.ntmps93
    go_wp2
    go_ret
    exact ⟨by simp [h], rfl⟩
  · go_enter Tryd.func93, Tryd.ntmps93
    go_wp2
    go_ret
    have e : decide (48 ≤ r) = false := decide_eq_false (by omega)
    exact ⟨by simp [e], rfl⟩
theorem refLetter (c : UInt8) (w : World) : Calls Tryd.prog 92 #[.int .u8 (c.toNat : Int)] w fun e w' => e = .returned (.bool (letter c)) ∧ w' = w := by
  rw [← letter_byte]
  generalize (c.toNat : Int) = r
  by_cases h1 : 97 ≤ r ∧ r ≤ 122
  · obtain ⟨ha, hb⟩ := h1
    have Hr : Hid (rLetter r = true) := by unfold Hid rLetter; simp [ha, hb]
    go_enter Tryd.func92, Tryd.ntmps92
    go_wp2
    go_ret
    exact ⟨by rw [Hr.out]; simp, rfl⟩
  · by_cases h2 : 65 ≤ r ∧ r ≤ 90
    · obtain ⟨ha, hb⟩ := h2
      have hc : ¬ 97 ≤ r := by omega
      have Hr : Hid (rLetter r = true) := by unfold Hid rLetter; simp [ha, hb]
      clear h1
      go_enter Tryd.func92, Tryd.ntmps92
      go_wp2
      go_ret
      exact ⟨by rw [Hr.out]; simp, rfl⟩
    · have Hr : Hid (rLetter r = false) := by unfold Hid rLetter; simp; omega
      by_cases h3 : 97 ≤ r
      · have h4 : ¬ r ≤ 122 := by omega
        have h5 : ¬ r ≤ 90 := by omega
        have h6 : 65 ≤ r := by omega
        clear h1 h2
        go_enter Tryd.func92, Tryd.ntmps92
        go_wp2
        go_ret
        exact ⟨by rw [Hr.out]; simp, rfl⟩
      · by_cases h6 : 65 ≤ r
        · have h5 : ¬ r ≤ 90 := by omega
          clear h1 h2
          go_enter Tryd.func92, Tryd.ntmps92
          go_wp2
          go_ret
          exact ⟨by rw [Hr.out]; simp, rfl⟩
        · clear h1 h2
          go_enter Tryd.func92, Tryd.ntmps92
          go_wp2
          go_ret
          exact ⟨by rw [Hr.out]; simp, rfl⟩
theorem drop_getD (l : List UInt8) (a i : Nat) : (l.drop a).getD i 0 = l.getD (a + i) 0 := by simp [List.getD, List.getElem?_drop]
theorem letter_ofWord {c : UInt8} (h : letter c = true) : ofWord c = true := by unfold ofWord; rw [h]; rfl
/-- The i-th byte of a word may stand there. -/
def okW (c : UInt8) (i : Nat) : Bool := letter c || (decide (0 < i) && (digit c || c.toNat == 95))
theorem okW_ofWord {c : UInt8} {i : Nat} (h : okW c i = true) : ofWord c = true := by
  unfold okW at h; unfold ofWord
  cases hl : letter c <;> rw [hl] at h <;> simp_all
theorem okW_succ (c : UInt8) (i : Nat) (h : 0 < i) : okW c i = ofWord c := by
  unfold okW ofWord; rw [decide_eq_true h, Bool.true_and, Bool.or_assoc]
theorem okW_zero (c : UInt8) : okW c 0 = letter c := by unfold okW; simp
theorem wordLen_eq (l : List UInt8) (k : Nat) (hk : k ≤ l.length) (h1 : ∀ i, i < k → okW (l.getD i 0) i = true) (h2 : k = l.length ∨ okW (l.getD k 0) k = false) : wordLen l = k := by
  unfold wordLen
  by_cases h0 : k = 0
  · subst h0
    have : span letter l = 0 := span_eq letter l 0 hk (fun i hi => by omega) (h2.imp id fun h => by rwa [okW_zero] at h)
    rw [if_pos this]
  · have ha : span letter l ≠ 0 := fun h => by
      have hs := span_stop letter l (by omega)
      rw [h] at hs
      have := h1 0 (by omega)
      rw [okW_zero] at this
      rw [this] at hs; cases hs
    rw [if_neg ha]
    exact span_eq ofWord l k hk (fun i hi => okW_ofWord (h1 i hi)) (h2.imp id fun h => by rwa [okW_succ _ _ (by omega)] at h)
set_option maxHeartbeats 1000000 in
theorem refWord (s : ByteArray) (a : Nat) (w : World) (ha : a ≤ s.size) (hs : s.size ≤ 140737488355328) : Calls Tryd.prog 73 #[.string s, .int .i64 (a : Int)] w fun e w' => e = .returned (.int .i64 (wordLen (s.data.toList.drop a) : Int)) ∧ w' = w := by
  have HL : Hid (s.data.toList.length = s.size) := (Lib.size_eq s).symm
  go_enter Tryd.func73, Tryd.ntmps73
  go_wp2
  go_loop [5] (fun n => ∃ k : Nat, a + k ≤ s.size ∧ n = .int .i64 ((a : Int) + (k : Int)) ∧ Hid (∀ i, i < k → okW (s.data.toList.getD (a + i) 0) i = true)) (fun n => s.size - (intOf n).toNat)
  case atStart => exact ⟨0, by omega, by go_num, fun i hi => by omega⟩
  case round =>
    obtain ⟨k, hk, rfl, hall⟩ := hrel
    by_cases hlt : a + k < s.size
    · have hlt' : (a : Int) + (k : Int) < (s.size : Int) := by omega
      have hg := getD_get s (a + k) hlt
      obtain ⟨c, hc⟩ : ∃ c, s[a + k]'hlt = c := ⟨_, rfl⟩
      rw [hc] at hg
      have Hnew : Hid (okW c k = true → Hid (∀ i, i < k + 1 → okW (s.data.toList.getD (a + i) 0) i = true)) := fun h i hi => by
        by_cases e : i = k
        · subst e; rw [hg]; exact h
        · exact hall.out i (by omega)
      have Hstop : Hid (okW c k = false → wordLen (s.data.toList.drop a) = k) := fun h =>
        wordLen_eq _ k (by rw [List.length_drop, HL.out]; omega) (fun i hi => by rw [drop_getD]; exact hall.out i hi) (.inr (by rw [drop_getD, hg]; exact h))
      have hl := fun W => refLetter c W
      have hd := fun W => refDigit c W
      have hi0 : (0 : Int) ≤ (a : Int) + (k : Int) := by omega
      clear hg hall
      cases h1 : letter c
      · rw [h1] at hl
        by_cases hk0 : k = 0
        · have hk' : ¬ (a : Int) < (a : Int) + (k : Int) := by omega
          have HO : Hid (okW c k = false) := by unfold Hid; rw [hk0, okW_zero]; exact h1
          clear hd h1 hk0
          go_wp2_with (go_at_call 92; refine (hl _).mono ?_; rintro e w2 ⟨rfl, h⟩; rw [h]; clear h w2)
          go_ret
          refine ⟨?_, rfl⟩
          rw [Hstop.out HO.out]
          go_num
        · have hk' : (a : Int) < (a : Int) + (k : Int) := by omega
          have hk0' : 0 < k := by omega
          cases h2 : digit c
          · rw [h2] at hd
            cases h3 : (c.toNat == 95)
            · have h3' : ((c.toNat : Int) == 95) = false := by rw [← eq_byte c 95] at h3; exact h3
              have HO : Hid (okW c k = false) := by unfold Hid okW; rw [h1, h2, h3]; simp
              clear h1 h2 h3
              go_wp2_with (first
                | (go_at_call 92; refine (hl _).mono ?_; rintro e w2 ⟨rfl, h⟩; rw [h]; clear h w2)
                | (go_at_call 93; refine (hd _).mono ?_; rintro e w2 ⟨rfl, h⟩; rw [h]; clear h w2))
              go_ret
              refine ⟨?_, rfl⟩
              rw [Hstop.out HO.out]
              go_num
            · have h3' : ((c.toNat : Int) == 95) = true := by rw [← eq_byte c 95] at h3; exact h3
              have HO : Hid (okW c k = true) := by unfold Hid okW; rw [h1, h2, h3]; simp [hk0']
              clear h1 h2 h3
              go_wp2_with (first
                | (go_at_call 92; refine (hl _).mono ?_; rintro e w2 ⟨rfl, h⟩; rw [h]; clear h w2)
                | (go_at_call 93; refine (hd _).mono ?_; rintro e w2 ⟨rfl, h⟩; rw [h]; clear h w2))
              go_round
              case rel => exact ⟨k + 1, by omega, by go_num, Hnew.out HO.out⟩
              case measure => simp [intOf]; omega
          · rw [h2] at hd
            have HO : Hid (okW c k = true) := by unfold Hid okW; rw [h1, h2]; simp [hk0']
            clear h1 h2
            go_wp2_with (first
              | (go_at_call 92; refine (hl _).mono ?_; rintro e w2 ⟨rfl, h⟩; rw [h]; clear h w2)
              | (go_at_call 93; refine (hd _).mono ?_; rintro e w2 ⟨rfl, h⟩; rw [h]; clear h w2))
            go_round
            case rel => exact ⟨k + 1, by omega, by go_num, Hnew.out HO.out⟩
            case measure => simp [intOf]; omega
      · rw [h1] at hl
        have HO : Hid (okW c k = true) := by unfold Hid okW; rw [h1]; rfl
        clear h1 hd
        go_wp2_with (go_at_call 92; refine (hl _).mono ?_; rintro e w2 ⟨rfl, h⟩; rw [h]; clear h w2)
        go_round
        case rel => exact ⟨k + 1, by omega, by go_num, Hnew.out HO.out⟩
        case measure => simp [intOf]; omega
    · have hlt' : ¬ (a : Int) + (k : Int) < (s.size : Int) := by omega
      have He : Hid (wordLen (s.data.toList.drop a) = k) := wordLen_eq _ k (by rw [List.length_drop, HL.out]; omega) (fun i hi => by rw [drop_getD]; exact hall.out i hi) (.inl (by rw [List.length_drop, HL.out]; omega))
      clear hall
      go_wp2
      go_ret
      refine ⟨?_, rfl⟩
      rw [He.out]
      go_num
/-! ### A number -/
end Go.Proofs.YtkieljleopbhoaaDoor.Lex
