/-
  Plain mathematics: a text that ends where a token begins has the tokens ahead of it.
-/
import Derived.Test.YtafelijlolidhabDoorJoinKit
namespace Go.Proofs.YtafelijlolidhabDoor.Lex
open Go.RowKit
theorem span_take (p : UInt8 → Bool) : ∀ (l : List UInt8) (m : Nat), span p (l.take m) = min (span p l) m
  | [], m => by simp [span_nil]
  | c :: l, 0 => by simp [span_nil]
  | c :: l, m + 1 => by
    rw [List.take_succ_cons, span_cons, span_cons, span_take p l m]
    split <;> omega
theorem pre_of_take {l q : List UInt8} {m : Nat} (h : Lib.hasPrefix (l.take m) q = true) : Lib.hasPrefix l q = true := by
  obtain ⟨t, ht⟩ := prefix_app h
  unfold Lib.hasPrefix
  rw [List.isPrefixOf_iff_prefix]
  exact ⟨t ++ l.drop m, by rw [← List.append_assoc, ← ht, List.take_append_drop]⟩
theorem pre_take {l q : List UInt8} {m : Nat} (h : Lib.hasPrefix l q = true) (hm : q.length ≤ m) : Lib.hasPrefix (l.take m) q = true := by
  obtain ⟨t, rfl⟩ := prefix_app h
  unfold Lib.hasPrefix
  rw [List.isPrefixOf_iff_prefix]
  exact ⟨t.take (m - q.length), by rw [List.take_append, List.take_of_length_le hm]⟩
theorem getD_take (l : List UInt8) (m : Nat) (h : 1 ≤ m) : (l.take m).getD 0 0 = l.getD 0 0 := by
  obtain ⟨m, rfl⟩ : ∃ k, m = k + 1 := ⟨m - 1, by omega⟩
  cases l <;> rfl
theorem span_pos {p : UInt8 → Bool} {l : List UInt8} (h0 : l ≠ []) (h : p (l.getD 0 0) = true) : 1 ≤ span p l := by
  cases l with
  | nil => exact absurd rfl h0
  | cons c l => rw [span_cons, if_pos (by simpa using h)]; omega
/-- What a text begins with it begins with, too, where it is cut behind that. -/
theorem step_take {l : List UInt8} {k n p : Nat} (h : step l = some (k, n)) (hp : n ≤ p) : step (l.take p) = some (k, n) := by
  obtain ⟨hn1, hnl, _⟩ := step_le h
  have hp1 : 1 ≤ p := by omega
  have h0 : l ≠ [] := by rintro rfl; simp at hnl; omega
  have hsil0 : silLen l = 0 → silLen (l.take p) = 0 := fun hs => by
    have hnp : ¬ Lib.hasPrefix l [45, 45] = true := fun hq => by
      unfold silLen at hs
      rw [if_pos hq] at hs
      obtain ⟨t, ht⟩ := prefix_app hq
      have := span_pos (p := ofLine) h0 (by rw [ht]; show ofLine 45 = true; decide)
      omega
    unfold silLen at hs ⊢
    rw [if_neg hnp] at hs
    rw [if_neg (fun hq => hnp (pre_of_take hq)), span_take, hs]
    omega
  have hw0 : wordLen l = 0 → wordLen (l.take p) = 0 := fun hs => by
    unfold wordLen at hs ⊢
    rw [span_take, span_take]
    split at hs
    · next e => rw [if_pos (by omega)]
    · split
      · rfl
      · omega
  unfold step at h
  split at h
  · next hs =>
    injection h with h; injection h with e1 e2
    subst e1
    have : silLen (l.take p) = n := by
      unfold silLen at e2 ⊢
      split at e2
      · next hq =>
        have h2 : 2 ≤ n := by
          obtain ⟨t, ht⟩ := prefix_app hq
          rw [← e2, ht]
          show 2 ≤ span ofLine (45 :: 45 :: t)
          rw [span_cons, span_cons, if_pos (by decide), if_pos (by decide)]
          omega
        rw [if_pos (pre_take hq (by simpa using (by omega : 2 ≤ p))), span_take]
        omega
      · next hq => rw [if_neg (fun hq' => hq (pre_of_take hq')), span_take]; omega
    unfold step
    rw [this, if_pos (by omega)]
  · next hs =>
    have hs' := hsil0 (by omega)
    split at h
    · next hw =>
      injection h with h; injection h with e1 e2
      subst e1
      have : wordLen (l.take p) = n := by
        unfold wordLen at e2 ⊢
        rw [span_take, span_take]
        split at e2
        · omega
        · rw [if_neg (by omega)]; omega
      unfold step
      rw [hs', this, if_neg (by omega), if_pos (by omega)]
    · next hw =>
      have hw' := hw0 (by omega)
      split at h
      · next hn =>
        injection h with h; injection h with e1 e2
        subst e1
        have : numLen (l.take p) = n := by
          unfold numLen at e2 ⊢
          rw [span_take, getD_take l p hp1]
          split at e2
          · omega
          · next hc => rw [if_neg (fun hh => hc ⟨by omega, hh.2⟩)]; omega
        unfold step
        rw [hs', hw', this, if_neg (by omega), if_neg (by omega), if_pos (by omega)]
      · next hn =>
        split at h
        · next hg =>
          injection h with h; injection h with e1 e2
          subst e1
          have hnd : digit (l.getD 0 0) = false := by
            cases hd : digit (l.getD 0 0) with
            | false => rfl
            | true =>
              have hstep := step_digit hd
              rw [if_neg hn] at hstep
              unfold step at hstep
              rw [if_neg hs, if_neg hw, if_neg hn, if_pos hg] at hstep
              cases hstep
          have hn' : numLen (l.take p) = 0 := by
            have : span digit (l.take p) = 0 := span_zero _ _ (by rw [getD_take l p hp1]; exact hnd)
            unfold numLen
            rw [this]
            simp
          have hg' : signLen (l.take p) = n := by
            rw [← e2]
            unfold signLen
            unfold signLen at e2
            have key : ∀ (ps : List ByteArray) (m : Nat), (match ps.find? fun q => Lib.hasPrefix l q.data.toList with | some q => q.size | none => 0) = m → m ≠ 0 → m ≤ p → ps.find? (fun q => Lib.hasPrefix (l.take p) q.data.toList) = ps.find? fun q => Lib.hasPrefix l q.data.toList := by
              intro ps
              induction ps with
              | nil => intro m _ _ _; rfl
              | cons q ps ih =>
                intro m hm hm0 hmp
                simp only [List.find?] at hm ⊢
                cases hq : Lib.hasPrefix l q.data.toList with
                | true =>
                  rw [hq] at hm
                  simp only at hm
                  rw [pre_take hq (by rw [← Lib.size_eq]; omega)]
                | false =>
                  rw [hq] at hm
                  simp only at hm
                  have : Lib.hasPrefix (l.take p) q.data.toList = false := by
                    cases hq' : Lib.hasPrefix (l.take p) q.data.toList with
                    | false => rfl
                    | true => rw [pre_of_take hq'] at hq; cases hq
                  rw [this]
                  exact ih m hm hm0 hmp
            rw [key sgL n e2 (by omega) hp]
          unfold step
          rw [hs', hw', hn', hg', if_neg (by omega), if_neg (by omega), if_neg (by omega), if_pos (by omega)]
        · cases h
/-- A text that ends where a token begins. -/
theorem toks_take : ∀ (m : Nat) (l : List UInt8) (a : Nat) (ts : List Tok), l.length = m → toks a l = .ok ts → ∀ (k : Nat) (hk : k < ts.length), a ≤ ts[k].at_ ∧ ts[k].at_ ≤ a + l.length ∧ toks a (l.take (ts[k].at_ - a)) = .ok (ts.take k) := by
  intro m
  induction m using Nat.strongRecOn with
  | _ m ih =>
    intro l a ts hm h k hk
    by_cases h0 : l = []
    · subst h0; rw [toks_nil] at h; injection h with h; subst h; cases hk
    · cases hst : step l with
      | none => rw [toks_none h0 hst] at h; cases h
      | some kn =>
        obtain ⟨kd, n⟩ := kn
        obtain ⟨h1, h2, _⟩ := step_le hst
        rw [toks_some h0 hst] at h
        cases hr : toks (a + n) (l.drop n) with
        | error e => rw [hr] at h; cases h
        | ok us =>
          rw [hr] at h
          injection h with h
          have IH := ih (l.drop n).length (by rw [List.length_drop]; omega) (l.drop n) (a + n) us rfl hr
          have go : ∀ (j : Nat) (hj : j < us.length), a ≤ us[j].at_ ∧ us[j].at_ ≤ a + l.length ∧ toks a (l.take (us[j].at_ - a)) = ahead (if kd = 0 then [] else [⟨kd, l.take n, a⟩]) (.ok (us.take j)) := fun j hj => by
            obtain ⟨g1, g2, g3⟩ := IH j hj
            rw [List.length_drop] at g2
            have hle : n ≤ us[j].at_ - a := by omega
            refine ⟨by omega, by omega, ?_⟩
            have hne : l.take (us[j].at_ - a) ≠ [] := by
              intro e
              have e2 := congrArg List.length e
              rw [List.length_take, List.length_nil] at e2
              omega
            rw [toks_some hne (step_take hst hle), List.take_take, Nat.min_eq_left hle, List.drop_take, show us[j].at_ - a - n = us[j].at_ - (a + n) by omega, g3]
          by_cases hkd : kd = 0
          · rw [if_pos hkd, List.nil_append] at h
            subst h
            obtain ⟨g1, g2, g3⟩ := go k hk
            exact ⟨g1, g2, by rw [g3, if_pos hkd]; rfl⟩
          · rw [if_neg hkd] at h
            subst h
            cases k with
            | zero => exact ⟨Nat.le_refl _, by show a ≤ _; omega, by show toks a (l.take (a - a)) = _; rw [Nat.sub_self]; exact toks_nil a⟩
            | succ j =>
              have hj : j < us.length := by simpa using hk
              obtain ⟨g1, g2, g3⟩ := go j hj
              exact ⟨g1, g2, by show toks a (l.take (us[j].at_ - a)) = _; rw [g3, if_neg hkd]; rfl⟩
end Go.Proofs.YtafelijlolidhabDoor.Lex
