/-
  Plain mathematics: a token's own text, with a blank behind it, begins with that token.
-/
import Derived.Test.YtafelijlolidhaaDoorJoin
namespace Go.Proofs.YtafelijlolidhaaDoor.Lex
open Go.RowKit
theorem span_stop_at (p : UInt8 → Bool) (c : UInt8) (h : p c = false) : ∀ (l r : List UInt8), span p (l ++ c :: r) = span p l
  | [], r => by rw [List.nil_append, span_cons, h]; rfl
  | d :: l, r => by rw [List.cons_append, span_cons, span_cons, span_stop_at p c h l r]
theorem prefix_stop (c : UInt8) : ∀ (p l r : List UInt8), c ∉ p → Lib.hasPrefix (l ++ c :: r) p = Lib.hasPrefix l p
  | [], l, r, _ => by simp [Lib.hasPrefix]
  | x :: p, [], r, h => by
    have hx : x ≠ c := fun e => h (by rw [e]; exact List.mem_cons_self ..)
    simp [Lib.hasPrefix, List.isPrefixOf, hx]
  | x :: p, d :: l, r, h => by
    have := prefix_stop c p l r (fun hm => h (List.mem_cons_of_mem _ hm))
    simp only [Lib.hasPrefix, List.cons_append, List.isPrefixOf] at this ⊢
    rw [this]
theorem prefix_take {p l : List UInt8} {n : Nat} (h : Lib.hasPrefix (l.take n) p = true) : Lib.hasPrefix l p = true := by
  unfold Lib.hasPrefix at h ⊢
  rw [List.isPrefixOf_iff_prefix] at h ⊢
  exact h.trans (List.take_prefix n l)
theorem sgL_blank (c : UInt8) (hc : blank c = true) : ∀ p ∈ sgL, c ∉ p.data.toList := by
  have : ∀ p ∈ sgL, ∀ d ∈ p.data.toList, blank d = false := by decide
  intro p hp hm
  rw [this p hp c hm] at hc
  cases hc
theorem blank_noWord {c : UInt8} (hc : blank c = true) : ofWord c = false ∧ letter c = false ∧ digit c = false ∧ c ≠ 45 := by
  unfold blank at hc
  simp at hc
  refine ⟨?_, ?_, ?_, ?_⟩
  · unfold ofWord letter digit; simp; omega
  · unfold letter; simp; omega
  · unfold digit; simp; omega
  · intro e; rw [e] at hc; simp at hc
theorem find_less {P Q : ByteArray → Bool} {q : ByteArray} (hPQ : ∀ p, Q p = true → P p = true) (hq : Q q = true) : ∀ (l : List ByteArray), l.find? P = some q → l.find? Q = some q
  | [], h => by cases h
  | a :: l, h => by
    simp only [List.find?] at h ⊢
    cases hp : P a with
    | true => rw [hp] at h; injection h with h; subst h; rw [hq]
    | false =>
      rw [hp] at h
      cases hQ : Q a with
      | true => rw [hPQ a hQ] at hp; cases hp
      | false => exact find_less hPQ hq l h
theorem signLen_own (l : List UInt8) (c : UInt8) (hc : blank c = true) (r : List UInt8) (h : signLen l ≠ 0) : signLen (l.take (signLen l) ++ c :: r) = signLen l ∧ digit (l.getD 0 0) = false := by
  have hcong : ∀ (x : List UInt8) (ps : List ByteArray), (∀ p ∈ ps, c ∉ p.data.toList) → ps.find? (fun p => Lib.hasPrefix (x ++ c :: r) p.data.toList) = ps.find? fun p => Lib.hasPrefix x p.data.toList := by
    intro x ps
    induction ps with
    | nil => intro _; rfl
    | cons p ps ih =>
      intro h
      simp only [List.find?]
      rw [prefix_stop c _ x r (h p (List.mem_cons_self ..)), ih fun q hq => h q (List.mem_cons_of_mem _ hq)]
  cases hf : sgL.find? fun p => Lib.hasPrefix l p.data.toList with
  | none => exfalso; apply h; unfold signLen; rw [hf]
  | some q =>
    have hn : signLen l = q.size := by unfold signLen; rw [hf]
    have hq := List.find?_some hf
    obtain ⟨t, ht⟩ := prefix_app hq
    have hz : q.size = q.data.toList.length := Lib.size_eq q
    have htake : l.take (signLen l) = q.data.toList := by rw [hn, hz, ht, List.take_left']; rfl
    constructor
    · unfold signLen at hn ⊢
      rw [hcong _ _ (sgL_blank c hc), find_less (P := fun p => Lib.hasPrefix l p.data.toList) (fun p hp => prefix_take hp) ?_ _ hf, hf]
      show Lib.hasPrefix (l.take (signLen l)) q.data.toList = true
      rw [htake]
      unfold Lib.hasPrefix
      rw [List.isPrefixOf_iff_prefix]
      exact List.prefix_refl _
    · obtain ⟨k, hk, e⟩ := List.mem_iff_getElem.1 (List.mem_of_find?_eq_some hf)
      have e2 : sgS k = q := by
        unfold sgS
        rw [List.getD_eq_getElem?_getD, List.getElem?_eq_getElem hk, e]
        rfl
      have hs := sg_size k hk
      have hd := sg_nodigit k hk
      rw [e2] at hs hd
      rw [ht, getD_app _ _ _ (by omega)]
      exact hd
/-- The text of a token with a blank behind it, whatever follows. -/
theorem step_own {l : List UInt8} {k n : Nat} (h : step l = some (k, n)) (hk : k ≠ 0) (c : UInt8) (hc : blank c = true) (r : List UInt8) : step (l.take n ++ c :: r) = some (k, n) := by
  obtain ⟨h1, h2, _⟩ := step_le h
  obtain ⟨w1, w2, w3, w4⟩ := blank_noWord hc
  have hlen : (l.take n).length = n := by rw [List.length_take]; omega
  have hget : ∀ i, i < n → (l.take n).getD i 0 = l.getD i 0 := fun i hi => by simp [List.getD, hi]
  have hhead : (l.take n ++ c :: r).getD 0 0 = l.getD 0 0 := by rw [getD_app _ _ _ (by omega), hget 0 (by omega)]
  have hspan : ∀ p : UInt8 → Bool, p c = false → n ≤ span p l → span p (l.take n ++ c :: r) = n := fun p hp hn => by
    rw [span_stop_at p c hp]
    exact span_eq p _ n (by omega) (fun i hi => by rw [hget i hi]; exact span_at p l i (by omega)) (.inl (by omega))
  have hzero : ∀ p : UInt8 → Bool, span p l = 0 → span p (l.take n ++ c :: r) = 0 := fun p hp => by
    apply span_zero
    rw [hhead]
    have := span_stop p l (by omega)
    rw [hp] at this
    exact this
  -- nothing silent
  have hs0 : silLen l = 0 := by
    unfold step at h
    split at h
    · injection h with h; injection h with e1 e2; exact (hk e1.symm).elim
    · next h0 => simpa using h0
  have hnp : Lib.hasPrefix l [45, 45] = false ∧ span blank l = 0 := by
    unfold silLen at hs0
    split at hs0
    · next hp =>
      obtain ⟨t, ht⟩ := prefix_app hp
      rw [ht, List.cons_append, span_cons, if_pos (by decide)] at hs0
      omega
    · next hp => exact ⟨by simpa using hp, hs0⟩
  have hs : silLen (l.take n ++ c :: r) = 0 := by
    unfold silLen
    rw [prefix_stop c [45, 45] _ r (by simp; exact w4)]
    have : Lib.hasPrefix (l.take n) [45, 45] = false := by
      cases e : Lib.hasPrefix (l.take n) [45, 45] with
      | false => rfl
      | true => rw [prefix_take e] at hnp; cases hnp.1
    rw [this, if_neg (by simp)]
    exact hzero blank hnp.2
  unfold step at h ⊢
  rw [hs]
  rw [hs0] at h
  simp only [ne_eq, not_true_eq_false, if_false] at h ⊢
  split at h
  · next hw =>
    injection h with h; injection h with e1 e2
    subst e1
    have hl0 : span letter l ≠ 0 := by intro e; unfold wordLen at hw; rw [if_pos e] at hw; exact hw rfl
    have hwl : wordLen l = span ofWord l := by unfold wordLen; rw [if_neg hl0]
    have : wordLen (l.take n ++ c :: r) = n := by
      unfold wordLen
      rw [hspan ofWord w1 (by omega), if_neg]
      intro e
      have := span_at letter l 0 (by omega)
      rw [← hhead] at this
      have h3 := span_stop letter (l.take n ++ c :: r) (by rw [e, List.length_append]; simp; omega)
      rw [e, this] at h3
      cases h3
    rw [this, if_pos (by omega)]
  · next hw =>
    have hl0 : letter (l.getD 0 0) = false := by
      cases e : letter (l.getD 0 0) with
      | false => rfl
      | true =>
        exfalso
        apply hw
        have hp : 0 < span letter l := by
          cases l with
          | nil => simp at h2; omega
          | cons d t => rw [span_cons, if_pos (show letter d = true from e)]; omega
        have hp2 : 0 < span ofWord l := by
          cases l with
          | nil => simp at h2; omega
          | cons d t => rw [span_cons, if_pos (letter_ofWord (show letter d = true from e))]; omega
        unfold wordLen
        rw [if_neg (by omega)]
        omega
    have hw2 : wordLen (l.take n ++ c :: r) = 0 := by unfold wordLen; rw [if_pos (span_zero _ _ (by rw [hhead]; exact hl0))]
    rw [hw2]
    simp only [not_true_eq_false, if_false]
    split at h
    · next hn =>
      injection h with h; injection h with e1 e2
      subst e1
      have hd : numLen l = span digit l ∧ ¬ (1 < span digit l ∧ (l.getD 0 0).toNat = 48) := by
        unfold numLen at hn ⊢
        split at hn
        · exact (hn rfl).elim
        · next hc => rw [if_neg hc]; exact ⟨rfl, hc⟩
      have : numLen (l.take n ++ c :: r) = n := by
        unfold numLen
        rw [hspan digit w3 (by omega), hhead, if_neg]
        intro ⟨q1, q2⟩
        exact hd.2 ⟨by omega, q2⟩
      rw [this, if_pos (by omega)]
    · next hn =>
      split at h
      · next hsg =>
        injection h with h; injection h with e1 e2
        subst e1
        subst e2
        obtain ⟨q1, q2⟩ := signLen_own l c hc r hsg
        have hnum : numLen (l.take (signLen l) ++ c :: r) = 0 := by
          have := span_zero digit (l.take (signLen l) ++ c :: r) (by rw [hhead]; exact q2)
          unfold numLen
          rw [this]
          simp
        rw [hnum, q1]
        simp only [not_true_eq_false, if_false]
        rw [if_pos hsg]
      · cases h
end Go.Proofs.YtafelijlolidhaaDoor.Lex
