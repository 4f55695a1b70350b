/-
  Plain mathematics: two texts with a line's end between have the tokens of both.
-/
import Derived.Test.YtkieljleopbhoaaDoorDig
namespace Go.Proofs.YtkieljleopbhoaaDoor.Lex
open Go.RowKit
theorem span_line (p : UInt8 → Bool) (h : p 10 = false) : ∀ (l r : List UInt8), span p (l ++ 10 :: r) = span p l
  | [], r => by rw [List.nil_append, span_cons, h]; rfl
  | c :: l, r => by rw [List.cons_append, span_cons, span_cons, span_line p h l r]
theorem prefix_line : ∀ (p l r : List UInt8), 10 ∉ p → Lib.hasPrefix (l ++ 10 :: r) p = Lib.hasPrefix l p
  | [], l, r, _ => by simp [Lib.hasPrefix]
  | x :: p, [], r, h => by
    have hx : x ≠ 10 := fun e => h (by rw [e]; exact List.mem_cons_self ..)
    simp [Lib.hasPrefix, List.isPrefixOf, hx]
  | x :: p, c :: l, r, h => by
    have := prefix_line p l r (fun hm => h (List.mem_cons_of_mem _ hm))
    simp only [Lib.hasPrefix, List.cons_append, List.isPrefixOf] at this ⊢
    rw [this]
theorem sgL_line : ∀ p ∈ sgL, (10 : UInt8) ∉ p.data.toList := by decide
theorem signLen_line (l r : List UInt8) : signLen (l ++ 10 :: r) = signLen l := by
  unfold signLen
  have : ∀ (ps : List ByteArray), (∀ p ∈ ps, (10 : UInt8) ∉ p.data.toList) → ps.find? (fun p => Lib.hasPrefix (l ++ 10 :: r) p.data.toList) = ps.find? fun p => Lib.hasPrefix l p.data.toList := by
    intro ps
    induction ps with
    | nil => intro _; rfl
    | cons p ps ih =>
      intro h
      simp only [List.find?]
      rw [prefix_line _ l r (h p (List.mem_cons_self ..)), ih fun q hq => h q (List.mem_cons_of_mem _ hq)]
  rw [this sgL sgL_line]
theorem getD_line (l r : List UInt8) (h : l ≠ []) : (l ++ 10 :: r).getD 0 0 = l.getD 0 0 := getD_app l _ 0 (List.length_pos_iff.2 h)
/-- A line's end behind a text that begins with no blank changes nothing of what it begins with. -/
theorem step_line (l r : List UInt8) (h : l ≠ []) (hb : blank (l.getD 0 0) = false) : step (l ++ 10 :: r) = step l := by
  have hs : silLen (l ++ 10 :: r) = silLen l := by
    unfold silLen
    rw [prefix_line [45, 45] l r (by decide), span_line ofLine (by decide), span_zero blank l hb, span_zero blank (l ++ 10 :: r) (by rw [getD_line l r h]; exact hb)]
  have hw : wordLen (l ++ 10 :: r) = wordLen l := by unfold wordLen; rw [span_line letter (by decide), span_line ofWord (by decide)]
  have hn : numLen (l ++ 10 :: r) = numLen l := by unfold numLen; rw [span_line digit (by decide), getD_line l r h]
  unfold step
  rw [hs, hw, hn, signLen_line]
theorem ahead_nil' {r : Except Nat (List Tok)} : ahead [] r = r := by cases r <;> rfl
/-- A blank ahead says nothing. -/
theorem toks_blank (a : Nat) (c : UInt8) (r : List UInt8) (h : blank c = true) : toks a (c :: r) = toks (a + 1) r := by
  have hp : ∀ (d : UInt8) (t : List UInt8), blank d = true → Lib.hasPrefix (d :: t) [45, 45] = false := fun d t hd => by
    have : d ≠ 45 := fun e => by rw [e] at hd; exact absurd hd (by decide)
    simp [Lib.hasPrefix, List.isPrefixOf]
    intro e
    exact (this e.symm).elim
  have hs : ∀ (d : UInt8) (t : List UInt8), blank d = true → step (d :: t) = some (0, span blank t + 1) := fun d t hd => by
    have : silLen (d :: t) = span blank t + 1 := by unfold silLen; rw [hp d t hd]; rw [if_neg (by simp), span_cons, if_pos hd]
    unfold step
    rw [this, if_pos (by omega)]
  rw [toks_some (by simp) (hs c r h), if_pos rfl, ahead_nil', List.drop_succ_cons]
  cases r with
  | nil => rfl
  | cons d t =>
    by_cases hd : blank d = true
    · rw [toks_some (a := a + 1) (by simp) (hs d t hd), if_pos rfl, ahead_nil', span_cons, if_pos hd, show a + (span blank t + 1 + 1) = a + 1 + (span blank t + 1) by omega]
    · rw [span_cons, if_neg hd]; rfl
theorem toks_line (r : List UInt8) : ∀ (m : Nat) (l : List UInt8) (a : Nat), l.length = m → toks a (l ++ 10 :: r) = match toks a l with
    | .error e => .error e
    | .ok ts => ahead ts (toks (a + l.length + 1) r) := by
  intro m
  induction m using Nat.strongRecOn with
  | _ m ih =>
    intro l a hm
    by_cases h0 : l = []
    · subst h0
      rw [toks_nil, List.nil_append, toks_blank a 10 r (by decide)]
      cases toks (a + [].length + 1) r <;> rfl
    · by_cases hb : blank (l.getD 0 0) = true
      · obtain ⟨c, t, rfl⟩ := List.exists_cons_of_ne_nil h0
        have hc : blank c = true := hb
        rw [List.cons_append, toks_blank a c _ hc, toks_blank a c t hc, ih t.length (by simp at hm; omega) t (a + 1) rfl, List.length_cons, show a + 1 + t.length + 1 = a + (t.length + 1) + 1 by omega]
      · have hs := step_line l r h0 (by simpa using hb)
        cases hst : step l with
        | none => rw [toks_none h0 hst, toks_none (by simp) (hs.trans hst)]
        | some kn =>
          obtain ⟨k, n⟩ := kn
          obtain ⟨h1, h2, _⟩ := step_le hst
          rw [toks_some h0 hst, toks_some (by simp) (hs.trans hst), List.take_append_of_le_length h2, List.drop_append_of_le_length h2, ih (l.drop n).length (by rw [List.length_drop]; omega) (l.drop n) (a + n) rfl]
          cases toks (a + n) (l.drop n) with
          | error e => rfl
          | ok ts =>
            show ahead _ (ahead ts _) = ahead _ _
            rw [ahead_app, List.length_drop, show a + n + (l.length - n) + 1 = a + l.length + 1 by omega]
/-- Tokens at places further on. -/
def far (d : Nat) (t : Tok) : Tok := ⟨t.kind, t.text, d + t.at_⟩
theorem toks_far (d : Nat) : ∀ (m : Nat) (l : List UInt8) (a : Nat), l.length = m → toks (d + a) l = match toks a l with
    | .error e => .error (d + e)
    | .ok ts => .ok (ts.map (far d)) := by
  intro m
  induction m using Nat.strongRecOn with
  | _ m ih =>
    intro l a hm
    by_cases h0 : l = []
    · subst h0; rw [toks_nil, toks_nil]; rfl
    · cases hst : step l with
      | none => rw [toks_none h0 hst, toks_none h0 hst]
      | some kn =>
        obtain ⟨k, n⟩ := kn
        obtain ⟨h1, h2, _⟩ := step_le hst
        rw [toks_some h0 hst, toks_some h0 hst, Nat.add_assoc, ih (l.drop n).length (by rw [List.length_drop]; omega) (l.drop n) (a + n) rfl]
        cases toks (a + n) (l.drop n) with
        | error e => rfl
        | ok ts => by_cases hk : k = 0 <;> simp [ahead, hk, far]
/-- Two texts with a line's end between. -/
theorem toks_join (l r : List UInt8) : toks 0 (l ++ 10 :: r) = match toks 0 l with
    | .error e => .error e
    | .ok ts => match toks 0 r with
      | .error e => .error (l.length + 1 + e)
      | .ok us => .ok (ts ++ us.map (far (l.length + 1))) := by
  rw [toks_line r l.length l 0 rfl]
  cases toks 0 l with
  | error e => rfl
  | ok ts =>
    simp only
    have := toks_far (l.length + 1) r.length r 0 rfl
    rw [show 0 + l.length + 1 = l.length + 1 + 0 by omega, this]
    cases toks 0 r with
    | error e => rfl
    | ok us => rfl
end Go.Proofs.YtkieljleopbhoaaDoor.Lex
