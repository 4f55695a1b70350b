/-
  The tokens of what is written are those that it is written by.
-/
import Derived.Test.YtkieljleopbhoaaDoorTkAny
import Derived.Test.YtkieljleopbhoaaDoorJoin
namespace Go.Proofs.YtkieljleopbhoaaDoor.Lex
open Go.RowKit
/-- What may stand behind a word: nothing, a blank, or a bracket that ends. -/
def Good (r : List UInt8) : Prop := r = [] ∨ ∃ t, r = 32 :: t ∨ r = 41 :: t
theorem span_good (p : UInt8 → Bool) (h1 : p 32 = false) (h2 : p 41 = false) {r : List UInt8} (hr : Good r) : ∀ (l : List UInt8), span p (l ++ r) = span p l
  | [] => by rcases hr with rfl | ⟨t, rfl | rfl⟩ <;> simp [span_cons, span_nil, h1, h2]
  | c :: l => by rw [List.cons_append, span_cons, span_cons, span_good p h1 h2 hr l]
def tokM (t : Tok) : Mark := ⟨t.kind, ⟨t.text.toArray⟩⟩
/-- A text that has these tokens, whatever good stands behind it. -/
def LexC (l : List UInt8) (ms : List Mark) : Prop := ∀ a r, Good r → ∃ ts : List Tok, ts.map tokM = ms ∧ toks a (l ++ r) = ahead ts (toks (a + l.length) r)
/-- A text that begins with a token. -/
theorem step_toks {k : Nat} (t : List UInt8) (r : List UInt8) (ht : t ≠ []) (hk : k ≠ 0) (h : step (t ++ r) = some (k, t.length)) (a : Nat) : toks a (t ++ r) = ahead [⟨k, t, a⟩] (toks (a + t.length) r) := by
  rw [toks_some (by simp [ht]) h, if_neg hk, List.take_left, List.drop_left]
theorem LexC.tok {k : Nat} {t : List UInt8} (ht : t ≠ []) (hk : k ≠ 0) (h : ∀ r, Good r → step (t ++ r) = some (k, t.length)) : LexC t [⟨k, ⟨t.toArray⟩⟩] := fun a r hr => ⟨[⟨k, t, a⟩], rfl, step_toks t r ht hk (h r hr) a⟩
theorem LexC.blank {l m : List UInt8} {ms ns : List Mark} (h1 : LexC l ms) (h2 : LexC m ns) : LexC (l ++ [32] ++ m) (ms ++ ns) := fun a r hr => by
  obtain ⟨ts, e1, e2⟩ := h1 a (32 :: (m ++ r)) (.inr ⟨_, .inl rfl⟩)
  obtain ⟨us, e3, e4⟩ := h2 (a + l.length + 1) r hr
  refine ⟨ts ++ us, by simp [e1, e3], ?_⟩
  rw [show l ++ [32] ++ m ++ r = l ++ 32 :: (m ++ r) by simp, e2, toks_blank _ _ _ (by decide), e4, ahead_app]
  simp only [List.length_append, List.length_cons, List.length_nil]
  rw [show a + (l.length + (0 + 1) + m.length) = a + l.length + 1 + m.length by omega]
theorem sil_zero {c : UInt8} {l : List UInt8} (hb : blank c = false) (h : c ≠ 45) : silLen (c :: l) = 0 := by
  unfold silLen
  rw [if_neg (by simp [Lib.hasPrefix, List.isPrefixOf]; intro e; exact absurd e.symm h)]
  rw [span_cons, hb]
  rfl
theorem step_sign {c : UInt8} {l : List UInt8} {n : Nat} (hs : silLen (c :: l) = 0) (hl : letter c = false) (hd : digit c = false) (h : signLen (c :: l) = n) (hn : n ≠ 0) : step (c :: l) = some (3, n) := by
  have h2 : wordLen (c :: l) = 0 := by unfold wordLen; rw [span_cons, hl]; simp
  have h3 : numLen (c :: l) = 0 := by unfold numLen; rw [span_cons, hd]; simp
  unfold step
  simp [hs, h2, h3, h, hn]
theorem step_open (r : List UInt8) : step (40 :: r) = some (3, 1) := step_sign (sil_zero (by decide) (by decide)) (by decide) (by decide) (by simp [signLen, sgL, Lib.hasPrefix, List.isPrefixOf]; rfl) (by decide)
theorem step_shut (r : List UInt8) : step (41 :: r) = some (3, 1) := step_sign (sil_zero (by decide) (by decide)) (by decide) (by decide) (by simp [signLen, sgL, Lib.hasPrefix, List.isPrefixOf]; rfl) (by decide)
theorem step_minus {c : UInt8} (r : List UInt8) (h1 : c ≠ 45) (h2 : c ≠ 62) : step (45 :: c :: r) = some (3, 1) := by
  refine step_sign ?_ (by decide) (by decide) ?_ (by decide)
  · unfold silLen
    rw [if_neg (by simp [Lib.hasPrefix, List.isPrefixOf]; exact fun e => h1 e.symm), span_cons, if_neg (by decide)]
  · have e : ((62 : UInt8) == c) = false := by simp; exact fun e => h2 e.symm
    simp [signLen, sgL, Lib.hasPrefix, List.isPrefixOf, e]
    rfl
theorem LexC.brackets {l : List UInt8} {ms : List Mark} (h : LexC l ms) : LexC (40 :: (l ++ [41])) (⟨3, sgn [40]⟩ :: (ms ++ [⟨3, sgn [41]⟩])) := fun a r hr => by
  obtain ⟨ts, e1, e2⟩ := h (a + 1) (41 :: r) (.inr ⟨_, .inr rfl⟩)
  refine ⟨⟨3, [40], a⟩ :: (ts ++ [⟨3, [41], a + 1 + l.length⟩]), by simp [e1, tokM, sgn], ?_⟩
  have o := step_toks [40] (l ++ 41 :: r) (by simp) (by decide) (step_open _) a
  have s := step_toks [41] r (by simp) (by decide) (step_shut _) (a + 1 + l.length)
  simp only [List.cons_append, List.nil_append, List.length_cons, List.length_nil] at o s
  rw [show (40 :: (l ++ [41])) ++ r = 40 :: (l ++ 41 :: r) by simp, o, e2, s, ahead_app, ahead_app]
  simp only [List.cons_append, List.nil_append, List.length_cons, List.length_append, List.length_nil]
  rw [show a + (l.length + (0 + 1) + 1) = a + 1 + l.length + (0 + 1) by omega]
theorem LexC.put {l : List UInt8} {ms : List Mark} (h : LexC l ms) (least rank : Nat) : LexC (put least rank l) (tkp least rank ms) := by
  unfold Lex.put tkp
  split
  · exact h.brackets
  · exact h
/-- A word. -/
theorem step_word {l r : List UInt8} (hr : Good r) (h : wordLen l = l.length) (h0 : l ≠ []) : step (l ++ r) = some (1, l.length) := by
  have e : wordLen (l ++ r) = l.length := by
    unfold wordLen at h ⊢
    rw [span_good letter (by decide) (by decide) hr, span_good ofWord (by decide) (by decide) hr]
    exact h
  obtain ⟨c, t, rfl⟩ := List.exists_cons_of_ne_nil h0
  have hc : letter c = true := by
    unfold wordLen at h
    rw [span_cons] at h
    cases e : letter c with
    | true => rfl
    | false => rw [e] at h; simp at h
  have hs : silLen (c :: t ++ r) = 0 := by
    refine sil_zero ?_ ?_
    · cases e : blank c with
      | false => rfl
      | true => unfold letter at hc; unfold blank at e; simp at hc e; omega
    · intro e; rw [e] at hc; exact absurd hc (by decide)
  unfold step
  rw [hs, e]
  simp
theorem step_num {k : Nat} {r : List UInt8} (hr : Good r) : step (dig k ++ r) = some (2, (dig k).length) := by
  have hp := dig_pos k
  have hd : digit ((dig k).getD 0 0) = true := span_at digit (dig k) 0 (by rw [span_all digit _ (dig_digits k)]; exact hp)
  have e : numLen (dig k ++ r) = (dig k).length := by
    have := numLen_dig k
    unfold numLen at this ⊢
    rw [span_good digit (by decide) (by decide) hr, getD_app _ _ _ hp]
    exact this
  rw [step_digit (by rw [getD_app _ _ _ hp]; exact hd), e, if_pos (by omega)]
theorem LexC.word {l : List UInt8} (h : wordLen l = l.length) (h0 : l ≠ []) : LexC l [⟨1, ⟨l.toArray⟩⟩] := LexC.tok h0 (by decide) fun r hr => step_word hr h h0
/-- A sign of two parts, between blanks. -/
theorem LexC.join {j : J} (hj : j ∈ JT) {l m : List UInt8} {ms ns : List Mark} (h1 : LexC l ms) (h2 : LexC m ns) : LexC (l ++ [32] ++ j.text.data.toList ++ [32] ++ m) (ms ++ jMk j :: ns) := fun a r hr => by
  obtain ⟨ts, e1, e2⟩ := h1 a (32 :: (j.text.data.toList ++ 32 :: (m ++ r))) (.inr ⟨_, .inl rfl⟩)
  obtain ⟨us, e3, e4⟩ := h2 (a + l.length + 1 + j.text.data.toList.length + 1) r hr
  have hstep : ∀ q, step (j.text.data.toList ++ 32 :: q) = some (j.kind, j.text.data.toList.length) := fun q => by
    simp only [JT, List.mem_cons, List.not_mem_nil, or_false] at hj
    rcases hj with rfl | rfl | rfl | rfl | rfl | rfl | rfl | rfl | rfl | rfl | rfl | rfl
    all_goals first
      | exact step_word (r := 32 :: q) (.inr ⟨_, .inl rfl⟩) (by decide) (by decide)
      | exact step_minus (c := 32) q (by decide) (by decide)
      | exact step_sign (sil_zero (by decide) (by decide)) (by decide) (by decide) (by simp [signLen, sgL, Lib.hasPrefix, List.isPrefixOf]; rfl) (by decide)
      | (refine step_sign ?_ (by decide) (by decide) (by simp [signLen, sgL, Lib.hasPrefix, List.isPrefixOf]; rfl) (by decide); unfold silLen; rw [if_neg (by simp [Lib.hasPrefix, List.isPrefixOf])]; rw [span_cons, if_neg (by decide)])
  have hk : j.kind ≠ 0 ∧ j.text.data.toList ≠ [] ∧ jMk j = ⟨j.kind, ⟨j.text.data.toList.toArray⟩⟩ := by
    simp only [JT, List.mem_cons, List.not_mem_nil, or_false] at hj
    rcases hj with rfl | rfl | rfl | rfl | rfl | rfl | rfl | rfl | rfl | rfl | rfl | rfl <;> exact ⟨by decide, by decide, rfl⟩
  have s := step_toks (k := j.kind) j.text.data.toList (32 :: (m ++ r)) hk.2.1 hk.1 (hstep _) (a + l.length + 1)
  refine ⟨ts ++ (⟨j.kind, j.text.data.toList, a + l.length + 1⟩ :: us), by simp [e1, e3, hk.2.2, tokM], ?_⟩
  rw [show l ++ [32] ++ j.text.data.toList ++ [32] ++ m ++ r = l ++ 32 :: (j.text.data.toList ++ 32 :: (m ++ r)) by simp, e2, toks_blank _ _ _ (by decide), s, toks_blank _ _ _ (by decide), e4, ahead_app, ahead_app]
  simp only [List.length_append, List.length_cons, List.length_nil]
  rw [show a + (l.length + (0 + 1) + j.text.data.toList.length + (0 + 1) + m.length) = a + l.length + 1 + j.text.data.toList.length + 1 + m.length by omega]
  simp
/-- Behind a minus. -/
theorem LexC.minus {l : List UInt8} {ms : List Mark} (h : LexC l ms) (hh : ∃ c t, l = c :: t ∧ c ≠ 62) : LexC (negW l) (⟨3, sgn [45]⟩ :: ms) := fun a r hr => by
  obtain ⟨c, t, rfl, hc⟩ := hh
  by_cases h45 : c = 45
  · subst h45
    obtain ⟨us, e3, e4⟩ := h (a + 1 + 1) r hr
    have e : negW (45 :: t) = 45 :: 32 :: 45 :: t := by unfold negW; rw [if_pos (by simp [Lib.hasPrefix, List.isPrefixOf])]
    have s := step_toks [45] (32 :: (45 :: t ++ r)) (by simp) (k := 3) (by decide) (step_minus _ (by decide) (by decide)) a
    refine ⟨⟨3, [45], a⟩ :: us, by simp [e3, tokM], ?_⟩
    rw [e]
    simp only [List.cons_append, List.nil_append, List.length_cons, List.length_nil] at s e4 ⊢
    rw [s, toks_blank _ _ _ (by decide), e4, ahead_app]
    rw [show a + (t.length + 1 + 1 + 1) = a + 1 + 1 + (t.length + 1) by omega]
    rfl
  · obtain ⟨us, e3, e4⟩ := h (a + 1) r hr
    have e : negW (c :: t) = 45 :: c :: t := by unfold negW; rw [if_neg (by simp [Lib.hasPrefix, List.isPrefixOf]; exact fun e => h45 e.symm)]
    have s := step_toks [45] (c :: t ++ r) (by simp) (k := 3) (by decide) (step_minus _ h45 hc) a
    refine ⟨⟨3, [45], a⟩ :: us, by simp [e3, tokM], ?_⟩
    rw [e]
    simp only [List.cons_append, List.nil_append, List.length_cons, List.length_nil] at s e4 ⊢
    rw [s, e4, ahead_app]
    rw [show a + (t.length + 1 + 1) = a + 1 + (t.length + 1) by omega]
    rfl
end Go.Proofs.YtkieljleopbhoaaDoor.Lex
