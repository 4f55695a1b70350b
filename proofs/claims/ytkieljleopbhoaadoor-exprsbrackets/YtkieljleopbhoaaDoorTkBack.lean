/-
  What is written is read again, all of it.
-/
import Derived.Test.YtkieljleopbhoaaDoorTkLex
namespace Go.Proofs.YtkieljleopbhoaaDoor.Lex
open Go.RowKit
def Headed (l : List UInt8) : Prop := ∃ c t, l = c :: t ∧ c ≠ 62
theorem Headed.put {l : List UInt8} (h : Headed l) (a b : Nat) : Headed (put a b l) := by
  unfold Lex.put
  split
  · exact ⟨40, _, rfl, by decide⟩
  · exact h
theorem Headed.app {l m : List UInt8} (h : Headed l) : Headed (l ++ m) := by
  obtain ⟨c, t, rfl, hc⟩ := h
  exact ⟨c, t ++ m, rfl, hc⟩
theorem put0 (b : Nat) (l : List UInt8) : put 0 b l = l := by unfold put; rw [if_neg (by omega)]
theorem headed_word {l : List UInt8} (h : wordLen l = l.length) (h0 : l ≠ []) : Headed l := by
  obtain ⟨c, t, rfl⟩ := List.exists_cons_of_ne_nil h0
  refine ⟨c, t, rfl, fun e => ?_⟩
  subst e
  unfold wordLen at h
  rw [span_cons] at h
  simp [show letter 62 = false by decide] at h
theorem name_word {s : ByteArray} (h : isName s = true) : wordLen s.data.toList = s.data.toList.length ∧ s.data.toList ≠ [] := by
  unfold isName at h
  simp only [Bool.and_eq_true, decide_eq_true_eq] at h
  have e := Lib.size_eq s
  exact ⟨by omega, fun e0 => by rw [e0, List.length_nil] at e; omega⟩
theorem lex_any : ∀ (d M : Nat) (x : Ex) (k : Nat), sz d M x = some k → LexC (wr x) (tk x) ∧ Headed (wr x)
  | 0, M, x, k, h => by simp [sz] at h
  | d + 1, M, x, k, h => by
    obtain ⟨hM, hf, hl⟩ := sz_parts h
    rcases fields_cases hf with ⟨h1, h2, h3⟩ | ⟨h1, h2, h3⟩ | ⟨h1, h2, h3⟩ | ⟨h1, h3⟩ | ⟨h1, h3⟩ | ⟨⟨r, hr⟩, h3⟩
    · have e := len0 h3
      rw [wr_leaf e, tk_leaf e, if_pos h1, if_pos h1, itoa_dig h2]
      have hp := dig_pos x.n.toNat
      refine ⟨LexC.tok (fun e => by rw [e] at hp; simp at hp) (by decide) fun r hr => step_num hr, ?_⟩
      cases e : dig x.n.toNat with
      | nil => rw [e] at hp; simp at hp
      | cons c t =>
        refine ⟨c, t, rfl, fun e2 => ?_⟩
        have := dig_digits x.n.toNat c (by rw [e]; exact List.mem_cons_self ..)
        rw [e2] at this
        exact absurd this (by decide)
    · have e := len0 h3
      rw [wr_leaf e, tk_leaf e, if_neg (by omega), if_pos h1, if_neg (by omega), if_pos h1]
      cases (x.n == 1)
      · exact ⟨LexC.word (by decide) (by decide), headed_word (by decide) (by decide)⟩
      · exact ⟨LexC.word (by decide) (by decide), headed_word (by decide) (by decide)⟩
    · have e := len0 h3
      rw [wr_leaf e, tk_leaf e, if_neg (by omega), if_neg (by omega), if_neg (by omega), if_neg (by omega)]
      obtain ⟨n1, n2⟩ := name_word h2
      exact ⟨LexC.word n1 n2, headed_word n1 n2⟩
    · obtain ⟨a, e⟩ := len1 h3
      rw [e] at hl
      obtain ⟨ka, hka, _⟩ := szL_cons hl
      obtain ⟨i1, i2⟩ := lex_any d _ a ka hka
      rw [wr_one e, tk_one e]
      rcases h1 with h1 | h1 | h1
      · rw [if_pos h1, h1]
        refine ⟨(i1.put 6 (rkOf a.op)).minus (i2.put _ _), ?_⟩
        unfold negW
        split
        · exact ⟨45, _, rfl, by decide⟩
        · exact ⟨45, _, rfl, by decide⟩
      · rw [if_neg (by omega), if_pos h1, h1]
        have := (LexC.word (l := [110, 111, 116]) (by decide) (by decide)).blank (i1.put 6 (rkOf a.op))
        exact ⟨by simpa [oneMk] using this, ⟨110, _, rfl, by decide⟩⟩
      · rw [if_neg (by omega), if_neg (by omega), h1]
        have := (LexC.word (l := [112, 114, 101]) (by decide) (by decide)).blank (i1.put 6 (rkOf a.op))
        exact ⟨by simpa [oneMk] using this, ⟨112, _, rfl, by decide⟩⟩
    · obtain ⟨a, b, c, e⟩ := len3 h3
      rw [e] at hl
      obtain ⟨ka, hka, hl⟩ := szL_cons hl
      obtain ⟨kb, hkb, hl⟩ := szL_cons hl
      obtain ⟨kc, hkc, _⟩ := szL_cons hl
      obtain ⟨a1, _⟩ := lex_any d _ a ka hka
      obtain ⟨b1, _⟩ := lex_any d _ b kb hkb
      obtain ⟨c1, _⟩ := lex_any d _ c kc hkc
      rw [wr_three e, tk_three e, put0, put0, put0]
      have w1 := LexC.word (l := [105, 102]) (by decide) (by decide)
      have w2 := LexC.word (l := [116, 104, 101, 110]) (by decide) (by decide)
      have w3 := LexC.word (l := [101, 108, 115, 101]) (by decide) (by decide)
      have := ((((w1.blank a1).blank w2).blank b1).blank w3).blank c1
      exact ⟨by simpa using this, ⟨105, _, rfl, by decide⟩⟩
    · obtain ⟨a, b, e⟩ := len2 h3
      rw [e] at hl
      obtain ⟨ka, hka, hl⟩ := szL_cons hl
      obtain ⟨kb, hkb, _⟩ := szL_cons hl
      obtain ⟨a1, a2⟩ := lex_any d _ a ka hka
      obtain ⟨b1, _⟩ := lex_any d _ b kb hkb
      rw [wr_two e, tk_two e, hr, Option.getD_some]
      exact ⟨LexC.join (jOf_mem hr).1 (a1.put _ _) (b1.put _ _), (((((a2.put _ _).app).app).app).app)⟩
/-- What is written is read again, all of it. -/
theorem back {x : Ex} {w : World} {s : Value} (h : chk x = true) (hS : St w x s) : ∃ ts : List Tok, toks 0 (wr x) = .ok ts ∧ P (ts.map tokM) 0 0 = .ok (x, ts.length) := by
  unfold chk at h
  obtain ⟨k, hk⟩ := Option.isSome_iff_exists.1 h
  obtain ⟨ts, e1, e2⟩ := (lex_any 32 200 x k hk).1 0 [] (.inl rfl)
  rw [List.append_nil, toks_nil] at e2
  refine ⟨ts, by rw [e2]; simp [ahead], ?_⟩
  have hT := T_any 32 200 x k w s hk hS
  have := hT.all (ts := tk x) (p := 0) ⟨[], [], by simp, rfl⟩ (by
    rw [show markAt (tk x) (0 + (tk x).length) = ⟨0, ByteArray.empty⟩ by unfold markAt; rw [List.getD_eq_getElem?_getD, List.getElem?_eq_none (by omega)]; rfl, jAt_eq]
    decide)
  have hl : (tk x).length = ts.length := by rw [← e1, List.length_map]
  rw [e1, this, Nat.zero_add, hl]
end Go.Proofs.YtkieljleopbhoaaDoor.Lex
