/-
  Plain mathematics: tokens with a blank between each two are the tokens again.
-/
import Derived.Test.YtafelijlolidhaaDoorOwn
namespace Go.Proofs.YtafelijlolidhaaDoor.Lex
open Go.RowKit
/-- The blanks that the law puts behind a token. -/
def isBl (b : List UInt8) : Prop := b = [32] ∨ b = [9] ∨ b = [10] ∨ b = [13] ∨ b = [32, 45, 45, 32, 120, 10]
theorem ahead0 (r : Except Nat (List Tok)) : ahead [] r = r := by cases r <;> rfl
theorem toks_bl {b : List UInt8} (hb : isBl b) (a : Nat) (r : List UInt8) : toks a (b ++ r) = toks (a + b.length) r := by
  rcases hb with rfl | rfl | rfl | rfl | rfl
  · exact toks_blank a 32 r (by decide)
  · exact toks_blank a 9 r (by decide)
  · exact toks_blank a 10 r (by decide)
  · exact toks_blank a 13 r (by decide)
  · show toks a (32 :: 45 :: 45 :: 32 :: 120 :: 10 :: r) = toks (a + 6) r
    rw [toks_blank a 32 _ (by decide)]
    have hs : step (45 :: 45 :: 32 :: 120 :: 10 :: r) = some (0, 4) := by
      have : silLen (45 :: 45 :: 32 :: 120 :: 10 :: r) = 4 := by
        unfold silLen
        rw [if_pos (by simp [Lib.hasPrefix, List.isPrefixOf])]
        rw [span_cons, if_pos (by decide), span_cons, if_pos (by decide), span_cons, if_pos (by decide), span_cons, if_pos (by decide), span_cons, if_neg (by decide)]
      unfold step
      rw [this]
      rfl
    rw [toks_some (by simp) hs, if_pos rfl, ahead0]
    show toks (a + 1 + 4) (10 :: r) = _
    rw [toks_blank _ 10 _ (by decide)]
theorem bl_head {b : List UInt8} (hb : isBl b) : ∃ c t, b = c :: t ∧ blank c = true := by
  rcases hb with rfl | rfl | rfl | rfl | rfl
  all_goals exact ⟨_, _, rfl, by decide⟩
theorem bl_len {b : List UInt8} (hb : isBl b) : b.length ≤ 6 := by
  rcases hb with rfl | rfl | rfl | rfl | rfl <;> decide
/-- A token that some text begins with. -/
def Some1 (t : Tok) : Prop := ∃ l n, step l = some (t.kind, n) ∧ t.kind ≠ 0 ∧ t.text = l.take n
/-- The tokens' texts with blanks behind. -/
def glue (b : List UInt8) : List Tok → List UInt8
  | [] => []
  | t :: ts => t.text ++ b ++ glue b ts
/-- The tokens at their new places. -/
def again (b : List UInt8) (a : Nat) : List Tok → List Tok
  | [] => []
  | t :: ts => ⟨t.kind, t.text, a⟩ :: again b (a + t.text.length + b.length) ts
theorem toks_glue {b : List UInt8} (hb : isBl b) : ∀ (ts : List Tok) (a : Nat), (∀ t ∈ ts, Some1 t) → toks a (glue b ts) = .ok (again b a ts)
  | [], a, _ => toks_nil a
  | t :: ts, a, h => by
    obtain ⟨l, n, hs, hk, ht⟩ := h t (List.mem_cons_self ..)
    obtain ⟨c, tl, hc, hbl⟩ := bl_head hb
    obtain ⟨h1, h2, _⟩ := step_le hs
    have hlen : t.text.length = n := by rw [ht, List.length_take]; omega
    have hst := step_own hs hk c hbl (tl ++ glue b ts)
    rw [← ht, ← List.cons_append, ← hc] at hst
    show toks a (t.text ++ b ++ glue b ts) = _
    rw [List.append_assoc, toks_some (fun e => by have := congrArg List.length e; simp [hlen] at this; omega) hst, if_neg hk]
    rw [← hlen, List.take_left, List.drop_left, toks_bl hb, toks_glue hb ts _ fun x hx => h x (List.mem_cons_of_mem _ hx)]
    rfl
/-- Every token of a text is one that some text begins with; together they are no longer than the text. -/
theorem toks_some1 : ∀ (m : Nat) (l : List UInt8) (a : Nat) (ts : List Tok), l.length = m → toks a l = .ok ts → (∀ t ∈ ts, Some1 t) ∧ (ts.map (·.text.length)).sum ≤ l.length ∧ ts.length ≤ l.length := by
  intro m
  induction m using Nat.strongRecOn with
  | _ m ih =>
    intro l a ts hm h
    by_cases h0 : l = []
    · subst h0; rw [toks_nil] at h; injection h with h; subst h; exact ⟨fun t ht => (by cases ht), by simp, by simp⟩
    · cases hst : step l with
      | none => rw [toks_none h0 hst] at h; cases h
      | some kn =>
        obtain ⟨k, n⟩ := kn
        obtain ⟨h1, h2, _⟩ := step_le hst
        rw [toks_some h0 hst] at h
        cases hr : toks (a + n) (l.drop n) with
        | error e => rw [hr] at h; cases h
        | ok us =>
          rw [hr] at h
          injection h with h
          obtain ⟨q1, q2, q3⟩ := ih (l.drop n).length (by rw [List.length_drop]; omega) (l.drop n) (a + n) us rfl hr
          rw [List.length_drop] at q2 q3
          rw [← h]
          by_cases hk : k = 0
          · rw [if_pos hk]
            exact ⟨q1, by simp; omega, by simp; omega⟩
          · rw [if_neg hk]
            refine ⟨fun t ht => ?_, ?_, ?_⟩
            · rcases List.mem_append.1 ht with ht | ht
              · rw [List.mem_singleton.1 ht]
                exact ⟨l, n, hst, hk, rfl⟩
              · exact q1 t ht
            · simp only [List.map_append, List.map_cons, List.map_nil, List.sum_append, List.sum_cons, List.sum_nil, List.length_take]
              omega
            · simp; omega
theorem glue_app (b : List UInt8) : ∀ (ts us : List Tok), glue b (ts ++ us) = glue b ts ++ glue b us
  | [], us => rfl
  | t :: ts, us => by simp [glue, glue_app b ts us]
theorem glue_len (b : List UInt8) : ∀ (ts : List Tok), (glue b ts).length = (ts.map (·.text.length)).sum + ts.length * b.length
  | [] => by simp [glue]
  | t :: ts => by
    simp only [glue, List.length_append, glue_len b ts, List.map_cons, List.sum_cons, List.length_cons, Nat.add_mul]
    omega
theorem again_app (b : List UInt8) : ∀ (ts us : List Tok) (a : Nat), again b a (ts ++ us) = again b a ts ++ again b (a + (glue b ts).length) us
  | [], us, a => by simp [again, glue]
  | t :: ts, us, a => by
    simp only [again, List.cons_append, glue, List.length_append, again_app b ts us]
    rw [show a + t.text.length + b.length + (glue b ts).length = a + (t.text.length + b.length + (glue b ts).length) by omega]
theorem again_len (b : List UInt8) : ∀ (ts : List Tok) (a : Nat), (again b a ts).length = ts.length
  | [], a => rfl
  | t :: ts, a => by simp [again, again_len b ts]
end Go.Proofs.YtafelijlolidhaaDoor.Lex
