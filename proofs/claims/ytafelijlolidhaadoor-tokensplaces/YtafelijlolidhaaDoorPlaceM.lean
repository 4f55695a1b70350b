/-
  Plain mathematics: between two tokens of a text stand blanks and comments alone.
-/
import Derived.Test.YtafelijlolidhaaDoorJoinKit
namespace Go.Proofs.YtafelijlolidhaaDoor.Lex
open Go.RowKit
/-- Whether a comment goes on behind a byte. -/
def nextC (L : List UInt8) (k : Nat) (c : Bool) : Bool := if L.getD k 0 = 10 then false else c || (decide (k + 1 < L.length) && (L.getD k 0 == 45) && (L.getD (k + 1) 0 == 45))
/-- Whether a byte is one of a comment, or a blank. -/
def okAt (L : List UInt8) (k : Nat) (c : Bool) : Bool := L.getD k 0 == 10 || nextC L k c || L.getD k 0 == 32 || L.getD k 0 == 9 || L.getD k 0 == 13
/-- So many bytes from a place on are such. -/
def scan (L : List UInt8) : Nat → Nat → Bool → Bool
  | 0, _, _ => true
  | n + 1, k, c => okAt L k c && scan L n (k + 1) (nextC L k c)
/-- Whether a comment goes on behind so many bytes. -/
def flag (L : List UInt8) : Nat → Nat → Bool → Bool
  | 0, _, c => c
  | n + 1, k, c => flag L n (k + 1) (nextC L k c)
theorem scan_add (L : List UInt8) : ∀ (n m k : Nat) (c : Bool), scan L (n + m) k c = (scan L n k c && scan L m (k + n) (flag L n k c))
  | 0, m, k, c => by simp [scan, flag]
  | n + 1, m, k, c => by
    rw [show n + 1 + m = (n + m) + 1 by omega, scan, scan, flag, scan_add L n m (k + 1), show k + 1 + n = k + (n + 1) by omega, Bool.and_assoc]
/-- A place where a gap may be looked at from. -/
def fineAt (L : List UInt8) (p : Nat) (c : Bool) : Prop := c = false ∨ p = L.length ∨ L.getD p 0 = 10
theorem blank_cases {c : UInt8} (h : blank c = true) : c = 10 ∨ c = 32 ∨ c = 9 ∨ c = 13 := by
  unfold blank at h
  simp at h
  have e : ∀ (n : Nat), n < 256 → c.toNat = n → c = UInt8.ofNat n := fun n hn h => by
    apply UInt8.toNat_inj.1
    rw [h, UInt8.toNat_ofNat_of_lt' hn]
  rcases h with ((h | h) | h) | h
  · exact .inr (.inl (e 32 (by omega) h))
  · exact .inr (.inr (.inl (e 9 (by omega) h)))
  · exact .inl (e 10 (by omega) h)
  · exact .inr (.inr (.inr (e 13 (by omega) h)))
theorem ofLine_ne {c : UInt8} (h : ofLine c = true) : c ≠ 10 := by rintro rfl; exact absurd h (by decide)
theorem scan_blank (L : List UInt8) : ∀ (n k : Nat) (c : Bool), (∀ j, j < n → blank (L.getD (k + j) 0) = true) → (c = false ∨ L.getD k 0 = 10) → scan L n k c = true ∧ (0 < n → flag L n k c = false)
  | 0, k, c, _, _ => ⟨rfl, fun h => absurd h (by omega)⟩
  | n + 1, k, c, h, hc => by
    have hb := h 0 (by omega)
    rw [Nat.add_zero] at hb
    have hok : okAt L k c = true := by
      unfold okAt
      rcases blank_cases hb with e | e | e | e <;> rw [e] <;> simp
    have hn : nextC L k c = false := by
      unfold nextC
      rcases hc with rfl | e
      · rcases blank_cases hb with e | e | e | e <;> rw [e] <;> simp
      · rw [if_pos e]
    obtain ⟨h1, h2⟩ := scan_blank L n (k + 1) false (fun j hj => by have := h (j + 1) (by omega); rwa [show k + (j + 1) = k + 1 + j by omega] at this) (.inl rfl)
    refine ⟨by rw [scan, hok, hn, h1]; rfl, fun _ => ?_⟩
    rw [flag, hn]
    cases n with
    | zero => rfl
    | succ n => exact h2 (by omega)
theorem scan_line (L : List UInt8) : ∀ (n k : Nat), (∀ j, j < n → L.getD (k + j) 0 ≠ 10) → scan L n k true = true ∧ flag L n k true = true
  | 0, k, _ => ⟨rfl, rfl⟩
  | n + 1, k, h => by
    have hb := h 0 (by omega)
    rw [Nat.add_zero] at hb
    have hn : nextC L k true = true := by unfold nextC; rw [if_neg hb]; rfl
    have hok : okAt L k true = true := by unfold okAt; rw [hn]; simp
    obtain ⟨h1, h2⟩ := scan_line L n (k + 1) (fun j hj => by have := h (j + 1) (by omega); rwa [show k + (j + 1) = k + 1 + j by omega] at this)
    exact ⟨by rw [scan, hok, hn, h1]; rfl, by rw [flag, hn, h2]⟩
theorem getD_drop (L : List UInt8) (p j : Nat) : (L.drop p).getD j 0 = L.getD (p + j) 0 := by simp [List.getD, List.getElem?_drop]
/-- A step that says nothing is blanks, or a comment. -/
theorem scan_step (L : List UInt8) (p n : Nat) (c : Bool) (hp : p < L.length) (h : step (L.drop p) = some (0, n)) (hc : fineAt L p c) : scan L n p c = true ∧ fineAt L (p + n) (flag L n p c) := by
  have hn : n = silLen (L.drop p) := by
    unfold step at h
    split at h
    · injection h with h; injection h with e1 e2; exact e2.symm
    · split at h
      · injection h with h; injection h with e1 e2; omega
      · split at h
        · injection h with h; injection h with e1 e2; omega
        · split at h
          · injection h with h; injection h with e1 e2; omega
          · cases h
  have hc' : c = false ∨ L.getD p 0 = 10 := by
    rcases hc with h | h | h
    · exact .inl h
    · omega
    · exact .inr h
  have h1 := (step_le h).1
  unfold silLen at hn
  split at hn
  · next hpre =>
    obtain ⟨t, ht⟩ := prefix_app hpre
    have e0 : L.getD p 0 = 45 := by have := getD_drop L p 0; rw [ht] at this; simpa using this.symm
    have e1 : L.getD (p + 1) 0 = 45 := by have := getD_drop L p 1; rw [ht] at this; simpa using this.symm
    have hl : p + 1 < L.length := by have := congrArg List.length ht; rw [List.length_drop] at this; simp at this; omega
    have hcf : c = false := hc'.resolve_right (by rw [e0]; decide)
    have hne : ∀ j, j < n → L.getD (p + j) 0 ≠ 10 := fun j hj => by
      have := span_at ofLine (L.drop p) j (by omega)
      rw [getD_drop] at this
      exact ofLine_ne this
    have hnx : nextC L p c = true := by
      unfold nextC
      rw [if_neg (by rw [e0]; decide), e0, e1, decide_eq_true hl]
      simp
    obtain ⟨m, rfl⟩ : ∃ m, n = m + 1 := ⟨n - 1, by omega⟩
    obtain ⟨g1, g2⟩ := scan_line L m (p + 1) (fun j hj => by have := hne (j + 1) (by omega); rwa [show p + (j + 1) = p + 1 + j by omega] at this)
    refine ⟨by rw [scan, hnx, g1]; unfold okAt; rw [hnx]; simp, ?_⟩
    by_cases hlen : span ofLine (L.drop p) = (L.drop p).length
    · right; left
      rw [List.length_drop] at hlen
      omega
    · right; right
      have := span_stop ofLine (L.drop p) (by have := span_le ofLine (L.drop p); omega)
      rw [← hn, getD_drop] at this
      generalize L.getD (p + (m + 1)) 0 = x at this ⊢
      unfold ofLine at this
      simp at this
      exact UInt8.toNat_inj.1 this
  · have hb : ∀ j, j < n → blank (L.getD (p + j) 0) = true := fun j hj => by
      have := span_at blank (L.drop p) j (by omega)
      rwa [getD_drop] at this
    obtain ⟨g1, g2⟩ := scan_blank L n p c hb hc'
    exact ⟨g1, .inl (g2 (by omega))⟩
/-- From any place from which a text has tokens: up to the first of them stand blanks and comments alone, and there it stands. -/
theorem toks_gap (L : List UInt8) : ∀ (m p : Nat) (c : Bool) (us : List Tok), p ≤ L.length → L.length - p = m → toks p (L.drop p) = .ok us → fineAt L p c →
    ∃ q, p ≤ q ∧ q ≤ L.length ∧ scan L (q - p) p c = true ∧ ((us = [] ∧ q = L.length) ∨ ∃ k n rest, 1 ≤ k ∧ k ≤ 3 ∧ 1 ≤ n ∧ q + n ≤ L.length ∧ us = ⟨k, (L.drop q).take n, q⟩ :: rest ∧ toks (q + n) (L.drop (q + n)) = .ok rest) := by
  intro m
  induction m using Nat.strongRecOn with
  | _ m ih =>
    intro p c us hp hm h hf
    by_cases h0 : L.drop p = []
    · rw [h0, toks_nil] at h
      injection h with h
      have : L.length ≤ p := List.drop_eq_nil_iff.1 h0
      exact ⟨p, Nat.le_refl _, hp, by rw [Nat.sub_self]; rfl, .inl ⟨h.symm, by omega⟩⟩
    · have hlt : p < L.length := by
        rcases Nat.lt_or_ge p L.length with h | h
        · exact h
        · exact absurd (List.drop_eq_nil_iff.2 h) h0
      cases hst : step (L.drop p) with
      | none => rw [toks_none h0 hst] at h; cases h
      | some kn =>
        obtain ⟨k, n⟩ := kn
        obtain ⟨h1, h2, h3⟩ := step_le hst
        rw [List.length_drop] at h2
        rw [toks_some h0 hst, List.drop_drop] at h
        cases hr : toks (p + n) (L.drop (p + n)) with
        | error e => rw [hr] at h; cases h
        | ok rest =>
          rw [hr] at h
          injection h with h
          by_cases hk : k = 0
          · subst hk
            obtain ⟨g1, g2⟩ := scan_step L p n c hlt hst hf
            obtain ⟨q, q1, q2, q3, q4⟩ := ih (L.length - (p + n)) (by omega) (p + n) (flag L n p c) rest (by omega) rfl hr g2
            refine ⟨q, by omega, q2, ?_, ?_⟩
            · rw [show q - p = n + (q - (p + n)) by omega, scan_add, g1, q3]; rfl
            · rw [← h]; simpa using q4
          · refine ⟨p, Nat.le_refl _, hp, by rw [Nat.sub_self]; rfl, .inr ⟨k, n, rest, by omega, h3, h1, by omega, ?_, hr⟩⟩
            rw [← h, if_neg hk]; rfl
theorem toks_err_in : ∀ (m : Nat) (l : List UInt8) (a e : Nat), l.length = m → toks a l = .error e → e < a + l.length := by
  intro m
  induction m using Nat.strongRecOn with
  | _ m ih =>
    intro l a e hm h
    by_cases h0 : l = []
    · subst h0; rw [toks_nil] at h; cases h
    · cases hst : step l with
      | none =>
        rw [toks_none h0 hst] at h; injection h with h
        have := List.length_pos_iff.2 h0
        omega
      | some kn =>
        obtain ⟨k, n⟩ := kn
        obtain ⟨h1, h2, _⟩ := step_le hst
        rw [toks_some h0 hst] at h
        cases hr : toks (a + n) (l.drop n) with
        | ok us => rw [hr] at h; cases h
        | error x =>
          rw [hr] at h
          injection h with h
          have := ih (l.drop n).length (by rw [List.length_drop]; omega) (l.drop n) (a + n) x rfl hr
          rw [List.length_drop] at this
          omega
end Go.Proofs.YtafelijlolidhaaDoor.Lex
