/-
  Plain mathematics of the digits of a number.
-/
import Derived.Test.YtkieljleopbhoaaDoorTok
namespace Go.Proofs.YtkieljleopbhoaaDoor.Lex
open Go.RowKit
/-- A digit's byte. -/
def dg (r : Nat) : UInt8 := UInt8.ofNat (48 + r)
theorem dg_nat (r : Nat) (h : r < 10) : (dg r).toNat = 48 + r := by
  unfold dg
  rw [UInt8.toNat_ofNat']
  omega
theorem dg_digit (r : Nat) (h : r < 10) : digit (dg r) = true := by unfold digit; rw [dg_nat r h]; simp; omega
/-- The digits of a number, so many steps at most. -/
def digN : Nat → Nat → List UInt8
  | 0, k => [dg k]
  | m + 1, k => if k < 10 then [dg k] else digN m (k / 10) ++ [dg (k % 10)]
/-- The digits of a number. -/
def dig (k : Nat) : List UInt8 := digN k k
theorem digN_any : ∀ (m m' k : Nat), k ≤ m → k ≤ m' → digN m k = digN m' k
  | 0, 0, k, _, _ => rfl
  | 0, m' + 1, k, h, _ => by rw [digN, digN, if_pos (by omega)]
  | m + 1, 0, k, _, h => by rw [digN, digN, if_pos (by omega)]
  | m + 1, m' + 1, k, h, h' => by
    rw [digN, digN]
    by_cases h10 : k < 10
    · rw [if_pos h10, if_pos h10]
    · rw [if_neg h10, if_neg h10, digN_any m m' (k / 10) (by omega) (by omega)]
theorem dig_small {k : Nat} (h : k < 10) : dig k = [dg k] := by
  unfold dig
  cases k with
  | zero => rfl
  | succ m => rw [digN, if_pos h]
theorem dig_big {k : Nat} (h : ¬ k < 10) : dig k = dig (k / 10) ++ [dg (k % 10)] := by
  unfold dig
  obtain ⟨m, rfl⟩ : ∃ m, k = m + 1 := ⟨k - 1, by omega⟩
  rw [digN, if_neg h, digN_any m ((m + 1) / 10) ((m + 1) / 10) (by omega) (Nat.le_refl _)]
theorem dig_step (k : Nat) : dig k = (if k / 10 = 0 then [] else dig (k / 10)) ++ [dg (k % 10)] := by
  by_cases h : k < 10
  · rw [dig_small h, if_pos (by omega), Nat.mod_eq_of_lt h]; rfl
  · rw [dig_big h, if_neg (by omega)]
theorem dig_ind {P : Nat → Prop} (h0 : ∀ k, k < 10 → P k) (h1 : ∀ k, ¬ k < 10 → P (k / 10) → P k) (k : Nat) : P k := by
  induction k using Nat.strongRecOn with
  | _ k ih =>
    by_cases h : k < 10
    · exact h0 k h
    · exact h1 k h (ih (k / 10) (by omega))
theorem dig_digits (k : Nat) : ∀ c ∈ dig k, digit c = true := by
  induction k using dig_ind with
  | h0 k h => rw [dig_small h]; intro c hc; rw [List.mem_singleton.1 hc]; exact dg_digit k h
  | h1 k h ih =>
    rw [dig_big h]
    intro c hc
    rcases List.mem_append.1 hc with hc | hc
    · exact ih c hc
    · rw [List.mem_singleton.1 hc]; exact dg_digit _ (by omega)
theorem dig_pos (k : Nat) : 0 < (dig k).length := by
  induction k using dig_ind with
  | h0 k h => rw [dig_small h]; simp
  | h1 k h ih => rw [dig_big h]; simp
theorem dig_head (k : Nat) : 1 ≤ k → ((dig k).getD 0 0).toNat ≠ 48 := by
  induction k using dig_ind with
  | h0 k h => intro hk; rw [dig_small h]; show (dg k).toNat ≠ 48; rw [dg_nat k h]; omega
  | h1 k h ih => intro _; rw [dig_big h, getD_app _ _ _ (dig_pos _)]; exact ih (by omega)
theorem dig_len (n : Nat) : ∀ k, k < 10 ^ (n + 1) → (dig k).length ≤ n + 1 := by
  induction n with
  | zero => intro k hk; rw [dig_small (by omega)]; simp
  | succ n ih =>
    intro k hk
    by_cases h : k < 10
    · rw [dig_small h]; simp
    · rw [dig_big h, List.length_append]
      have := ih (k / 10) (by rw [Nat.pow_succ] at hk; omega)
      simp
      omega
theorem mag_app : ∀ (l r : List UInt8) (a : Nat), mag a (l ++ r) = (mag a l).bind fun b => mag b r
  | [], r, a => rfl
  | c :: l, r, a => by
    simp only [List.cons_append, mag]
    split
    · rfl
    · exact mag_app l r _
theorem mag_dig (k : Nat) : k ≤ 9223372036854775807 → mag 0 (dig k) = some k := by
  induction k using dig_ind with
  | h0 k h => intro hk; rw [dig_small h]; simp only [mag]; rw [dg_nat k h, if_neg (by omega)]; congr 1; omega
  | h1 k h ih =>
    intro hk
    rw [dig_big h, mag_app, ih (by omega)]
    simp only [Option.bind_some, mag]
    rw [dg_nat _ (by omega), if_neg (by omega)]
    congr 1
    omega
theorem span_all (p : UInt8 → Bool) (l : List UInt8) (h : ∀ c ∈ l, p c = true) : span p l = l.length := by
  induction l with
  | nil => rfl
  | cons c l ih => rw [span_cons, if_pos (h c (List.mem_cons_self ..)), ih fun x hx => h x (List.mem_cons_of_mem _ hx)]; rfl
theorem numLen_dig (k : Nat) : numLen (dig k) = (dig k).length := by
  have hs := span_all digit (dig k) (dig_digits k)
  unfold numLen
  rw [hs, if_neg]
  intro ⟨h1, h2⟩
  by_cases h : k < 10
  · rw [dig_small h] at h1; simp at h1
  · exact dig_head k (by omega) h2
theorem numLen_zero (k : Nat) : numLen (48 :: dig k) = 0 := by
  have hs := span_all digit (48 :: dig k) (fun c hc => by
    rcases List.mem_cons.1 hc with rfl | hc
    · decide
    · exact dig_digits k c hc)
  unfold numLen
  rw [hs, if_pos]
  exact ⟨by have := dig_pos k; simp; omega, by show (48 : UInt8).toNat = 48; decide⟩
theorem sg_nodigit (k : Nat) (hk : k < 16) : digit ((sgS k).data.toList.getD 0 0) = false := by
  have h : k = 0 ∨ k = 1 ∨ k = 2 ∨ k = 3 ∨ k = 4 ∨ k = 5 ∨ k = 6 ∨ k = 7 ∨ k = 8 ∨ k = 9 ∨ k = 10 ∨ k = 11 ∨ k = 12 ∨ k = 13 ∨ k = 14 ∨ k = 15 := by omega
  rcases h with rfl | rfl | rfl | rfl | rfl | rfl | rfl | rfl | rfl | rfl | rfl | rfl | rfl | rfl | rfl | rfl
  all_goals decide
/-- A text that begins with a digit: a number, or none. -/
theorem step_digit {l : List UInt8} (h : digit (l.getD 0 0) = true) : step l = if numLen l ≠ 0 then some (2, numLen l) else none := by
  have hn : 48 ≤ (l.getD 0 0).toNat ∧ (l.getD 0 0).toNat ≤ 57 := by unfold digit at h; simpa using h
  have hb : blank (l.getD 0 0) = false := by
    generalize l.getD 0 0 = c at hn
    unfold blank; simp; omega
  have hl : letter (l.getD 0 0) = false := by
    generalize l.getD 0 0 = c at hn
    unfold letter; simp; omega
  have h1 : silLen l = 0 := by
    unfold silLen
    rw [if_neg]
    · exact span_zero _ _ hb
    · intro hp
      obtain ⟨t, ht⟩ := prefix_app hp
      rw [ht] at hn
      simp at hn
  have h2 : wordLen l = 0 := by unfold wordLen; rw [if_pos (span_zero _ _ hl)]
  have h4 : signLen l = 0 := by
    rcases signLen_cases l with h | ⟨k', hk, hp, _⟩
    · exact h
    · obtain ⟨t, ht⟩ := prefix_app hp
      have hs := sg_size k' hk
      have := sg_nodigit k' hk
      rw [ht, getD_app _ _ _ (by rw [← Lib.size_eq]; omega)] at h
      rw [this] at h
      cases h
  unfold step
  simp [h1, h2, h4]
theorem toks_dig (k : Nat) : toks 0 (dig k) = .ok [⟨2, dig k, 0⟩] := by
  have hp := dig_pos k
  have hne : dig k ≠ [] := fun e => by rw [e] at hp; simp at hp
  have hd : digit ((dig k).getD 0 0) = true := by
    have := span_at digit (dig k) 0 (by rw [span_all digit _ (dig_digits k)]; exact hp)
    exact this
  have hs : step (dig k) = some (2, (dig k).length) := by rw [step_digit hd, numLen_dig, if_pos (by omega)]
  rw [toks_some hne hs, List.drop_length, toks_nil, List.take_length]
  rfl
theorem toks_zero (k : Nat) : toks 0 (32 :: 48 :: dig k) = .error 1 := by
  have h1 : step (32 :: 48 :: dig k) = some (0, 1) := by
    have h0 : silLen (32 :: 48 :: dig k) = 1 := by
      unfold silLen
      rw [if_neg (by simp [Lib.hasPrefix, List.isPrefixOf])]
      rw [span_cons, if_pos (by decide), span_cons, if_neg (by decide)]
    unfold step
    rw [h0]
    rfl
  have h2 : step (48 :: dig k) = none := by
    rw [step_digit (by show digit 48 = true; decide), numLen_zero]
    rfl
  rw [toks_some (by simp) h1]
  show ahead _ (toks 1 (48 :: dig k)) = _
  rw [toks_none (by simp) h2]
  rfl
theorem num_dig (s : ByteArray) (k : Nat) (hk : k ≤ 9223372036854775807) (hs : s.data.toList = dig k) : numN s = (k : Int) ∧ numE s = 0 := by
  have hz : s.size = (dig k).length := by rw [Lib.size_eq, hs]
  have hp := dig_pos k
  unfold numN numE
  rw [hs, numLen_dig, if_neg (by omega), if_neg (by omega), mag_dig k hk]
  exact ⟨rfl, rfl⟩
theorem num_zero (s : ByteArray) (k : Nat) (hs : s.data.toList = 48 :: dig k) : numN s = 0 ∧ numE s = 5 := by
  have hz : s.size = (dig k).length + 1 := by rw [Lib.size_eq, hs]; rfl
  unfold numN numE
  rw [hs, numLen_zero, if_pos (.inr (by omega)), if_pos (.inr (by omega))]
  exact ⟨rfl, rfl⟩
/-- How far the digits are told. -/
def Told (k m : Nat) (l : List UInt8) : Prop := (l = [] ∧ m = k) ∨ (l ≠ [] ∧ dig k = (if m = 0 then [] else dig m) ++ l)
theorem Told.step {k m : Nat} {l : List UInt8} (h : Told k m l) (hg : 0 < m ∨ l = []) : Told k (m / 10) (dg (m % 10) :: l) := by
  refine .inr ⟨by simp, ?_⟩
  rcases h with ⟨rfl, rfl⟩ | ⟨hl, h⟩
  · exact dig_step m
  · have hm : 0 < m := hg.resolve_right hl
    rw [h, if_neg (by omega), dig_step m, List.append_assoc]
    rfl
theorem Told.done {k : Nat} {l : List UInt8} (h : Told k 0 l) (hl : l ≠ []) : l = dig k := by
  rcases h with ⟨h, _⟩ | ⟨_, h⟩
  · exact (hl h).elim
  · rw [h, if_pos rfl]; rfl
end Go.Proofs.YtkieljleopbhoaaDoor.Lex
