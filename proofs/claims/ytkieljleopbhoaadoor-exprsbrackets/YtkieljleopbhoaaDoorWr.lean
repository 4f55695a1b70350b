/-
  As it is written: plain mathematics.
-/
import Derived.Test.YtkieljleopbhoaaDoorFits
import Derived.Lib.ItoaNum
import Derived.Lib.Small
namespace Go.Proofs.YtkieljleopbhoaaDoor.Lex
open Go.RowKit
/-- The rank of an operator. -/
def rkOf (op : Nat) : Nat := match jOf op with
  | some r => r.rank
  | none => if op = 17 then 0 else if op = 4 ∨ op = 5 ∨ op = 19 then 6 else 7
/-- In a place that asks for a rank. -/
def put (least rank : Nat) (s : List UInt8) : List UInt8 := if rank < least then 40 :: (s ++ [41]) else s
/-- Behind a minus. -/
def negW (s : List UInt8) : List UInt8 := if Lib.hasPrefix s [45] then 45 :: 32 :: s else 45 :: s
def yesNo (b : Bool) : List UInt8 := if b then [116, 114, 117, 101] else [102, 97, 108, 115, 101]
/-- As it is written. -/
def wr : Ex → List UInt8
  | .mk op n nm [] => if op = 1 then Lib.itoa n else if op = 2 then yesNo (n == 1) else nm.data.toList
  | .mk op _ _ [a] => if op = 4 then negW (put 6 (rkOf a.op) (wr a)) else if op = 5 then [110, 111, 116, 32] ++ put 6 (rkOf a.op) (wr a) else [112, 114, 101, 32] ++ put 6 (rkOf a.op) (wr a)
  | .mk op _ _ [a, b] => put ((jOf op).getD j0).first (rkOf a.op) (wr a) ++ [32] ++ ((jOf op).getD j0).text.data.toList ++ [32] ++ put ((jOf op).getD j0).second (rkOf b.op) (wr b)
  | .mk _ _ _ [a, b, c] => [105, 102, 32] ++ put 0 (rkOf a.op) (wr a) ++ [32, 116, 104, 101, 110, 32] ++ put 0 (rkOf b.op) (wr b) ++ [32, 101, 108, 115, 101, 32] ++ put 0 (rkOf c.op) (wr c)
  | .mk _ _ _ _ => []
theorem wr_leaf {x : Ex} (h : x.args = []) : wr x = if x.op = 1 then Lib.itoa x.n else if x.op = 2 then yesNo (x.n == 1) else x.name.data.toList := by
  obtain ⟨o, n, s, l⟩ := x; cases h; rw [wr]
theorem wr_one {x a : Ex} (h : x.args = [a]) : wr x = if x.op = 4 then negW (put 6 (rkOf a.op) (wr a)) else if x.op = 5 then [110, 111, 116, 32] ++ put 6 (rkOf a.op) (wr a) else [112, 114, 101, 32] ++ put 6 (rkOf a.op) (wr a) := by
  obtain ⟨o, n, s, l⟩ := x; cases h; rw [wr]
theorem wr_two {x a b : Ex} (h : x.args = [a, b]) : wr x = put ((jOf x.op).getD j0).first (rkOf a.op) (wr a) ++ [32] ++ ((jOf x.op).getD j0).text.data.toList ++ [32] ++ put ((jOf x.op).getD j0).second (rkOf b.op) (wr b) := by
  obtain ⟨o, n, s, l⟩ := x; cases h; rw [wr]
theorem wr_three {x a b c : Ex} (h : x.args = [a, b, c]) : wr x = [105, 102, 32] ++ put 0 (rkOf a.op) (wr a) ++ [32, 116, 104, 101, 110, 32] ++ put 0 (rkOf b.op) (wr b) ++ [32, 101, 108, 115, 101, 32] ++ put 0 (rkOf c.op) (wr c) := by
  obtain ⟨o, n, s, l⟩ := x; cases h; rw [wr]
theorem sz_parts {d M k : Nat} {x : Ex} (h : sz (d + 1) M x = some k) : 1 ≤ M ∧ fieldsOk x.op x.n x.name x.args.length = true ∧ szL (sz d) M 1 x.args = some k := by
  rw [sz] at h
  split at h
  · cases h
  · next hn => exact ⟨by omega, by cases e : fieldsOk x.op x.n x.name x.args.length with | true => rfl | false => exact (hn (.inr e)).elim, h⟩
theorem szL_nil {f : Nat → Ex → Option Nat} {M n k : Nat} (h : szL f M n [] = some k) : k = n := by simp only [szL, Option.some.injEq] at h; exact h.symm
theorem szL_cons {f : Nat → Ex → Option Nat} {M n k : Nat} {a : Ex} {l : List Ex} (h : szL f M n (a :: l) = some k) : ∃ ka, f (M - n) a = some ka ∧ szL f M (n + ka) l = some k := by
  simp only [szL] at h
  cases e : f (M - n) a with
  | none => rw [e] at h; cases h
  | some ka => rw [e] at h; exact ⟨ka, rfl, h⟩
/-- What it is, if its fields are fine. -/
theorem fields_cases {op : Nat} {n : Int} {nm : ByteArray} {len : Nat} (h : fieldsOk op n nm len = true) :
    (op = 1 ∧ 0 ≤ n ∧ len = 0) ∨ (op = 2 ∧ (n = 0 ∨ n = 1) ∧ len = 0) ∨ (op = 3 ∧ isName nm = true ∧ len = 0) ∨ ((op = 4 ∨ op = 5 ∨ op = 19) ∧ len = 1) ∨ (op = 17 ∧ len = 3) ∨ ((∃ r, jOf op = some r) ∧ len = 2) := by
  unfold fieldsOk at h
  by_cases h1 : op = 1
  · rw [if_pos h1] at h; simp only [Bool.and_eq_true, decide_eq_true_eq] at h; exact .inl ⟨h1, h.1, h.2.2⟩
  · rw [if_neg h1] at h
    by_cases h2 : op = 2
    · rw [if_pos h2] at h; simp only [Bool.and_eq_true, Bool.or_eq_true, decide_eq_true_eq] at h; exact .inr (.inl ⟨h2, h.1, h.2.2⟩)
    · rw [if_neg h2] at h
      by_cases h3 : op = 3
      · rw [if_pos h3] at h; simp only [Bool.and_eq_true, decide_eq_true_eq] at h; exact .inr (.inr (.inl ⟨h3, h.2.1, h.2.2⟩))
      · rw [if_neg h3] at h
        simp only [Bool.and_eq_true, decide_eq_true_eq] at h
        obtain ⟨hp, _, _, hl⟩ := h
        unfold parts at hp hl
        by_cases h4 : op = 4 ∨ op = 5 ∨ op = 19
        · rw [if_pos h4] at hl; exact .inr (.inr (.inr (.inl ⟨h4, hl⟩)))
        · rw [if_neg h4] at hl hp
          by_cases h5 : op = 17
          · rw [if_pos h5] at hl; exact .inr (.inr (.inr (.inr (.inl ⟨h5, hl⟩))))
          · rw [if_neg h5] at hl hp
            cases hj : jOf op with
            | none => rw [hj] at hp; simp at hp
            | some r => rw [hj] at hl; exact .inr (.inr (.inr (.inr (.inr ⟨⟨r, rfl⟩, hl⟩))))
theorem len0 {l : List Ex} (h : l.length = 0) : l = [] := List.eq_nil_of_length_eq_zero h
theorem len1 {l : List Ex} (h : l.length = 1) : ∃ a, l = [a] := by match l, h with | [a], _ => exact ⟨a, rfl⟩
theorem len2 {l : List Ex} (h : l.length = 2) : ∃ a b, l = [a, b] := by match l, h with | [a, b], _ => exact ⟨a, b, rfl⟩
theorem len3 {l : List Ex} (h : l.length = 3) : ∃ a b c, l = [a, b, c] := by match l, h with | [a, b, c], _ => exact ⟨a, b, c, rfl⟩
theorem put_len (a b : Nat) (s : List UInt8) : (put a b s).length ≤ s.length + 2 := by unfold put; split <;> simp
theorem neg_len (s : List UInt8) : (negW s).length ≤ s.length + 2 := by unfold negW; split <;> simp
theorem yes_len (b : Bool) : (yesNo b).length ≤ 5 := by cases b <;> decide
theorem dec_len : ∀ (k u : Nat), u < 10 ^ (k + 1) → (Lib.decDigits u).length ≤ k + 1
  | 0, u, h => by rw [Lib.decDigits, dif_pos (by omega)]; simp
  | k + 1, u, h => by
    rw [Lib.decDigits]
    split
    · simp
    · have := dec_len k (u / 10) (by rw [Nat.div_lt_iff_lt_mul (by omega)]; rw [Nat.pow_succ] at h; exact h)
      simp; omega
theorem itoa_len {n : Int} (h0 : 0 ≤ n) (h1 : n ≤ 9223372036854775807) : (Lib.itoa n).length ≤ 19 := by
  unfold Lib.itoa
  rw [if_neg (by omega)]
  exact dec_len 18 n.toNat (by have : (10 : Nat) ^ (18 + 1) = 10000000000000000000 := by decide
                               omega)
theorem j_len {op : Nat} {r : J} (h : jOf op = some r) : r.text.data.toList.length ≤ 3 ∧ r.first ≤ 7 ∧ r.second ≤ 7 ∧ r.text.size ≤ 3 := by
  have : ∀ r ∈ JT, r.text.data.toList.length ≤ 3 ∧ r.first ≤ 7 ∧ r.second ≤ 7 ∧ r.text.size ≤ 3 := by decide
  exact this r (List.mem_of_find?_eq_some h)
theorem name_len {s : ByteArray} (h : isName s = true) : s.size ≤ 40 := by
  unfold isName at h
  simp only [Bool.and_eq_true, decide_eq_true_eq] at h
  exact h.2.1
theorem St.part {w : World} {x : Ex} {s : Value} (h : St w x s) (i : Nat) (hi : i < x.args.length) : ∃ t, St w x.args[i] t := by
  obtain ⟨_, _, sl, _, _, _, _, _, _, _, hs⟩ := h.out
  exact ⟨_, hs i hi⟩
theorem St.arg0 {w : World} {x a : Ex} {s : Value} {l : List Ex} (h : St w x s) (he : x.args = a :: l) : ∃ t, St w a t := by
  obtain ⟨t, ht⟩ := h.part 0 (by rw [he]; simp)
  exact ⟨t, by simpa [he] using ht⟩
theorem St.arg1 {w : World} {x a b : Ex} {s : Value} {l : List Ex} (h : St w x s) (he : x.args = a :: b :: l) : ∃ t, St w b t := by
  obtain ⟨t, ht⟩ := h.part 1 (by rw [he]; simp)
  exact ⟨t, by simpa [he] using ht⟩
theorem St.arg2 {w : World} {x a b c : Ex} {s : Value} {l : List Ex} (h : St w x s) (he : x.args = a :: b :: c :: l) : ∃ t, St w c t := by
  obtain ⟨t, ht⟩ := h.part 2 (by rw [he]; simp)
  exact ⟨t, by simpa [he] using ht⟩
/-- How long it is. -/
theorem wr_len : ∀ (d M : Nat) (x : Ex) (k : Nat) (w : World) (s : Value), sz d M x = some k → St w x s → (wr x).length + 2 ≤ 64 * k
  | 0, M, x, k, w, s, h, _ => by simp [sz] at h
  | d + 1, M, x, k, w, s, h, hS => by
    obtain ⟨hM, hf, hl⟩ := sz_parts h
    obtain ⟨_, _, _, _, _, hn, _⟩ := hS.out
    rcases fields_cases hf with ⟨h1, h2, h3⟩ | ⟨h1, h2, h3⟩ | ⟨h1, h2, h3⟩ | ⟨h1, h3⟩ | ⟨h1, h3⟩ | ⟨⟨r, hr⟩, h3⟩
    · have e := len0 h3
      rw [e] at hl
      have := szL_nil hl
      have := itoa_len h2 hn.2
      rw [wr_leaf e, if_pos h1]; omega
    · have e := len0 h3
      rw [e] at hl
      have := szL_nil hl
      have := yes_len (x.n == 1)
      rw [wr_leaf e, if_neg (by omega), if_pos h1]; omega
    · have e := len0 h3
      rw [e] at hl
      have := szL_nil hl
      have := name_len h2
      rw [wr_leaf e, if_neg (by omega), if_neg (by omega), ← Lib.size_eq]; omega
    · obtain ⟨a, e⟩ := len1 h3
      rw [e] at hl
      obtain ⟨ka, ha, hl⟩ := szL_cons hl
      have := szL_nil hl
      obtain ⟨t, ht⟩ := hS.arg0 e
      have := wr_len d _ a ka w t ha ht
      have := put_len 6 (rkOf a.op) (wr a)
      have := neg_len (put 6 (rkOf a.op) (wr a))
      rw [wr_one e]
      split
      · omega
      · split <;> simp only [List.length_append, List.length_cons, List.length_nil] <;> omega
    · obtain ⟨a, b, c, e⟩ := len3 h3
      rw [e] at hl
      obtain ⟨ka, ha, hl⟩ := szL_cons hl
      obtain ⟨kb, hb, hl⟩ := szL_cons hl
      obtain ⟨kc, hc, hl⟩ := szL_cons hl
      have := szL_nil hl
      obtain ⟨ta, hta⟩ := hS.arg0 e
      obtain ⟨tb, htb⟩ := hS.arg1 e
      obtain ⟨tc, htc⟩ := hS.arg2 e
      have := wr_len d _ a ka w ta ha hta
      have := wr_len d _ b kb w tb hb htb
      have := wr_len d _ c kc w tc hc htc
      have := put_len 0 (rkOf a.op) (wr a)
      have := put_len 0 (rkOf b.op) (wr b)
      have := put_len 0 (rkOf c.op) (wr c)
      rw [wr_three e]
      simp only [List.length_append, List.length_cons, List.length_nil]
      omega
    · obtain ⟨a, b, e⟩ := len2 h3
      rw [e] at hl
      obtain ⟨ka, ha, hl⟩ := szL_cons hl
      obtain ⟨kb, hb, hl⟩ := szL_cons hl
      have := szL_nil hl
      obtain ⟨ta, hta⟩ := hS.arg0 e
      obtain ⟨tb, htb⟩ := hS.arg1 e
      have := wr_len d _ a ka w ta ha hta
      have := wr_len d _ b kb w tb hb htb
      obtain ⟨hj, _⟩ := j_len hr
      rw [wr_two e, hr]
      have := put_len ((some r).getD j0).first (rkOf a.op) (wr a)
      have := put_len ((some r).getD j0).second (rkOf b.op) (wr b)
      simp only [List.length_append, List.length_cons, List.length_nil, Option.getD_some] at *
      omega
end Go.Proofs.YtkieljleopbhoaaDoor.Lex
