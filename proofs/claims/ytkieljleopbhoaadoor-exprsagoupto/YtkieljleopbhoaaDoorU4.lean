/-
  Plain mathematics of the digits of a number.
  What is written is read again: the tokens of what is worked out, and the plain reader over them.
  What may stand in any place: the contract of atom, by the plain reader.
  What has two parts, in new memory.
  What stands in a place that asks for a rank: the contract of part.
  What stands in a place: a choice; and the contract of part, whatever stands there.
  The whole of what is read: a panic is caught, and told as an error.
-/
import Derived.Test.YtkieljleopbhoaaDoorU1
import Derived.Test.YtkieljleopbhoaaDoorU3
import Derived.ScopeJumps
import Derived.Recover
namespace Go.Proofs.YtkieljleopbhoaaDoor.Lex
open Go.RowKit
/-- A digit's byte. -/
def dg (r : Nat) : UInt8 := UInt8.ofNat (48 + r)
theorem dg_nat (r : Nat) (h : r < 10) : (dg r).toNat = 48 + r := by
  unfold dg
  rw [UInt8.toNat_ofNat']
  omega
theorem dg_digit (r : Nat) (h : r < 10) : digit (dg r) = true := by unfold digit; rw [dg_nat r h]; simp; omega
/-- The digits of a number, so many steps at most. -/
def digN : Nat → Nat → List UInt8
  | 0, k => [dg k]
  | m + 1, k => if k < 10 then [dg k] else digN m (k / 10) ++ [dg (k % 10)]
/-- The digits of a number. -/
def dig (k : Nat) : List UInt8 := digN k k
theorem digN_any : ∀ (m m' k : Nat), k ≤ m → k ≤ m' → digN m k = digN m' k
  | 0, 0, k, _, _ => rfl
  | 0, m' + 1, k, h, _ => by rw [digN, digN, if_pos (by omega)]
  | m + 1, 0, k, _, h => by rw [digN, digN, if_pos (by omega)]
  | m + 1, m' + 1, k, h, h' => by
    rw [digN, digN]
    by_cases h10 : k < 10
    · rw [if_pos h10, if_pos h10]
    · rw [if_neg h10, if_neg h10, digN_any m m' (k / 10) (by omega) (by omega)]
theorem dig_small {k : Nat} (h : k < 10) : dig k = [dg k] := by
  unfold dig
  cases k with
  | zero => rfl
  | succ m => rw [digN, if_pos h]
theorem dig_big {k : Nat} (h : ¬ k < 10) : dig k = dig (k / 10) ++ [dg (k % 10)] := by
  unfold dig
  obtain ⟨m, rfl⟩ : ∃ m, k = m + 1 := ⟨k - 1, by omega⟩
  rw [digN, if_neg h, digN_any m ((m + 1) / 10) ((m + 1) / 10) (by omega) (Nat.le_refl _)]
theorem dig_step (k : Nat) : dig k = (if k / 10 = 0 then [] else dig (k / 10)) ++ [dg (k % 10)] := by
  by_cases h : k < 10
  · rw [dig_small h, if_pos (by omega), Nat.mod_eq_of_lt h]; rfl
  · rw [dig_big h, if_neg (by omega)]
theorem dig_ind {P : Nat → Prop} (h0 : ∀ k, k < 10 → P k) (h1 : ∀ k, ¬ k < 10 → P (k / 10) → P k) (k : Nat) : P k := by
  induction k using Nat.strongRecOn with
  | _ k ih =>
    by_cases h : k < 10
    · exact h0 k h
    · exact h1 k h (ih (k / 10) (by omega))
theorem dig_digits (k : Nat) : ∀ c ∈ dig k, digit c = true := by
  induction k using dig_ind with
  | h0 k h => rw [dig_small h]; intro c hc; rw [List.mem_singleton.1 hc]; exact dg_digit k h
  | h1 k h ih =>
    rw [dig_big h]
    intro c hc
    rcases List.mem_append.1 hc with hc | hc
    · exact ih c hc
    · rw [List.mem_singleton.1 hc]; exact dg_digit _ (by omega)
theorem dig_pos (k : Nat) : 0 < (dig k).length := by
  induction k using dig_ind with
  | h0 k h => rw [dig_small h]; simp
  | h1 k h ih => rw [dig_big h]; simp
theorem dig_head (k : Nat) : 1 ≤ k → ((dig k).getD 0 0).toNat ≠ 48 := by
  induction k using dig_ind with
  | h0 k h => intro hk; rw [dig_small h]; show (dg k).toNat ≠ 48; rw [dg_nat k h]; omega
  | h1 k h ih => intro _; rw [dig_big h, getD_app _ _ _ (dig_pos _)]; exact ih (by omega)
theorem dig_len (n : Nat) : ∀ k, k < 10 ^ (n + 1) → (dig k).length ≤ n + 1 := by
  induction n with
  | zero => intro k hk; rw [dig_small (by omega)]; simp
  | succ n ih =>
    intro k hk
    by_cases h : k < 10
    · rw [dig_small h]; simp
    · rw [dig_big h, List.length_append]
      have := ih (k / 10) (by rw [Nat.pow_succ] at hk; omega)
      simp
      omega
theorem mag_app : ∀ (l r : List UInt8) (a : Nat), mag a (l ++ r) = (mag a l).bind fun b => mag b r
  | [], r, a => rfl
  | c :: l, r, a => by
    simp only [List.cons_append, mag]
    split
    · rfl
    · exact mag_app l r _
theorem mag_dig (k : Nat) : k ≤ 9223372036854775807 → mag 0 (dig k) = some k := by
  induction k using dig_ind with
  | h0 k h => intro hk; rw [dig_small h]; simp only [mag]; rw [dg_nat k h, if_neg (by omega)]; congr 1; omega
  | h1 k h ih =>
    intro hk
    rw [dig_big h, mag_app, ih (by omega)]
    simp only [Option.bind_some, mag]
    rw [dg_nat _ (by omega), if_neg (by omega)]
    congr 1
    omega
theorem span_all (p : UInt8 → Bool) (l : List UInt8) (h : ∀ c ∈ l, p c = true) : span p l = l.length := by
  induction l with
  | nil => rfl
  | cons c l ih => rw [span_cons, if_pos (h c (List.mem_cons_self ..)), ih fun x hx => h x (List.mem_cons_of_mem _ hx)]; rfl
theorem numLen_dig (k : Nat) : numLen (dig k) = (dig k).length := by
  have hs := span_all digit (dig k) (dig_digits k)
  unfold numLen
  rw [hs, if_neg]
  intro ⟨h1, h2⟩
  by_cases h : k < 10
  · rw [dig_small h] at h1; simp at h1
  · exact dig_head k (by omega) h2
theorem numLen_zero (k : Nat) : numLen (48 :: dig k) = 0 := by
  have hs := span_all digit (48 :: dig k) (fun c hc => by
    rcases List.mem_cons.1 hc with rfl | hc
    · decide
    · exact dig_digits k c hc)
  unfold numLen
  rw [hs, if_pos]
  exact ⟨by have := dig_pos k; simp; omega, by show (48 : UInt8).toNat = 48; decide⟩
theorem sg_nodigit (k : Nat) (hk : k < 16) : digit ((sgS k).data.toList.getD 0 0) = false := by
  have h : k = 0 ∨ k = 1 ∨ k = 2 ∨ k = 3 ∨ k = 4 ∨ k = 5 ∨ k = 6 ∨ k = 7 ∨ k = 8 ∨ k = 9 ∨ k = 10 ∨ k = 11 ∨ k = 12 ∨ k = 13 ∨ k = 14 ∨ k = 15 := by omega
  rcases h with rfl | rfl | rfl | rfl | rfl | rfl | rfl | rfl | rfl | rfl | rfl | rfl | rfl | rfl | rfl | rfl
  all_goals decide
/-- A text that begins with a digit: a number, or none. -/
theorem step_digit {l : List UInt8} (h : digit (l.getD 0 0) = true) : step l = if numLen l ≠ 0 then some (2, numLen l) else none := by
  have hn : 48 ≤ (l.getD 0 0).toNat ∧ (l.getD 0 0).toNat ≤ 57 := by unfold digit at h; simpa using h
  have hb : blank (l.getD 0 0) = false := by
    generalize l.getD 0 0 = c at hn
    unfold blank; simp; omega
  have hl : letter (l.getD 0 0) = false := by
    generalize l.getD 0 0 = c at hn
    unfold letter; simp; omega
  have h1 : silLen l = 0 := by
    unfold silLen
    rw [if_neg]
    · exact span_zero _ _ hb
    · intro hp
      obtain ⟨t, ht⟩ := prefix_app hp
      rw [ht] at hn
      simp at hn
  have h2 : wordLen l = 0 := by unfold wordLen; rw [if_pos (span_zero _ _ hl)]
  have h4 : signLen l = 0 := by
    rcases signLen_cases l with h | ⟨k', hk, hp, _⟩
    · exact h
    · obtain ⟨t, ht⟩ := prefix_app hp
      have hs := sg_size k' hk
      have := sg_nodigit k' hk
      rw [ht, getD_app _ _ _ (by rw [← Lib.size_eq]; omega)] at h
      rw [this] at h
      cases h
  unfold step
  simp [h1, h2, h4]
theorem toks_dig (k : Nat) : toks 0 (dig k) = .ok [⟨2, dig k, 0⟩] := by
  have hp := dig_pos k
  have hne : dig k ≠ [] := fun e => by rw [e] at hp; simp at hp
  have hd : digit ((dig k).getD 0 0) = true := by
    have := span_at digit (dig k) 0 (by rw [span_all digit _ (dig_digits k)]; exact hp)
    exact this
  have hs : step (dig k) = some (2, (dig k).length) := by rw [step_digit hd, numLen_dig, if_pos (by omega)]
  rw [toks_some hne hs, List.drop_length, toks_nil, List.take_length]
  rfl
theorem toks_zero (k : Nat) : toks 0 (32 :: 48 :: dig k) = .error 1 := by
  have h1 : step (32 :: 48 :: dig k) = some (0, 1) := by
    have h0 : silLen (32 :: 48 :: dig k) = 1 := by
      unfold silLen
      rw [if_neg (by simp [Lib.hasPrefix, List.isPrefixOf])]
      rw [span_cons, if_pos (by decide), span_cons, if_neg (by decide)]
    unfold step
    rw [h0]
    rfl
  have h2 : step (48 :: dig k) = none := by
    rw [step_digit (by show digit 48 = true; decide), numLen_zero]
    rfl
  rw [toks_some (by simp) h1]
  show ahead _ (toks 1 (48 :: dig k)) = _
  rw [toks_none (by simp) h2]
  rfl
theorem num_dig (s : ByteArray) (k : Nat) (hk : k ≤ 9223372036854775807) (hs : s.data.toList = dig k) : numN s = (k : Int) ∧ numE s = 0 := by
  have hz : s.size = (dig k).length := by rw [Lib.size_eq, hs]
  have hp := dig_pos k
  unfold numN numE
  rw [hs, numLen_dig, if_neg (by omega), if_neg (by omega), mag_dig k hk]
  exact ⟨rfl, rfl⟩
theorem num_zero (s : ByteArray) (k : Nat) (hs : s.data.toList = 48 :: dig k) : numN s = 0 ∧ numE s = 5 := by
  have hz : s.size = (dig k).length + 1 := by rw [Lib.size_eq, hs]; rfl
  unfold numN numE
  rw [hs, numLen_zero, if_pos (.inr (by omega)), if_pos (.inr (by omega))]
  exact ⟨rfl, rfl⟩
/-- How far the digits are told. -/
def Told (k m : Nat) (l : List UInt8) : Prop := (l = [] ∧ m = k) ∨ (l ≠ [] ∧ dig k = (if m = 0 then [] else dig m) ++ l)
theorem Told.step {k m : Nat} {l : List UInt8} (h : Told k m l) (hg : 0 < m ∨ l = []) : Told k (m / 10) (dg (m % 10) :: l) := by
  refine .inr ⟨by simp, ?_⟩
  rcases h with ⟨rfl, rfl⟩ | ⟨hl, h⟩
  · exact dig_step m
  · have hm : 0 < m := hg.resolve_right hl
    rw [h, if_neg (by omega), dig_step m, List.append_assoc]
    rfl
theorem Told.done {k : Nat} {l : List UInt8} (h : Told k 0 l) (hl : l ≠ []) : l = dig k := by
  rcases h with ⟨h, _⟩ | ⟨_, h⟩
  · exact (hl h).elim
  · rw [h, if_pos rfl]; rfl
end Go.Proofs.YtkieljleopbhoaaDoor.Lex
namespace Go.Proofs.YtkieljleopbhoaaDoor.Lex
open Go.RowKit
theorem isMk_eq (m : Mark) (k : Nat) (t : ByteArray) : isMk m k t = (m.kind == k && m.text.data.toList == t.data.toList) := by unfold isMk; rw [ByteArray.toList_eq, ByteArray.toList_eq]
theorem jAt_eq (m : Mark) : jAt m = JT.find? fun r => r.kind == m.kind && r.text.data.toList == m.text.data.toList := by
  unfold jAt jIs
  simp only [ByteArray.toList_eq]
/-- In brackets, where the place asks for more. -/
def tkp (least rank : Nat) (t : List Mark) : List Mark := if rank < least then ⟨3, sgn [40]⟩ :: (t ++ [⟨3, sgn [41]⟩]) else t
def oneMk (op : Nat) : Mark := if op = 4 then ⟨3, sgn [45]⟩ else if op = 5 then ⟨1, sgn [110, 111, 116]⟩ else ⟨1, sgn [112, 114, 101]⟩
def jMk (j : J) : Mark := ⟨j.kind, j.text⟩
/-- The tokens that it is written by. -/
def tk : Ex → List Mark
  | .mk op n nm [] => if op = 1 then [⟨2, ⟨(Lib.itoa n).toArray⟩⟩] else if op = 2 then [⟨1, ⟨(yesNo (n == 1)).toArray⟩⟩] else [⟨1, nm⟩]
  | .mk op _ _ [a] => oneMk op :: tkp 6 (rkOf a.op) (tk a)
  | .mk op _ _ [a, b] => tkp ((jOf op).getD j0).first (rkOf a.op) (tk a) ++ jMk ((jOf op).getD j0) :: tkp ((jOf op).getD j0).second (rkOf b.op) (tk b)
  | .mk _ _ _ [a, b, c] => ⟨1, sgn [105, 102]⟩ :: (tk a ++ ⟨1, sgn [116, 104, 101, 110]⟩ :: (tk b ++ ⟨1, sgn [101, 108, 115, 101]⟩ :: tk c))
  | .mk _ _ _ _ => []
theorem tk_leaf {x : Ex} (h : x.args = []) : tk x = if x.op = 1 then [⟨2, ⟨(Lib.itoa x.n).toArray⟩⟩] else if x.op = 2 then [⟨1, ⟨(yesNo (x.n == 1)).toArray⟩⟩] else [⟨1, x.name⟩] := by
  obtain ⟨o, n, s, l⟩ := x; cases h; rw [tk]
theorem tk_one {x a : Ex} (h : x.args = [a]) : tk x = oneMk x.op :: tkp 6 (rkOf a.op) (tk a) := by
  obtain ⟨o, n, s, l⟩ := x; cases h; rw [tk]
theorem tk_two {x a b : Ex} (h : x.args = [a, b]) : tk x = tkp ((jOf x.op).getD j0).first (rkOf a.op) (tk a) ++ jMk ((jOf x.op).getD j0) :: tkp ((jOf x.op).getD j0).second (rkOf b.op) (tk b) := by
  obtain ⟨o, n, s, l⟩ := x; cases h; rw [tk]
theorem tk_three {x a b c : Ex} (h : x.args = [a, b, c]) : tk x = ⟨1, sgn [105, 102]⟩ :: (tk a ++ ⟨1, sgn [116, 104, 101, 110]⟩ :: (tk b ++ ⟨1, sgn [101, 108, 115, 101]⟩ :: tk c)) := by
  obtain ⟨o, n, s, l⟩ := x; cases h; rw [tk]
/-- These tokens stand there. -/
def At (ts : List Mark) (p : Nat) (l : List Mark) : Prop := ∃ a b, ts = a ++ l ++ b ∧ a.length = p
theorem At.app {ts : List Mark} {p : Nat} {l m : List Mark} (h : At ts p (l ++ m)) : At ts p l ∧ At ts (p + l.length) m := by
  obtain ⟨a, b, rfl, rfl⟩ := h
  exact ⟨⟨a, m ++ b, by simp, rfl⟩, ⟨a ++ l, b, by simp, by simp⟩⟩
theorem At.cons {ts : List Mark} {p : Nat} {m : Mark} {l : List Mark} (h : At ts p (m :: l)) : markAt ts p = m ∧ p < ts.length ∧ At ts (p + 1) l := by
  obtain ⟨a, b, rfl, rfl⟩ := h
  refine ⟨?_, ?_, ⟨a ++ [m], b, by simp, by simp⟩⟩
  · unfold markAt; simp [List.getD]
  · simp
/-- A part, and how it goes on: with as many steps as it wants. -/
def P (ts : List Mark) (a p : Nat) : Res := prs ts (2 * (ts.length - p) + 2) a none p
def Lp (ts : List Mark) (a : Nat) (x : Ex) (r p : Nat) : Res := prs ts (2 * (ts.length - p) + 1) a (some (x, r)) p
theorem P_if {ts : List Mark} {p : Nat} (h : isMk (markAt ts p) 1 (sgn [105, 102]) = true) : P ts 0 p = choiceR ts (P ts) p := by
  have hl := isMk_lt (by omega) h
  unfold P
  rw [prs, if_pos ⟨rfl, h⟩]
  exact choiceR_congr (part := fun a q => prs ts _ a none q) (prs_far ts _).1 fun a q hq => (prs_same ts _ _).1 a q (by omega) (by omega)
theorem P_atom {ts : List Mark} {a p : Nat} (h : ¬ (a = 0 ∧ isMk (markAt ts p) 1 (sgn [105, 102]) = true)) : P ts a p = (atomR ts (P ts) p).go fun x q => Lp ts a x 7 q := by
  unfold P
  rw [prs, if_neg h]
  refine Res.go_congr (atomR_congr fun hl a q hq => (prs_same ts _ _).1 a q (by omega) (by omega)) fun x q h1 => ?_
  have := atomR_far (part := fun a q => prs ts _ a none q) (prs_far ts _).1 h1
  unfold Lp
  exact (prs_same ts _ _).2 _ _ _ (by omega) (by omega)
theorem Lp_none {ts : List Mark} {a r p : Nat} {x : Ex} (h : jAt (markAt ts p) = none) : Lp ts a x r p = .ok (x, p) := by
  unfold Lp
  rw [prs, h]
theorem Lp_stop {ts : List Mark} {a r p : Nat} {x : Ex} {j : J} (h : jAt (markAt ts p) = some j) (hr : j.rank < a ∨ r < j.first) : Lp ts a x r p = .ok (x, p) := by
  unfold Lp
  rw [prs, h]
  simp only
  rw [if_pos hr]
theorem Lp_go {ts : List Mark} {a r p : Nat} {x : Ex} {j : J} (h : jAt (markAt ts p) = some j) (h1 : a ≤ j.rank) (h2 : j.first ≤ r) : Lp ts a x r p = (P ts j.second (p + 1)).go fun y q => Lp ts a ⟨j.op, 0, ByteArray.empty, [x, y]⟩ j.rank q := by
  have hl := jAt_lt h
  unfold Lp
  rw [prs, h]
  simp only
  rw [if_neg (by omega)]
  refine Res.go_congr ((prs_same ts _ _).1 _ _ (by omega) (by omega)) fun y q h3 => ?_
  have := (prs_far ts _).1 _ _ _ _ h3
  exact (prs_same ts _ _).2 _ _ _ (by omega) (by omega)
/-- The table's own laws. -/
theorem JT_laws : ∀ j ∈ JT, j.rank ≤ j.first ∧ 1 ≤ j.first ∧ j.first ≤ 5 ∧ j.rank ≤ 5 ∧ (j.second = j.rank + 1 ∨ (j.rank = 0 ∧ j.second = 0)) ∧ jOf j.op = some j ∧ jAt (jMk j) = some j ∧ j.op ≠ 17 ∧ j.op < 256 := by
  have e : ∀ j : J, (jMk j).kind = j.kind := fun _ => rfl
  intro j hj
  simp only [JT, List.mem_cons, List.not_mem_nil, or_false] at hj
  rcases hj with rfl | rfl | rfl | rfl | rfl | rfl | rfl | rfl | rfl | rfl | rfl | rfl <;> (refine ⟨by decide, by decide, by decide, by decide, by decide, rfl, by rw [jAt_eq]; rfl, by decide, by decide⟩)
theorem jAt_mem {m : Mark} {j : J} (h : jAt m = some j) : j ∈ JT := List.mem_of_find?_eq_some h
theorem jOf_mem {op : Nat} {j : J} (h : jOf op = some j) : j ∈ JT ∧ j.op = op := ⟨List.mem_of_find?_eq_some h, by simpa using List.find?_some h⟩
/-- The rank by which it goes on. -/
def rkL (op : Nat) : Nat := match jOf op with
  | some r => r.rank
  | none => 7
theorem rkL_le (op : Nat) : rkOf op ≤ rkL op := by
  unfold rkOf rkL
  cases jOf op with
  | some r => exact Nat.le_refl _
  | none => simp only; split; omega; split <;> omega
theorem rkOf_le (op : Nat) : rkOf op ≤ 7 := by
  unfold rkOf
  cases h : jOf op with
  | some r => have := JT_laws r (jOf_mem h).1; simp only; omega
  | none => simp only; split; omega; split <;> omega
/-- It is read where its tokens stand, and goes on from there. -/
def T (x : Ex) : Prop := ∀ ts p a, a ≤ rkOf x.op → At ts p (tk x) → (∀ j, jAt (markAt ts (p + (tk x).length)) = some j → j.first ≤ rkOf x.op) →
  P ts a p = if x.op = 17 then .ok (x, p + (tk x).length) else Lp ts a x (rkL x.op) (p + (tk x).length)
theorem rk17 : rkOf 17 = 0 := by decide
/-- What is read by a place that asks for nothing, ahead of what does not go on. -/
theorem T.all {x : Ex} (h : T x) {ts : List Mark} {p : Nat} (hA : At ts p (tk x)) (hn : jAt (markAt ts (p + (tk x).length)) = none) : P ts 0 p = .ok (x, p + (tk x).length) := by
  rw [h ts p 0 (Nat.zero_le _) hA (fun j hj => by rw [hn] at hj; cases hj)]
  split
  · rfl
  · exact Lp_none hn
theorem mk_no (m : Mark) (k : Nat) (t : ByteArray) (h : m.kind ≠ k) : isMk m k t = false := by
  unfold isMk
  simp [h]
theorem atom_open {ts : List Mark} {p q : Nat} {x : Ex} (hm : markAt ts p = ⟨3, sgn [40]⟩) (h1 : P ts 0 (p + 1) = .ok (x, q)) (h2 : markAt ts q = ⟨3, sgn [41]⟩) : atomR ts (P ts) p = .ok (x, q + 1) := by
  unfold atomR
  simp only
  rw [hm, if_neg (by rw [isMk_eq]; decide), if_neg (by rw [isMk_eq]; decide), if_pos (by rw [isMk_eq]; decide), h1, Res.go_ok]
  unfold passR
  rw [h2, if_pos (by rw [isMk_eq]; decide)]
/-- In its place, with brackets or without. -/
theorem T.place {x : Ex} (h : T x) {ts : List Mark} {p a least : Nat} (hl : least ≤ 7) (ha : a ≤ least) (hA : At ts p (tkp least (rkOf x.op) (tk x))) (hf : least ≤ rkOf x.op → ∀ j, jAt (markAt ts (p + (tkp least (rkOf x.op) (tk x)).length)) = some j → j.first ≤ rkOf x.op) :
    (∃ r, least ≤ r ∧ P ts a p = Lp ts a x r (p + (tkp least (rkOf x.op) (tk x)).length)) ∨ (least = 0 ∧ P ts a p = .ok (x, p + (tkp least (rkOf x.op) (tk x)).length)) := by
  by_cases hb : rkOf x.op < least
  · have e : tkp least (rkOf x.op) (tk x) = ⟨3, sgn [40]⟩ :: (tk x ++ [⟨3, sgn [41]⟩]) := by unfold tkp; rw [if_pos hb]
    rw [e] at hA ⊢
    obtain ⟨h1, _, h3⟩ := hA.cons
    obtain ⟨h4, h5⟩ := h3.app
    obtain ⟨h6, _, _⟩ := h5.cons
    have hp := T.all h h4 (by rw [h6, jAt_eq]; decide)
    refine .inl ⟨7, hl, ?_⟩
    rw [P_atom (by rw [h1]; intro hc; exact absurd hc.2 (by rw [isMk_eq]; decide)), atom_open h1 hp h6, Res.go_ok]
    simp only [List.length_cons, List.length_append, List.length_nil]
    rw [show p + 1 + (tk x).length + 1 = p + ((tk x).length + (0 + 1) + 1) by omega]
  · have e : tkp least (rkOf x.op) (tk x) = tk x := by unfold tkp; rw [if_neg hb]
    rw [e] at hA hf ⊢
    have := h ts p a (by omega) hA (hf (by omega))
    by_cases h17 : x.op = 17
    · rw [if_pos h17] at this
      rw [h17, rk17] at hb
      exact .inr ⟨by omega, this⟩
    · rw [if_neg h17] at this
      exact .inl ⟨rkL x.op, by have := rkL_le x.op; omega, this⟩
end Go.Proofs.YtkieljleopbhoaaDoor.Lex
namespace Go.Proofs.YtkieljleopbhoaaDoor.Lex
open Go.ChangeShapes Go.WideShapes Go.ChangeAt Go.RowKit Go.Joins Go.WideMaps Go.WideElems Go.Maps
theorem look_at {mp : Nat} {w : World} (h : AtM (fun _ => true) mp 0 w) (m : Mark) (hk : m.kind < 256) (hs : m.text.size ≤ 1048576) {k : Nat} (h8 : k < 8) (e : aKey k = mkV m) : (Instr.lookup 68 (.map (some mp)) (mkV m) true).run Tryd.prog w = .ok (.tuple #[.func (.func (aR k).2.2) #[] #[], .bool true]) w := by
  rcases h.look m hk hs with ⟨h1, _⟩ | ⟨k', h1, h2, h3⟩
  · exact (h1 k h8 e).elim
  · by_cases ek : k' = k
    · subst ek; exact h3
    · exact (aKey_ne h1 h8 ek (h2.trans e.symm)).elim
theorem look_no {mp : Nat} {w : World} (h : AtM (fun _ => true) mp 0 w) (m : Mark) (hk : m.kind < 256) (hs : m.text.size ≤ 1048576) (hn : ∀ k, k < 8 → aKey k ≠ mkV m) : (Instr.lookup 68 (.map (some mp)) (mkV m) true).run Tryd.prog w = .ok (.tuple #[.nilFunc, .bool false]) w := by
  rcases h.look m hk hs with ⟨_, h2⟩ | ⟨k', h1, h2, h3⟩
  · exact h2
  · exact (hn k' h1 h2).elim
theorem mk_key (m : Mark) (k : Nat) : isMk m (aR k).1 (aR k).2.1 = true → aKey k = mkV m := fun h => by
  rw [isMk_eq] at h
  simp only [Bool.and_eq_true, beq_iff_eq] at h
  obtain ⟨h1, h2⟩ := h
  obtain ⟨kd, ⟨⟨l⟩⟩⟩ := m
  simp only at h1 h2
  unfold aKey mkV
  simp only [h1]
  rw [show (aR k).2.1 = ⟨⟨l⟩⟩ by cases e : (aR k).2.1 with | mk d => rw [e] at h2; cases d with | mk l' => simp only at h2; rw [h2]]
theorem no_mk {m : Mark} (hn : ∀ k, k < 8 → aKey k ≠ mkV m) (k : Nat) (h8 : k < 8) : isMk m (aR k).1 (aR k).2.1 = false := by
  cases e : isMk m (aR k).1 (aR k).2.1 with
  | false => rfl
  | true => exact (hn k h8 (mk_key m k e)).elim
theorem plain55 : Plain 55 := fun _ _ => by kernel_rfl
theorem plain56 : Plain 56 := fun _ _ => by kernel_rfl
theorem plain57 : Plain 57 := fun _ _ => by kernel_rfl
theorem plain58 : Plain 58 := fun _ _ => by kernel_rfl
theorem plain59 : Plain 59 := fun _ _ => by kernel_rfl
theorem plain60 : Plain 60 := fun _ _ => by kernel_rfl
theorem plain62 : Plain 62 := fun _ _ => by kernel_rfl
theorem plain63 : Plain 63 := fun _ _ => by kernel_rfl
/-- A word that is none of the atoms by itself, and a number. -/
theorem atomR_word {ts : List Mark} {part : Nat → Nat → Res} {p : Nat} (hk : (markAt ts p).kind = 1) (h1 : isMk (markAt ts p) 1 (sgn [116, 114, 117, 101]) = false) (h2 : isMk (markAt ts p) 1 (sgn [102, 97, 108, 115, 101]) = false) (h3 : isMk (markAt ts p) 1 (sgn [110, 111, 116]) = false) (h4 : isMk (markAt ts p) 1 (sgn [112, 114, 101]) = false) :
    atomR ts part p = if isName (markAt ts p).text then .ok (⟨3, 0, (markAt ts p).text, []⟩, p + 1) else .error (5, p) := by
  have b0 : isMk (markAt ts p) 3 (sgn [40]) = false := mk_no _ _ _ (by omega)
  have b1 : isMk (markAt ts p) 3 (sgn [45]) = false := mk_no _ _ _ (by omega)
  unfold atomR
  simp only
  rw [h1, h2, h3, h4, b0, b1]
  simp [hk]
theorem atomR_num {ts : List Mark} {part : Nat → Nat → Res} {p : Nat} (hk : (markAt ts p).kind = 2) : atomR ts part p = if numE (markAt ts p).text = 0 then .ok (⟨1, numN (markAt ts p).text, ByteArray.empty, []⟩, p + 1) else .error ((numE (markAt ts p).text).toNat, p) := by
  have a : ∀ k t, k ≠ 2 → isMk (markAt ts p) k t = false := fun k t hk' => mk_no _ _ _ (by omega)
  unfold atomR
  simp only
  rw [a _ _ (by omega), a _ _ (by omega), a _ _ (by omega), a _ _ (by omega), a _ _ (by omega), a _ _ (by omega)]
  simp [hk]
/-- The contract of part, at the next place. -/
def CP (r mp : Nat) (v : Value) (ts : List Mark) (part : Nat → Nat → Res) (p : Nat) (w : World) : Prop :=
  ∀ (a : Nat), a = 0 ∨ a = 6 → ∀ W, w.grownBy W (some r) → Rdr r mp v ts (p + 1) W → Calls Tryd.prog 65 #[.pointer (some ⟨r, 0, none⟩), .int .i64 (a : Int)] W (Post r mp v ts W (part a (p + 1)))
theorem word_c {r mp : Nat} {v : Value} {ts : List Mark} {p : Nat} {w : World} (h : Rdr r mp v ts p w) (E : PEnv r mp w) (hp : p < ts.length) : Calls Tryd.prog 55 #[.pointer (some ⟨r, 0, none⟩)] w (Post r mp v ts w (if isName (markAt ts p).text then .ok (⟨3, 0, (markAt ts p).text, []⟩, p + 1) else .error (5, p))) := by
  cases hn : isName (markAt ts p).text with
  | true => exact name_ok r mp v ts p w h hp E.tabR hn
  | false => exact name_bad r mp v ts p w h E.tabR hn
theorem num_c {r mp : Nat} {v : Value} {ts : List Mark} {p : Nat} {w : World} (h : Rdr r mp v ts p w) (E : PEnv r mp w) (hp : p < ts.length) (hT : TsOk ts) : Calls Tryd.prog 58 #[.pointer (some ⟨r, 0, none⟩)] w (Post r mp v ts w (if numE (markAt ts p).text = 0 then .ok (⟨1, numN (markAt ts p).text, ByteArray.empty, []⟩, p + 1) else .error ((numE (markAt ts p).text).toNat, p))) := by
  obtain ⟨tp, pv, hv⟩ := E.var
  by_cases hn : numE (markAt ts p).text = 0
  · rw [if_pos hn]; exact number_ok r mp v ts p w h hp tp pv hv (hT.at p).2 hn
  · rw [if_neg hn]; exact number_bad r mp v ts p w h tp pv hv (hT.at p).2 hn
theorem brackets_c {r mp : Nat} {v : Value} {ts : List Mark} {part : Nat → Nat → Res} {p : Nat} {w : World} (h : Rdr r mp v ts p w) (hp : p < ts.length) (cp : CP r mp v ts part p w) : Calls Tryd.prog 59 #[.pointer (some ⟨r, 0, none⟩)] w (Post r mp v ts w ((part 0 (p + 1)).go fun x q => passR ts 3 (sgn [41]) q fun q => .ok (x, q))) := by
  have c0 := cp 0 (.inl rfl)
  cases e : part 0 (p + 1) with
  | error nq =>
    obtain ⟨n, q⟩ := nq
    rw [e] at c0
    rw [Res.go_error]
    exact brackets_bad r mp v ts p n q w h hp c0
  | ok xq =>
    obtain ⟨x, q⟩ := xq
    rw [e] at c0
    rw [Res.go_ok]
    unfold passR
    cases hm : isMk (markAt ts q) 3 (sgn [41]) with
    | true => exact brackets_ok r mp v ts p q x w h hp c0 hm
    | false => exact brackets_open r mp v ts p q x w h hp c0 hm
theorem one_c {r mp : Nat} {v : Value} {ts : List Mark} {part : Nat → Nat → Res} {p : Nat} {w : World} (h : Rdr r mp v ts p w) (hp : p < ts.length) (cp : CP r mp v ts part p w) (F op : Nat) (hF : (F = 60 ∧ op = 4) ∨ (F = 62 ∧ op = 5) ∨ (F = 63 ∧ op = 19)) : Calls Tryd.prog F #[.pointer (some ⟨r, 0, none⟩)] w (Post r mp v ts w ((part 6 (p + 1)).go fun x q => .ok (⟨op, 0, ByteArray.empty, [x]⟩, q))) := by
  have c0 := fun W (hW : Below w.heap.size w W) W' (g : W.grownBy W' (some r)) => cp 6 (.inr rfl) W' (grown_on (grown_below hW _) g)
  cases e : part 6 (p + 1) with
  | error nq =>
    obtain ⟨n, q⟩ := nq
    rw [e] at c0
    rw [Res.go_error]
    have c1 := fun W hW => one_bad r mp v ts p op n q W (h.step hW) hp (c0 W hW)
    rcases hF with ⟨rfl, rfl⟩ | ⟨rfl, rfl⟩ | ⟨rfl, rfl⟩
    · exact neg_bad r mp v ts n q w c1
    · exact not_bad r mp v ts n q w c1
    · exact pre_bad r mp v ts n q w c1
  | ok xq =>
    obtain ⟨x, q⟩ := xq
    rw [e] at c0
    rw [Res.go_ok]
    have c1 := fun W hW => one_ok r mp v ts p op q x W (h.step hW) hp (by omega) (c0 W hW)
    rcases hF with ⟨rfl, rfl⟩ | ⟨rfl, rfl⟩ | ⟨rfl, rfl⟩
    · exact neg_ok r mp v ts p q _ w h c1
    · exact not_ok r mp v ts p q _ w h c1
    · exact pre_ok r mp v ts p q _ w h c1
theorem CP.below {r mp : Nat} {v : Value} {ts : List Mark} {part : Nat → Nat → Res} {p : Nat} {w W : World} (h : CP r mp v ts part p w) (b : Below w.heap.size w W) : CP r mp v ts part p W := fun a ha W' g => h a ha W' (grown_on (grown_below b _) g)
/-- atom. -/
theorem atom_at {r mp : Nat} {v : Value} {ts : List Mark} {part : Nat → Nat → Res} {p : Nat} {w : World} (h : Rdr r mp v ts p w) (E : PEnv r mp w) (hT : TsOk ts) (cp : CP r mp v ts part p w) : Calls Tryd.prog 84 #[.pointer (some ⟨r, 0, none⟩)] w (Post r mp v ts w (atomR ts part p)) := by
  obtain ⟨hk, hs⟩ := hT.at p
  by_cases hx : ∃ k, k < 8 ∧ aKey k = mkV (markAt ts p)
  · obtain ⟨k, h8, ek⟩ := hx
    have hl := fun W (g : w.grownBy W (some r)) => look_at (E.grown g).am (markAt ts p) hk hs h8 ek
    obtain ⟨e1, e2⟩ := aKey_mk ek
    have hp : p < ts.length := markAt_lt h.le (by rw [← e1]; rcases cases8 h8 with rfl | rfl | rfl | rfl | rfl | rfl | rfl | rfl <;> decide)
    have hm : markAt ts p = ⟨(aR k).1, (aR k).2.1⟩ := by rw [e1, e2]
    clear ek e1 e2
    rcases cases8 h8 with rfl | rfl | rfl | rfl | rfl | rfl | rfl | rfl
    · refine atom_first 55 plain55 r mp v ts p w h _ hl fun W b => ?_
      rw [atomR_word (by rw [hm]; rfl) (by rw [hm, isMk_eq]; decide) (by rw [hm, isMk_eq]; decide) (by rw [hm, isMk_eq]; decide) (by rw [hm, isMk_eq]; decide)]
      exact word_c (h.step b) (E.below b) hp
    · refine atom_first 56 plain56 r mp v ts p w h _ hl fun W b => ?_
      have e : atomR ts part p = .ok (⟨2, 1, ByteArray.empty, []⟩, p + 1) := by
        unfold atomR
        simp only
        rw [hm, if_pos (by rw [isMk_eq]; decide)]
      rw [e]
      exact yes_at r mp v ts p W (h.step b) hp
    · refine atom_first 57 plain57 r mp v ts p w h _ hl fun W b => ?_
      have e : atomR ts part p = .ok (⟨2, 0, ByteArray.empty, []⟩, p + 1) := by
        unfold atomR
        simp only
        rw [hm, if_neg (by rw [isMk_eq]; decide), if_pos (by rw [isMk_eq]; decide)]
      rw [e]
      exact no_at r mp v ts p W (h.step b) hp
    · refine atom_first 58 plain58 r mp v ts p w h _ hl fun W b => ?_
      rw [atomR_num (by rw [hm]; rfl)]
      exact num_c (h.step b) (E.below b) hp hT
    · refine atom_first 59 plain59 r mp v ts p w h _ hl fun W b => ?_
      have e : atomR ts part p = (part 0 (p + 1)).go fun x q => passR ts 3 (sgn [41]) q fun q => .ok (x, q) := by
        unfold atomR
        simp only
        rw [hm, if_neg (by rw [isMk_eq]; decide), if_neg (by rw [isMk_eq]; decide), if_pos (by rw [isMk_eq]; decide)]
      rw [e]
      exact brackets_c (h.step b) hp (cp.below b)
    · refine atom_first 60 plain60 r mp v ts p w h _ hl fun W b => ?_
      have e : atomR ts part p = (part 6 (p + 1)).go fun x q => .ok (⟨4, 0, ByteArray.empty, [x]⟩, q) := by
        unfold atomR
        simp only
        rw [hm, if_neg (by rw [isMk_eq]; decide), if_neg (by rw [isMk_eq]; decide), if_neg (by rw [isMk_eq]; decide), if_pos (by rw [isMk_eq]; decide)]
      rw [e]
      exact one_c (h.step b) hp (cp.below b) 60 4 (.inl ⟨rfl, rfl⟩)
    · refine atom_first 62 plain62 r mp v ts p w h _ hl fun W b => ?_
      have e : atomR ts part p = (part 6 (p + 1)).go fun x q => .ok (⟨5, 0, ByteArray.empty, [x]⟩, q) := by
        unfold atomR
        simp only
        rw [hm, if_neg (by rw [isMk_eq]; decide), if_neg (by rw [isMk_eq]; decide), if_neg (by rw [isMk_eq]; decide), if_neg (by rw [isMk_eq]; decide), if_pos (by rw [isMk_eq]; decide)]
      rw [e]
      exact one_c (h.step b) hp (cp.below b) 62 5 (.inr (.inl ⟨rfl, rfl⟩))
    · refine atom_first 63 plain63 r mp v ts p w h _ hl fun W b => ?_
      have e : atomR ts part p = (part 6 (p + 1)).go fun x q => .ok (⟨19, 0, ByteArray.empty, [x]⟩, q) := by
        unfold atomR
        simp only
        rw [hm, if_neg (by rw [isMk_eq]; decide), if_neg (by rw [isMk_eq]; decide), if_neg (by rw [isMk_eq]; decide), if_neg (by rw [isMk_eq]; decide), if_neg (by rw [isMk_eq]; decide), if_pos (by rw [isMk_eq]; decide)]
      rw [e]
      exact one_c (h.step b) hp (cp.below b) 63 19 (.inr (.inr ⟨rfl, rfl⟩))
  · have hn : ∀ k, k < 8 → aKey k ≠ mkV (markAt ts p) := fun k h8 e => hx ⟨k, h8, e⟩
    have hl := fun W (g : w.grownBy W (some r)) => look_no (E.grown g).am (markAt ts p) hk hs hn
    have n1 : isMk (markAt ts p) 1 (sgn [116, 114, 117, 101]) = false := no_mk hn 1 (by omega)
    have n2 : isMk (markAt ts p) 1 (sgn [102, 97, 108, 115, 101]) = false := no_mk hn 2 (by omega)
    have n4 : isMk (markAt ts p) 3 (sgn [40]) = false := no_mk hn 4 (by omega)
    have n5 : isMk (markAt ts p) 3 (sgn [45]) = false := no_mk hn 5 (by omega)
    have n6 : isMk (markAt ts p) 1 (sgn [110, 111, 116]) = false := no_mk hn 6 (by omega)
    have n7 : isMk (markAt ts p) 1 (sgn [112, 114, 101]) = false := no_mk hn 7 (by omega)
    by_cases k1 : (markAt ts p).kind = 1
    · have hp : p < ts.length := markAt_lt h.le (by omega)
      refine atom_second 55 plain55 r mp v ts p w h _ hl (fun W g => look_at (E.grown g).am ⟨(markAt ts p).kind, ⟨#[]⟩⟩ hk (by show (⟨#[]⟩ : ByteArray).size ≤ 1048576; decide) (k := 0) (by omega) (by rw [k1]; rfl)) fun W b => ?_
      rw [atomR_word k1 n1 n2 n6 n7]
      exact word_c (h.step b) (E.below b) hp
    · by_cases k2 : (markAt ts p).kind = 2
      · have hp : p < ts.length := markAt_lt h.le (by omega)
        refine atom_second 58 plain58 r mp v ts p w h _ hl (fun W g => look_at (E.grown g).am ⟨(markAt ts p).kind, ⟨#[]⟩⟩ hk (by show (⟨#[]⟩ : ByteArray).size ≤ 1048576; decide) (k := 3) (by omega) (by rw [k2]; rfl)) fun W b => ?_
        rw [atomR_num k2]
        exact num_c (h.step b) (E.below b) hp hT
      · have e : atomR ts part p = .error (5, p) := by
          unfold atomR
          simp only
          rw [n1, n2, n4, n5, n6, n7]
          simp [k1, k2]
        rw [e]
        refine atom_none r mp v ts p w h hl fun W g => look_no (E.grown g).am ⟨(markAt ts p).kind, ⟨#[]⟩⟩ hk (by show (⟨#[]⟩ : ByteArray).size ≤ 1048576; decide) fun k h8 ek => ?_
        obtain ⟨e1, e2⟩ := aKey_mk ek
        simp only at e1 e2
        have e3 := congrArg (fun s => s.data.toList) e2
        rcases cases8 h8 with rfl | rfl | rfl | rfl | rfl | rfl | rfl | rfl <;> first | exact absurd e3 (by decide) | exact k1 e1.symm | exact k2 e1.symm
end Go.Proofs.YtkieljleopbhoaaDoor.Lex
namespace Go.Proofs.YtkieljleopbhoaaDoor.Lex
open Go.ChangeShapes Go.WideShapes Go.ChangeAt Go.RowKit Go.Joins
theorem fill2 (x y : Ex) (a b : Option Addr) (l m i j : Nat) : Instr.fill (fun i => some (i * 4, 4)) ((Array.range (2 * 4)).map (z25.cells[· % z25.cells.size]!)) [(0, exV x (.slice a l i)), (1, exV y (.slice b m j))] = some (ex4 x (.slice a l i) ++ ex4 y (.slice b m j)) := by
  have e : ((Array.range (2 * 4)).map (z25.cells[· % z25.cells.size]!)) = #[.int .u8 0, .int .i64 0, .string ⟨#[]⟩, .slice none 0 0, .int .u8 0, .int .i64 0, .string ⟨#[]⟩, .slice none 0 0] := by kernel_rfl
  rw [e]
  simp only [Instr.fill, show (exV x (.slice a l i)).cells = ex4 x (.slice a l i) from rfl, show (exV y (.slice b m j)).cells = ex4 y (.slice b m j) from rfl, ex4, fold4]
  simp
theorem StP.two {ok : Nat → Prop} {W : World} {x y : Ex} {s t : Value} (op : Nat) (hop : op < 256) (g : Nat) (hg : ok g) (hx : StP ok W x s) (hy : StP ok W y t) (hc : W.heap[g]? = some (.cells (ex4 x s ++ ex4 y t) 25 (0, 0))) : StP ok W ⟨op, 0, ByteArray.empty, [x, y]⟩ (.slice (some ⟨g, 0, none⟩) 2 2) := by
  refine StP.intro ⟨op, 0, ByteArray.empty, [x, y]⟩ (some ⟨g, 0, none⟩) 2 (fun i => [s, t].getD i s) hop (by simp) (by show ByteArray.empty.size ≤ _; decide) (by simp) (by simp) (.inr ⟨g, 0, rfl, hg, fun i hi => ?_⟩) (fun i hi => ?_)
  · have hi2 : i < 2 := hi
    rcases (by omega : i = 0 ∨ i = 1) with rfl | rfl <;> refine ⟨?_, ?_, ?_, ?_⟩ <;> (rw [cell_of_row _ _ _ _ 25 (0, 0) hc]; rfl)
  · have hi2 : i < 2 := hi
    rcases (by omega : i = 0 ∨ i = 1) with rfl | rfl
    · exact hx
    · exact hy
theorem Rdr.setRowAt {r mp : Nat} {v : Value} {ts : List Mark} {p q : Nat} {w W : World} (h : Rdr r mp v ts p w) (h2 : Rdr r mp v ts q W) {b : Nat} (hb : w.heap.size ≤ b) (d : Array Value) : Rdr r mp v ts q (W.setRow b d) := by
  have hlt := h.lt
  refine ⟨(setRow_other _ _ _ _ (by omega)).trans h2.cell, ?_, h2.le, h2.few, h2.far, h2.own⟩
  obtain ⟨a, cap, rfl, hc⟩ := h.toks
  rcases hc with h0 | ⟨g, o, hg, hcc⟩
  · obtain ⟨a2, cap2, e2, _⟩ := h2.toks
    exact ⟨a2, cap2, e2, .inl h0⟩
  · by_cases h0 : ts.length = 0
    · obtain ⟨a2, cap2, e2, _⟩ := h2.toks
      exact ⟨a2, cap2, e2, .inl h0⟩
    · refine h2.toks.carry fun a' n c' ev hl => setRow_other _ _ _ _ ?_
      intro he
      injection ev with e1 e2 e3
      rw [hg] at e1
      injection e1 with e1
      have hlt2 : g < w.heap.size := World.block_lt_of_cell? w ⟨g, o + 0 * 3, none⟩ (hcc 0 (by omega)).1
      rw [← e1] at he
      simp only at he
      omega
theorem grown_setRowAt {w W : World} {r : Option Nat} (g : w.grownBy W r) {b : Nat} (hb : w.heap.size ≤ b) (d : Array Value) : w.grownBy (W.setRow b d) r :=
  ⟨g.os, g.tape, g.output, by have := g.size; simpa [World.setRow] using this, fun k hk hkr => (setRow_other _ _ _ _ (by omega)).trans (g.block k hk hkr)⟩
/-- The place that a reader is at. -/
def atR (w : World) (r : Nat) : Int := match w.cell? ⟨r, 1, none⟩ with
  | some (.int _ n) => n
  | _ => 0
theorem atR_of {r mp : Nat} {v : Value} {ts : List Mark} {p : Nat} {w : World} (h : Rdr r mp v ts p w) : (atR w r).toNat = p := by
  unfold atR
  rw [h.at1.1]
  simp
/-- What was read, in a row of its own behind a place, its parts elsewhere. -/
structure Keep2 (N : Nat) (W : World) (b : Nat) (x : Ex) (s : Value) : Prop where
  row : W.heap[b]? = some (.cells (ex4 x s) 25 (0, 0))
  st : StP (fun k => N < k ∧ k ≠ b) W x s
  lt : N < b
theorem Keep2.grown {N : Nat} {W W' : World} {b : Nat} {x : Ex} {s : Value} {r : Nat} (h : Keep2 N W b x s) (g : W.grownBy W' (some r)) (hr : r < N) : Keep2 N W' b x s :=
  ⟨kept h.row g (by have := h.lt; omega), h.st.carry fun k hk hl => g.block k hl (fun e => by injection e; have := hk.1; omega), h.lt⟩
theorem Keep2.new {N : Nat} {W0 w2 : World} {x : Ex} {s : Value} (h : StP (fun b => W0.heap.size ≤ b) w2 x s) (hN : N < W0.heap.size) (hl : W0.heap.size ≤ w2.heap.size) : Keep2 N (w2.alloc (.cells (ex4 x s) 25)) w2.heap.size x s :=
  ⟨heap_alloc_new w2 _, StP.carryN (fun k _ hk => Below.heap_alloc _ _ _ hk) (fun k hk hb => ⟨by have : W0.heap.size ≤ k := hb; omega, Nat.ne_of_lt hk⟩) _ x s (Nat.le_refl _) h, by omega⟩
end Go.Proofs.YtkieljleopbhoaaDoor.Lex
namespace Go.Proofs.YtkieljleopbhoaaDoor.Lex
open Go.ChangeShapes Go.WideShapes Go.ChangeAt Go.RowKit Go.Joins Go.WideMaps Go.WideElems Go.Maps
abbrev c25 : Array Value := #[.int .u8 0, .int .i64 0, .string ⟨#[]⟩, .slice none 0 0]
/-- Where part goes on: what has been read, its rank, and the place. -/
structure PJ (r mp : Nat) (v : Value) (ts : List Mark) (a p : Nat) (w : World) (x : Ex) (s : Value) (rk q b5 : Nat) (W : World) : Prop where
  grown : w.grownBy W (some r)
  rdr : Rdr r mp v ts q W
  box : W.heap[w.heap.size]? = some (.cells c25 25 (0, 0))
  keep : Keep2 w.heap.size W b5 x s
  res : Lp ts a x rk q = P ts a p
  lt : p < q
  rk7 : rk ≤ 7
/-- The whole frame there. -/
def PF (r a B b5 rk : Nat) (act : Act) : Prop := ∃ (u7 u8 u9 u10 u11 u12 u13 u14 u15 u16 u17 u18 u19 u20 u21 u22 u23 u24 u25 u26 u27 u28 u29 u30 u31 u32 u33 u34 u35 u36 u37 u38 u39 u40 u41 u42 u43 u44 u45 u46 u47 u48 u49 u50 u51 u52 u53 u54 u55 u56 u57 u58 u59 : Value), act = { tmps := #[.pointer (some ⟨r, 0, none⟩), .int .i64 (a : Int), undef, undef, .pointer (some ⟨B, 0, none⟩), .pointer (some ⟨b5, 0, none⟩), .int .i64 (rk : Int), u7, u8, u9, u10, u11, u12, u13, u14, u15, u16, u17, u18, u19, u20, u21, u22, u23, u24, u25, u26, u27, u28, u29, u30, u31, u32, u33, u34, u35, u36, u37, u38, u39, u40, u41, u42, u43, u44, u45, u46, u47, u48, u49, u50, u51, u52, u53, u54, u55, u56, u57, u58, u59], defers := [] }
def PA (r mp : Nat) (v : Value) (ts : List Mark) (a p : Nat) (w : World) (act : Act) (W : World) : Prop := ∃ x s rk q b5, PF r a w.heap.size b5 rk act ∧ PJ r mp v ts a p w x s rk q b5 W
theorem e105 : (sgn [105, 102]).toList = [105, 102] := by rw [ByteArray.toList_eq]
theorem prsP_far (ts : List Mark) : ∀ a q x q', P ts a q = .ok (x, q') → q < q' := fun a q x q' h => (prs_far ts _).1 a q x q' h
theorem skip_seq {c : Code} {Q : Exit → Act → World → Prop} {a : Act} {w : World} (h : Code.wp Tryd.prog c Q a w) : Code.wp Tryd.prog (Code.skip.seq c) Q a w := wp_seq (wp_skip h)
set_option maxRecDepth 100000 in
set_option maxHeartbeats 4000000 in
theorem part_at (r mp : Nat) (v : Value) (ts : List Mark) (a p : Nat) (ha : a ≤ 7) (w : World) (h : Rdr r mp v ts p w) (E : PEnv r mp w) (hT : TsOk ts) (hif : ¬ (a = 0 ∧ isMk (markAt ts p) 1 (sgn [105, 102]) = true))
    (ih : ∀ (q b : Nat) W, p < q → b ≤ 7 → w.grownBy W (some r) → Rdr r mp v ts q W → Calls Tryd.prog 65 #[.pointer (some ⟨r, 0, none⟩), .int .i64 (b : Int)] W (Post r mp v ts W (P ts b q))) :
    Calls Tryd.prog 65 #[.pointer (some ⟨r, 0, none⟩), .int .i64 (a : Int)] w (Post r mp v ts w (P ts a p)) := by
  go_enter Tryd.func65, Tryd.ntmps65
  go_wp2
  refine (fun (pass : ∀ act W, PA r mp v ts a p w act W → Code.wp Tryd.prog _ (Exit.jump 0 (fun a' w' => PA r mp v ts a p w a' w' ∧ ts.length - (atR w' r).toNat < ts.length - (atR W r).toNat) _) act W) => wp_scope_jumps 0 (PA r mp v ts a p w) (fun _ W => ts.length - (atR W r).toNat) rfl ?_ (fun act W hJ => skip_seq (pass act W hJ))) ?_
  · have PASS := hid pass
    clear pass
    have b0 := (Below.refl w.heap.size w).alloc (Nat.le_refl _) (.cells c25 25)
    have c0 := peek r mp v ts p _ (h.step b0)
    have ca : ∀ W, Below w.heap.size w W → Calls Tryd.prog 84 #[.pointer (some ⟨r, 0, none⟩)] W (Post r mp v ts W (atomR ts (P ts) p)) := fun W hW => atom_at (h.step hW) (E.below hW) hT (fun b hb W' g hr => ih (p + 1) b W' (by omega) (by omega) (grown_on (grown_below hW _) g) hr)
    have HP := hid (P_atom hif)
    have FAR := hid (fun x q => atomR_far (ts := ts) (part := P ts) (prsP_far ts) (p := p) (q := q) (x := x))
    have B0 := hid b0
    have H := hid h
    have X0 := hid (heap_alloc_new w (.cells c25 25))
    clear b0 ih E hT h
    generalize hR : atomR ts (P ts) p = R at *
    by_cases a0 : a = 0
    · have hm : isMk (markAt ts p) 1 (sgn [105, 102]) = false := by
        cases e : isMk (markAt ts p) 1 (sgn [105, 102]) with
        | false => rfl
        | true => exact (hif ⟨a0, e⟩).elim
      subst a0
      clear hif ha
      generalize markAt ts p = m at *
      cases R with
      | error nq =>
        obtain ⟨n, q⟩ := nq
        rcases isMk_no hm with h1 | ⟨h1, h2⟩ <;> clear hm
        · go_wp2_with (first
            | (go_at_call 80; refine c0.mono ?_; rintro e w2 ⟨rfl, b2⟩; have B2' := hid b2; have B2 := hid (bstep B0.out b2); clear b2 c0)
            | (go_at_call 84; refine (ca _ B2.out).mono ?_; rintro e w3 ⟨g3, rfl, h3⟩; have G3 := hid (grown_on (grown_below B2.out _) g3); have H3 := hid h3; clear g3 h3 ca))
          exact ⟨rfl, by rw [HP.out]; exact ⟨G3.out, rfl, H3.out⟩⟩
        · rw [e105] at h2
          go_wp2_with (first
            | (go_at_call 80; refine c0.mono ?_; rintro e w2 ⟨rfl, b2⟩; have B2' := hid b2; have B2 := hid (bstep B0.out b2); clear b2 c0)
            | (go_at_call 84; refine (ca _ B2.out).mono ?_; rintro e w3 ⟨g3, rfl, h3⟩; have G3 := hid (grown_on (grown_below B2.out _) g3); have H3 := hid h3; clear g3 h3 ca))
          exact ⟨rfl, by rw [HP.out]; exact ⟨G3.out, rfl, H3.out⟩⟩
      | ok xq =>
        obtain ⟨x, q⟩ := xq
        rcases isMk_no hm with h1 | ⟨h1, h2⟩ <;> clear hm
        · go_wp2_with (first
            | (go_at_call 80; refine c0.mono ?_; rintro e w2 ⟨rfl, b2⟩; have B2' := hid b2; have B2 := hid (bstep B0.out b2); clear b2 c0)
            | (go_at_call 84; refine (ca _ B2.out).mono ?_; rintro e w3 ⟨g3, s, rfl, st, h3⟩; obtain ⟨ao, cap, rfl⟩ := st.form; have Z3 := hid (B2.out.size); have SZ := hid (show w.heap.size < w2.heap.size from by have := B2'.out.size; simp at this; omega); have ST := hid (Keep2.new st SZ.out g3.size); have b4 := (Below.refl w3.heap.size w3).alloc (Nat.le_refl _) (.cells (ex4 x (.slice ao x.args.length cap)) 25); have G3 := hid (grown_on (grown_on (grown_below B2.out _) g3) (grown_below b4 _)); have X3 := hid (kept (kept ((B2'.out.block _ (by simp)).trans X0.out) g3 H.out.lt) (grown_below b4 (some r)) H.out.lt); have H3 := hid (h3.step b4); clear g3 h3 ca st b4))
          go_step3
          rename_i K hK
          refine hK _ _ ?_
          clear hK K
          refine Code.wp_mono (fun e _ _ h => ?_) (PASS.out _ _ ⟨x, _, 7, q, w3.heap.size, ⟨_, _, _, _, _, _, _, _, _, _, _, _, _, _, _, _, _, _, _, _, _, _, _, _, _, _, _, _, _, _, _, _, _, _, _, _, _, _, _, _, _, _, _, _, _, _, _, _, _, _, _, _, _, rfl⟩, ⟨G3.out, H3.out, X3.out, ST.out, HP.out.symm, FAR.out x q rfl, by omega⟩⟩)
          · cases e <;> first | exact h | exact ⟨h.1, h.2.1⟩
        · rw [e105] at h2
          go_wp2_with (first
            | (go_at_call 80; refine c0.mono ?_; rintro e w2 ⟨rfl, b2⟩; have B2' := hid b2; have B2 := hid (bstep B0.out b2); clear b2 c0)
            | (go_at_call 84; refine (ca _ B2.out).mono ?_; rintro e w3 ⟨g3, s, rfl, st, h3⟩; obtain ⟨ao, cap, rfl⟩ := st.form; have Z3 := hid (B2.out.size); have SZ := hid (show w.heap.size < w2.heap.size from by have := B2'.out.size; simp at this; omega); have ST := hid (Keep2.new st SZ.out g3.size); have b4 := (Below.refl w3.heap.size w3).alloc (Nat.le_refl _) (.cells (ex4 x (.slice ao x.args.length cap)) 25); have G3 := hid (grown_on (grown_on (grown_below B2.out _) g3) (grown_below b4 _)); have X3 := hid (kept (kept ((B2'.out.block _ (by simp)).trans X0.out) g3 H.out.lt) (grown_below b4 (some r)) H.out.lt); have H3 := hid (h3.step b4); clear g3 h3 ca st b4))
          go_step3
          rename_i K hK
          refine hK _ _ ?_
          clear hK K
          refine Code.wp_mono (fun e _ _ h => ?_) (PASS.out _ _ ⟨x, _, 7, q, w3.heap.size, ⟨_, _, _, _, _, _, _, _, _, _, _, _, _, _, _, _, _, _, _, _, _, _, _, _, _, _, _, _, _, _, _, _, _, _, _, _, _, _, _, _, _, _, _, _, _, _, _, _, _, _, _, _, _, rfl⟩, ⟨G3.out, H3.out, X3.out, ST.out, HP.out.symm, FAR.out x q rfl, by omega⟩⟩)
          · cases e <;> first | exact h | exact ⟨h.1, h.2.1⟩
    · have ha0 : ((a : Int) == 0) = false := by simp; omega
      clear hif c0
      cases R with
      | error nq =>
        obtain ⟨n, q⟩ := nq
        go_wp2_with (first
          | (go_at_call 84; refine (ca _ B0.out).mono ?_; rintro e w3 ⟨g3, rfl, h3⟩; have G3 := hid (grown_on (grown_below B0.out _) g3); have H3 := hid h3; clear g3 h3 ca))
        exact ⟨rfl, by rw [HP.out]; exact ⟨G3.out, rfl, H3.out⟩⟩
      | ok xq =>
        obtain ⟨x, q⟩ := xq
        go_wp2_with (first
          | (go_at_call 84; refine (ca _ B0.out).mono ?_; rintro e w3 ⟨g3, s, rfl, st, h3⟩; obtain ⟨ao, cap, rfl⟩ := st.form; have Z3 := hid (B0.out.size); have SZ := hid (show w.heap.size < (w.alloc (.cells c25 25)).heap.size from by simp); have ST := hid (Keep2.new st SZ.out g3.size); have b4 := (Below.refl w3.heap.size w3).alloc (Nat.le_refl _) (.cells (ex4 x (.slice ao x.args.length cap)) 25); have G3 := hid (grown_on (grown_on (grown_below B0.out _) g3) (grown_below b4 _)); have X3 := hid (kept (kept X0.out g3 H.out.lt) (grown_below b4 (some r)) H.out.lt); have H3 := hid (h3.step b4); clear g3 h3 ca st b4))
        go_step3
        rename_i K hK
        refine hK _ _ ?_
        clear hK K
        refine Code.wp_mono (fun e _ _ h => ?_) (PASS.out _ _ ⟨x, _, 7, q, w3.heap.size, ⟨_, _, _, _, _, _, _, _, _, _, _, _, _, _, _, _, _, _, _, _, _, _, _, _, _, _, _, _, _, _, _, _, _, _, _, _, _, _, _, _, _, _, _, _, _, _, _, _, _, _, _, _, _, rfl⟩, ⟨G3.out, H3.out, X3.out, ST.out, HP.out.symm, FAR.out x q rfl, by omega⟩⟩)
        · cases e <;> first | exact h | exact ⟨h.1, h.2.1⟩
  · rintro act W ⟨x, s, rk, q, b5, ⟨u7, u8, u9, u10, u11, u12, u13, u14, u15, u16, u17, u18, u19, u20, u21, u22, u23, u24, u25, u26, u27, u28, u29, u30, u31, u32, u33, u34, u35, u36, u37, u38, u39, u40, u41, u42, u43, u44, u45, u46, u47, u48, u49, u50, u51, u52, u53, u54, u55, u56, u57, u58, u59, rfl⟩, J⟩
    obtain ⟨ao, cap, rfl⟩ := J.keep.st.form
    have cpk := peek r mp v ts q W J.rdr
    have cj := fun W' (hW : Below W.heap.size W W') => joinAt (markAt ts q) W' ((E.grown J.grown).tabJ.below hW)
    have GR := hid J.grown
    have RD := hid J.rdr
    have KP := hid J.keep
    have XB := hid J.box
    have LT := hid J.lt
    have R7 := hid J.rk7
    have H := hid h
    have E0 := hid E
    cases hj : jAt (markAt ts q) with
    | none =>
      have RES : Hid (P ts a p = .ok (x, q)) := by rw [← J.res, Lp_none hj]; exact hid rfl
      have ej : jAtOut (markAt ts q) = jrow j0 := by unfold jAtOut; rw [hj]; rfl
      simp only [ej, hj, Option.isSome_none] at cj
      clear J h E hj ej ih hT hif
      generalize markAt ts q = m at *
      generalize j0 = j at *
      unfold jrow at cj
      go_wp2_with (first
        | (go_at_call 80; refine cpk.mono ?_; rintro e w2 ⟨rfl, b2⟩; have B2 := hid b2; clear b2 cpk)
        | (go_at_call 85; refine (cj _ B2.out).mono ?_; rintro e w3 ⟨rfl, b3⟩; have b4 := bstep (bstep B2.out b3) ((Below.refl w3.heap.size w3).alloc (Nat.le_refl _) (.cells (jrow j) 83)); have B4 := hid b4; have X5 := (b4.block _ (Array.getElem?_eq_some_iff.1 KP.out.row).1).trans KP.out.row; have X4 := (b4.block _ (Array.getElem?_eq_some_iff.1 XB.out).1).trans XB.out; clear b3 b4 cj)
        | (refine wpList_load_row rfl 25 _ rfl b5 rfl 25 (ex4 x (.slice ao x.args.length cap)) (0, 0) _ X5 Tryd.underlying25 rfl info25 ?_)
        | (refine wpList_store_row rfl 25 _ _ rfl w.heap.size (ex4 x (.slice ao x.args.length cap)) rfl rfl 25 _ X4 info25 rfl (by simp [Value.oneCell', ex4]) ?_))
      refine bodyPost_ret (results_cell_row rfl _ _ w.heap.size 25 (ex4 x (.slice ao x.args.length cap)) (0, 0) _ rfl (setRow_heap _ _ _ _ _ _ X4) Tryd.underlying25 rfl info25) rfl ?_
      rw [RES.out]
      refine ⟨grown_setRow (grown_on GR.out (grown_below B4.out _)) _, _, rfl, ?_, H.out.setRow (RD.out.step B4.out) _⟩
      exact StP.carryN (fun b hb hl => (setRow_other _ _ _ _ (by have : w.heap.size < b := hb.1; omega)).trans (B4.out.block b hl)) (fun b _ hb => Nat.le_of_lt hb.1) _ x _ (Nat.le_refl _) KP.out.st
    | some j =>
      have ej : jAtOut (markAt ts q) = jrow j := by unfold jAtOut; rw [hj]; rfl
      simp only [ej] at cj
      rw [hj] at cj
      simp only [Option.isSome_some] at cj
      by_cases c1 : j.rank < a
      · have RES : Hid (P ts a p = .ok (x, q)) := by rw [← J.res, Lp_stop hj (.inl c1)]; exact hid rfl
        have hc1 : (j.rank : Int) < (a : Int) := by omega
        clear J h E hj ej ih hT hif
        generalize markAt ts q = m at *
        unfold jrow at cj
        go_wp2_with (first
          | (go_at_call 80; refine cpk.mono ?_; rintro e w2 ⟨rfl, b2⟩; have B2 := hid b2; clear b2 cpk)
          | (go_at_call 85; refine (cj _ B2.out).mono ?_; rintro e w3 ⟨rfl, b3⟩; have b4 := bstep (bstep B2.out b3) ((Below.refl w3.heap.size w3).alloc (Nat.le_refl _) (.cells (jrow j) 83)); have B4 := hid b4; have X5 := (b4.block _ (Array.getElem?_eq_some_iff.1 KP.out.row).1).trans KP.out.row; have X4 := (b4.block _ (Array.getElem?_eq_some_iff.1 XB.out).1).trans XB.out; clear b3 b4 cj)
          | (refine wpList_load_row rfl 25 _ rfl b5 rfl 25 (ex4 x (.slice ao x.args.length cap)) (0, 0) _ X5 Tryd.underlying25 rfl info25 ?_)
          | (refine wpList_store_row rfl 25 _ _ rfl w.heap.size (ex4 x (.slice ao x.args.length cap)) rfl rfl 25 _ X4 info25 rfl (by simp [Value.oneCell', ex4]) ?_))
        refine bodyPost_ret (results_cell_row rfl _ _ w.heap.size 25 (ex4 x (.slice ao x.args.length cap)) (0, 0) _ rfl (setRow_heap _ _ _ _ _ _ X4) Tryd.underlying25 rfl info25) rfl ?_
        rw [RES.out]
        refine ⟨grown_setRow (grown_on GR.out (grown_below B4.out _)) _, _, rfl, ?_, H.out.setRow (RD.out.step B4.out) _⟩
        exact StP.carryN (fun b hb hl => (setRow_other _ _ _ _ (by have : w.heap.size < b := hb.1; omega)).trans (B4.out.block b hl)) (fun b _ hb => Nat.le_of_lt hb.1) _ x _ (Nat.le_refl _) KP.out.st
      · by_cases c2 : rk < j.first
        · have RES : Hid (P ts a p = .ok (x, q)) := by rw [← J.res, Lp_stop hj (.inr c2)]; exact hid rfl
          have hc1 : ¬ (j.rank : Int) < (a : Int) := by omega
          have hc2 : (rk : Int) < (j.first : Int) := by omega
          clear J h E hj ej ih hT hif
          generalize markAt ts q = m at *
          unfold jrow at cj
          go_wp2_with (first
            | (go_at_call 80; refine cpk.mono ?_; rintro e w2 ⟨rfl, b2⟩; have B2 := hid b2; clear b2 cpk)
            | (go_at_call 85; refine (cj _ B2.out).mono ?_; rintro e w3 ⟨rfl, b3⟩; have b4 := bstep (bstep B2.out b3) ((Below.refl w3.heap.size w3).alloc (Nat.le_refl _) (.cells (jrow j) 83)); have B4 := hid b4; have X5 := (b4.block _ (Array.getElem?_eq_some_iff.1 KP.out.row).1).trans KP.out.row; have X4 := (b4.block _ (Array.getElem?_eq_some_iff.1 XB.out).1).trans XB.out; clear b3 b4 cj)
            | (refine wpList_load_row rfl 25 _ rfl b5 rfl 25 (ex4 x (.slice ao x.args.length cap)) (0, 0) _ X5 Tryd.underlying25 rfl info25 ?_)
            | (refine wpList_store_row rfl 25 _ _ rfl w.heap.size (ex4 x (.slice ao x.args.length cap)) rfl rfl 25 _ X4 info25 rfl (by simp [Value.oneCell', ex4]) ?_))
          refine bodyPost_ret (results_cell_row rfl _ _ w.heap.size 25 (ex4 x (.slice ao x.args.length cap)) (0, 0) _ rfl (setRow_heap _ _ _ _ _ _ X4) Tryd.underlying25 rfl info25) rfl ?_
          rw [RES.out]
          refine ⟨grown_setRow (grown_on GR.out (grown_below B4.out _)) _, _, rfl, ?_, H.out.setRow (RD.out.step B4.out) _⟩
          exact StP.carryN (fun b hb hl => (setRow_other _ _ _ _ (by have : w.heap.size < b := hb.1; omega)).trans (B4.out.block b hl)) (fun b _ hb => Nat.le_of_lt hb.1) _ x _ (Nat.le_refl _) KP.out.st
        · have hq := jAt_lt hj
          have hlaw := JT_laws j (jAt_mem hj)
          have hc1 : decide (j.rank < a) = false := by simp; omega
          have hc2 : decide (rk < j.first) = false := by simp; omega
          have RES0 := hid (J.res.symm.trans (Lp_go (x := x) hj (Nat.le_of_not_lt c1) (Nat.le_of_not_lt c2)))
          have cq := fun V (g : w.grownBy V (some r)) (hr : Rdr r mp v ts (q + 1) V) => ih (q + 1) j.second V (by have := J.lt; omega) (by omega) g hr
          have MV := hid (fun V (b : Below W.heap.size W V) => moved (J.rdr.step b) hq)
          have HQ := hid hq
          have JL := hid hlaw
          have hfew : (q : Int) < 140737488355328 := by have := J.rdr.few; omega
          clear J h E hj ej ih hT hif hq hlaw c1 c2
          generalize markAt ts q = m at *
          unfold jrow at cj
          go_wp2_with (first
            | (go_at_call 80; refine cpk.mono ?_; rintro e w2 ⟨rfl, b2⟩; have B2 := hid b2; clear b2 cpk)
            | (go_at_call 85; refine (cj _ B2.out).mono ?_; rintro e w3 ⟨rfl, b3⟩; have b4 := bstep (bstep B2.out b3) ((Below.refl w3.heap.size w3).alloc (Nat.le_refl _) (.cells #[.int .u8 (j.op : Int), .int .u8 (j.kind : Int), .string j.text, .int .i64 (j.rank : Int), .int .i64 (j.first : Int), .int .i64 (j.second : Int)] 83)); have S3 := hid ((bstep B2.out b3).size); obtain ⟨y0, y1, hg, hr⟩ := MV.out _ b4; have G5 := hid (grown_on GR.out (grown_on (grown_below b4 _) hg)); have G45 := hid (grown_on (grown_below b4 _) hg); have R5 := hid hr; have X7 := hid (kept (heap_alloc_new w3 (.cells #[.int .u8 (j.op : Int), .int .u8 (j.kind : Int), .string j.text, .int .i64 (j.rank : Int), .int .i64 (j.first : Int), .int .i64 (j.second : Int)] 83)) hg (Nat.lt_of_lt_of_le H.out.lt (Nat.le_trans GR.out.size (bstep B2.out b3).size))); clear b3 b4 cj hg hr MV))
          rename_i K8 hK8
          have D5 := below_drewN (Below.refl ((w3.alloc (.cells #[.int .u8 (j.op : Int), .int .u8 (j.kind : Int), .string j.text, .int .i64 (j.rank : Int), .int .i64 (j.first : Int), .int .i64 (j.second : Int)] 83)).setCell ⟨r, 1, none⟩ (.int .i64 ((q : Int) + 1))).heap.size ((w3.alloc (.cells #[.int .u8 (j.op : Int), .int .u8 (j.kind : Int), .string j.text, .int .i64 (j.rank : Int), .int .i64 (j.first : Int), .int .i64 (j.second : Int)] 83)).setCell ⟨r, 1, none⟩ (.int .i64 ((q : Int) + 1)))) 1
          have K5 := hid ((KP.out.grown G45.out H.out.lt).grown (grown_below D5 (some r)) H.out.lt)
          have X4 := hid (kept (kept XB.out G45.out H.out.lt) (grown_below D5 (some r)) H.out.lt)
          have N7 := hid (show r < w3.heap.size from Nat.lt_of_lt_of_le H.out.lt (Nat.le_trans GR.out.size S3.out))
          have X7 := hid (kept X7.out (grown_below D5 (some r)) N7.out)
          have G5 := hid (grown_on G5.out (grown_below D5 (some r)))
          have R5 := hid (R5.out.step D5)
          have N5 := hid (show w.heap.size < (((w3.alloc (.cells #[.int .u8 (j.op : Int), .int .u8 (j.kind : Int), .string j.text, .int .i64 (j.rank : Int), .int .i64 (j.first : Int), .int .i64 (j.second : Int)] 83)).setCell ⟨r, 1, none⟩ (.int .i64 ((q : Int) + 1))).drewN 1).heap.size from Nat.lt_of_le_of_lt (Nat.le_trans GR.out.size S3.out) (show w3.heap.size < ((w3.alloc (.cells #[.int .u8 (j.op : Int), .int .u8 (j.kind : Int), .string j.text, .int .i64 (j.rank : Int), .int .i64 (j.first : Int), .int .i64 (j.second : Int)] 83)).setCell ⟨r, 1, none⟩ (.int .i64 ((q : Int) + 1))).heap.size by simp [World.setCell]))
          have N55 := hid ((Array.getElem?_eq_some_iff.1 K5.out.row).1)
          have N75 := hid (show b5 < w3.heap.size from Nat.lt_of_lt_of_le (Array.getElem?_eq_some_iff.1 KP.out.row).1 S3.out)
          clear y0 y1 D5 G45
          cases hP : P ts j.second (q + 1) with
          | error nq =>
            obtain ⟨n, q2⟩ := nq
            have RES := hid (RES0.out.trans (by rw [hP, Res.go_error]))
            simp only [hP] at cq
            clear hP
            refine wp_region_held_drew (S := fun V => V.cell? ⟨w3.heap.size, 0, none⟩ = some (.int .u8 (j.op : Int)) ∧ V.cell? ⟨w3.heap.size, 3, none⟩ = some (.int .i64 (j.rank : Int)) ∧ V.cell? ⟨w3.heap.size, 5, none⟩ = some (.int .i64 (j.second : Int))) (by kernel_rfl) ?_ (fun hHeld => ?_)
            · exact ⟨(cell_of_row _ _ _ _ 83 (0, 0) X7.out).trans rfl, (cell_of_row _ _ _ _ 83 (0, 0) X7.out).trans rfl, (cell_of_row _ _ _ _ 83 (0, 0) X7.out).trans rfl⟩
            refine wpAnyH_take (i := 0) (oi := { dst := some 49, op := Go.Op.fieldAddr 83 (Go.Operand.tmp 7) 0, type := 0, pos := _, after := #[], guard := none }) (v := ?_) rfl (by kernel_rfl) (by kernel_rfl) (by kernel_rfl) (fun _ _ _ h => h) (Or.inl ⟨by rfl, ?_⟩) (by assumption) ?_
            rotate_left
            · intro w hSw; (try dsimp only at hSw); go_simp <;> with_reducible rfl
            simp only [Act.put, List.setIfInBounds_toArray, List.set_cons_zero, List.set_cons_succ]
            refine wpAnyH_take (i := 1) (oi := { dst := some 50, op := Go.Op.load 22 (Go.Operand.tmp 49), type := 22, pos := _, after := #[{ on := 0, ground := Go.Ground.data }], guard := none }) (v := ?_) rfl (by kernel_rfl) (by kernel_rfl) (by kernel_rfl) (fun _ _ _ h => h) (Or.inl ⟨by rfl, ?_⟩) (by assumption) ?_
            rotate_left
            · intro w hSw; (try dsimp only at hSw); go_simp <;> with_reducible rfl
            simp only [Act.put, List.setIfInBounds_toArray, List.set_cons_zero, List.set_cons_succ]
            refine wpAnyH_take (i := 3) (oi := { dst := some 52, op := Go.Op.move (Go.Operand.tmp 0), type := 67, pos := _, after := #[], guard := none }) (v := ?_) rfl (by kernel_rfl) (by kernel_rfl) (by kernel_rfl) (fun _ _ _ h => h) (Or.inl ⟨by rfl, ?_⟩) (by assumption) ?_
            rotate_left
            · intro w hSw; (try dsimp only at hSw); go_simp <;> with_reducible rfl
            simp only [Act.put, List.setIfInBounds_toArray, List.set_cons_zero, List.set_cons_succ]
            refine wpAnyH_take (i := 4) (oi := { dst := some 53, op := Go.Op.fieldAddr 83 (Go.Operand.tmp 7) 4, type := 0, pos := _, after := #[], guard := none }) (v := ?_) rfl (by kernel_rfl) (by kernel_rfl) (by kernel_rfl) (fun _ _ _ h => h) (Or.inl ⟨by rfl, ?_⟩) (by assumption) ?_
            rotate_left
            · intro w hSw; (try dsimp only at hSw); go_simp <;> with_reducible rfl
            simp only [Act.put, List.setIfInBounds_toArray, List.set_cons_zero, List.set_cons_succ]
            refine wpAnyH_take (i := 5) (oi := { dst := some 54, op := Go.Op.load 3 (Go.Operand.tmp 53), type := 3, pos := _, after := #[{ on := 4, ground := Go.Ground.data }], guard := none }) (v := ?_) rfl (by kernel_rfl) (by kernel_rfl) (by kernel_rfl) (fun _ _ _ h => h) (Or.inl ⟨by rfl, ?_⟩) (by assumption) ?_
            rotate_left
            · intro w hSw; (try dsimp only at hSw); go_simp <;> with_reducible rfl
            simp only [Act.put, List.setIfInBounds_toArray, List.set_cons_zero, List.set_cons_succ]
            refine wpAnyH_take (i := 9) (oi := { dst := some 58, op := Go.Op.fieldAddr 83 (Go.Operand.tmp 7) 2, type := 0, pos := _, after := #[{ on := 11, ground := Go.Ground.gcOnly Go.Departure.lateStores }], guard := none }) (v := ?_) rfl (by kernel_rfl) (by kernel_rfl) (by kernel_rfl) (fun _ _ _ h => h) (Or.inl ⟨by rfl, ?_⟩) (by assumption) ?_
            rotate_left
            · intro w hSw; (try dsimp only at hSw); go_simp <;> with_reducible rfl
            simp only [Act.put, List.setIfInBounds_toArray, List.set_cons_zero, List.set_cons_succ]
            refine wpAnyH_take (i := 10) (oi := { dst := some 59, op := Go.Op.load 3 (Go.Operand.tmp 58), type := 3, pos := _, after := #[{ on := 9, ground := Go.Ground.data }, { on := 11, ground := Go.Ground.gcOnly Go.Departure.lateStores }], guard := none }) (v := ?_) rfl (by kernel_rfl) (by kernel_rfl) (by kernel_rfl) (fun _ _ _ h => h) (Or.inl ⟨by rfl, ?_⟩) (by assumption) ?_
            rotate_left
            · intro w hSw; (try dsimp only at hSw); go_simp <;> with_reducible rfl
            simp only [Act.put, List.setIfInBounds_toArray, List.set_cons_zero, List.set_cons_succ]
            refine wpAnyH_ready (rs := [2, 6]) (by kernel_rfl) (by simp) ?_
            refine AllReadyH.cons (o := { dst := some 51, op := Go.Op.load 25 (Go.Operand.tmp 5), type := 25, pos := _, after := #[], guard := none }) rfl (fun K hK => ?_) (AllReadyH.cons (o := { dst := some 55, op := Go.Op.call { callee := Go.Callee.value (Go.Operand.func 65), args := #[Go.Operand.tmp 52, Go.Operand.tmp 54], argTypes := #[67, 3] }, type := 25, pos := _, after := #[{ on := 3, ground := Go.Ground.data }, { on := 5, ground := Go.Ground.data }], guard := none }) rfl (fun K hK => ?_) AllReadyH.nil)
            · refine if_take (by rfl) ?_
              refine wp_load_row 25 _ rfl b5 rfl 25 (ex4 x (.slice ao x.args.length cap)) (0, 0) _ K5.out.row Tryd.underlying25 rfl info25 ?_
              refine hK.out _ _ (by assumption) (fun _ => ?_)
              clear hK K
              simp only [Act.put, List.setIfInBounds_toArray, List.set_cons_zero, List.set_cons_succ]
              refine wpAnyH_ready (rs := [6]) (by kernel_rfl) (by simp) ?_
              refine AllReadyH.cons (o := { dst := some 55, op := Go.Op.call { callee := Go.Callee.value (Go.Operand.func 65), args := #[Go.Operand.tmp 52, Go.Operand.tmp 54], argTypes := #[67, 3] }, type := 25, pos := _, after := #[{ on := 3, ground := Go.Ground.data }, { on := 5, ground := Go.Ground.data }], guard := none }) rfl (fun K hK => ?_) AllReadyH.nil
              go_simp
              refine (cq _ G5.out R5.out).mono ?_
              rintro e w6 ⟨g6, rfl, h6⟩
              exact ⟨rfl, by rw [RES.out]; exact ⟨grown_on G5.out g6, rfl, h6⟩⟩
            · go_simp
              refine (cq _ G5.out R5.out).mono ?_
              rintro e w6 ⟨g6, rfl, h6⟩
              exact ⟨rfl, by rw [RES.out]; exact ⟨grown_on G5.out g6, rfl, h6⟩⟩
          | ok yq =>
            obtain ⟨y, q2⟩ := yq
            have RES := hid (RES0.out.trans (by rw [hP, Res.go_ok]))
            have FQ := hid (prsP_far ts _ _ _ _ hP)
            simp only [hP] at cq
            clear hP
            refine wp_region_held_drew (S := fun V => V.cell? ⟨w3.heap.size, 0, none⟩ = some (.int .u8 (j.op : Int)) ∧ V.cell? ⟨w3.heap.size, 3, none⟩ = some (.int .i64 (j.rank : Int)) ∧ V.cell? ⟨w3.heap.size, 5, none⟩ = some (.int .i64 (j.second : Int))) (by kernel_rfl) ?_ (fun hHeld => ?_)
            · exact ⟨(cell_of_row _ _ _ _ 83 (0, 0) X7.out).trans rfl, (cell_of_row _ _ _ _ 83 (0, 0) X7.out).trans rfl, (cell_of_row _ _ _ _ 83 (0, 0) X7.out).trans rfl⟩
            refine wpAnyH_take (i := 0) (oi := { dst := some 49, op := Go.Op.fieldAddr 83 (Go.Operand.tmp 7) 0, type := 0, pos := _, after := #[], guard := none }) (v := ?_) rfl (by kernel_rfl) (by kernel_rfl) (by kernel_rfl) (fun _ _ _ h => h) (Or.inl ⟨by rfl, ?_⟩) (by assumption) ?_
            rotate_left
            · intro w hSw; (try dsimp only at hSw); go_simp <;> with_reducible rfl
            simp only [Act.put, List.setIfInBounds_toArray, List.set_cons_zero, List.set_cons_succ]
            refine wpAnyH_take (i := 1) (oi := { dst := some 50, op := Go.Op.load 22 (Go.Operand.tmp 49), type := 22, pos := _, after := #[{ on := 0, ground := Go.Ground.data }], guard := none }) (v := ?_) rfl (by kernel_rfl) (by kernel_rfl) (by kernel_rfl) (fun _ _ _ h => h) (Or.inl ⟨by rfl, ?_⟩) (by assumption) ?_
            rotate_left
            · intro w hSw; (try dsimp only at hSw); go_simp <;> with_reducible rfl
            simp only [Act.put, List.setIfInBounds_toArray, List.set_cons_zero, List.set_cons_succ]
            refine wpAnyH_take (i := 3) (oi := { dst := some 52, op := Go.Op.move (Go.Operand.tmp 0), type := 67, pos := _, after := #[], guard := none }) (v := ?_) rfl (by kernel_rfl) (by kernel_rfl) (by kernel_rfl) (fun _ _ _ h => h) (Or.inl ⟨by rfl, ?_⟩) (by assumption) ?_
            rotate_left
            · intro w hSw; (try dsimp only at hSw); go_simp <;> with_reducible rfl
            simp only [Act.put, List.setIfInBounds_toArray, List.set_cons_zero, List.set_cons_succ]
            refine wpAnyH_take (i := 4) (oi := { dst := some 53, op := Go.Op.fieldAddr 83 (Go.Operand.tmp 7) 4, type := 0, pos := _, after := #[], guard := none }) (v := ?_) rfl (by kernel_rfl) (by kernel_rfl) (by kernel_rfl) (fun _ _ _ h => h) (Or.inl ⟨by rfl, ?_⟩) (by assumption) ?_
            rotate_left
            · intro w hSw; (try dsimp only at hSw); go_simp <;> with_reducible rfl
            simp only [Act.put, List.setIfInBounds_toArray, List.set_cons_zero, List.set_cons_succ]
            refine wpAnyH_take (i := 5) (oi := { dst := some 54, op := Go.Op.load 3 (Go.Operand.tmp 53), type := 3, pos := _, after := #[{ on := 4, ground := Go.Ground.data }], guard := none }) (v := ?_) rfl (by kernel_rfl) (by kernel_rfl) (by kernel_rfl) (fun _ _ _ h => h) (Or.inl ⟨by rfl, ?_⟩) (by assumption) ?_
            rotate_left
            · intro w hSw; (try dsimp only at hSw); go_simp <;> with_reducible rfl
            simp only [Act.put, List.setIfInBounds_toArray, List.set_cons_zero, List.set_cons_succ]
            refine wpAnyH_take (i := 9) (oi := { dst := some 58, op := Go.Op.fieldAddr 83 (Go.Operand.tmp 7) 2, type := 0, pos := _, after := #[{ on := 11, ground := Go.Ground.gcOnly Go.Departure.lateStores }], guard := none }) (v := ?_) rfl (by kernel_rfl) (by kernel_rfl) (by kernel_rfl) (fun _ _ _ h => h) (Or.inl ⟨by rfl, ?_⟩) (by assumption) ?_
            rotate_left
            · intro w hSw; (try dsimp only at hSw); go_simp <;> with_reducible rfl
            simp only [Act.put, List.setIfInBounds_toArray, List.set_cons_zero, List.set_cons_succ]
            refine wpAnyH_take (i := 10) (oi := { dst := some 59, op := Go.Op.load 3 (Go.Operand.tmp 58), type := 3, pos := _, after := #[{ on := 9, ground := Go.Ground.data }, { on := 11, ground := Go.Ground.gcOnly Go.Departure.lateStores }], guard := none }) (v := ?_) rfl (by kernel_rfl) (by kernel_rfl) (by kernel_rfl) (fun _ _ _ h => h) (Or.inl ⟨by rfl, ?_⟩) (by assumption) ?_
            rotate_left
            · intro w hSw; (try dsimp only at hSw); go_simp <;> with_reducible rfl
            simp only [Act.put, List.setIfInBounds_toArray, List.set_cons_zero, List.set_cons_succ]
            refine wpAnyH_ready (rs := [2, 6]) (by kernel_rfl) (by simp) ?_
            refine AllReadyH.cons (o := { dst := some 51, op := Go.Op.load 25 (Go.Operand.tmp 5), type := 25, pos := _, after := #[], guard := none }) rfl (fun K hK => ?_) (AllReadyH.cons (o := { dst := some 55, op := Go.Op.call { callee := Go.Callee.value (Go.Operand.func 65), args := #[Go.Operand.tmp 52, Go.Operand.tmp 54], argTypes := #[67, 3] }, type := 25, pos := _, after := #[{ on := 3, ground := Go.Ground.data }, { on := 5, ground := Go.Ground.data }], guard := none }) rfl (fun K hK => ?_) AllReadyH.nil)
            · refine if_take (by rfl) ?_
              refine wp_load_row 25 _ rfl b5 rfl 25 (ex4 x (.slice ao x.args.length cap)) (0, 0) _ K5.out.row Tryd.underlying25 rfl info25 ?_
              refine hK.out _ _ (by assumption) (fun _ => ?_)
              clear hK K
              simp only [Act.put, List.setIfInBounds_toArray, List.set_cons_zero, List.set_cons_succ]
              refine wpAnyH_ready (rs := [6]) (by kernel_rfl) (by simp) ?_
              refine AllReadyH.cons (o := { dst := some 55, op := Go.Op.call { callee := Go.Callee.value (Go.Operand.func 65), args := #[Go.Operand.tmp 52, Go.Operand.tmp 54], argTypes := #[67, 3] }, type := 25, pos := _, after := #[{ on := 3, ground := Go.Ground.data }, { on := 5, ground := Go.Ground.data }], guard := none }) rfl (fun K hK => ?_) AllReadyH.nil
              go_simp
              refine (cq _ G5.out R5.out).mono ?_
              rintro e w6 ⟨g6, t, rfl, st6, h6⟩
              obtain ⟨ao2, cap2, rfl⟩ := st6.form
              have K6 := hid (K5.out.grown g6 H.out.lt)
              have X76 := kept X7.out g6 (by have := H.out.lt; have := N7.out; omega)
              have X46 := hid (kept X4.out g6 H.out.lt)
              have G6 := hid (grown_on G5.out g6)
              have R6 := hid h6
              have Y6 := hid (StP.carryN (ok' := fun k => w.heap.size < k ∧ k ≠ b5) (fun b _ _ => rfl) (fun b _ hb => ⟨Nat.lt_of_lt_of_le N5.out hb, Nat.ne_of_gt (Nat.lt_of_lt_of_le N55.out hb)⟩) _ y _ (Nat.le_refl _) st6)
              have Z6 := hid (Nat.lt_of_lt_of_le N5.out g6.size)
              clear g6 st6 h6
              go_wp2_with fail
              refine hK.out _ _ ?_ (fun hHeld1 => ?_)
              · exact ⟨by rw [cell_of_row _ _ _ _ 83 (0, 0) X76]; rfl, by rw [cell_of_row _ _ _ _ 83 (0, 0) X76]; rfl, by rw [cell_of_row _ _ _ _ 83 (0, 0) X76]; rfl⟩
              clear hK K
              refine wpAnyH_ready (rs := [7]) (by kernel_rfl) (by simp) ?_
              refine AllReadyH.cons (o := { dst := some 56, op := Go.Op.buildSlice 23 2 #[(0, Go.Operand.tmp 51), (1, Go.Operand.tmp 55)], type := 23, pos := _, after := #[{ on := 2, ground := Go.Ground.data }, { on := 6, ground := Go.Ground.data }], guard := none }) rfl (fun K hK => ?_) AllReadyH.nil
              refine if_take (by rfl) ?_
              obtain ⟨ie, hie, hz, hsz⟩ := inf25
              refine wp_buildSlice 23 25 2 _ rfl (ex4 x (.slice ao x.args.length cap) ++ ex4 y (.slice ao2 y.args.length cap2)) ie z25 Tryd.underlying23 hie hz (by rw [hsz]; decide) (by rw [hsz]; decide) (by rw [hsz]; simp only [List.map_toArray, List.map_cons, List.map_nil]; exact fill2 x y ao ao2 _ _ _ _) ?_
              clear hie hz hsz
              have b7 := (Below.refl w6.heap.size w6).alloc (Nat.le_refl _) (.cells (ex4 x (.slice ao x.args.length cap) ++ ex4 y (.slice ao2 y.args.length cap2)) 25)
              have X77 := (b7.block _ (Array.getElem?_eq_some_iff.1 X76).1).trans X76
              have X57 := (b7.block _ (Array.getElem?_eq_some_iff.1 K6.out.row).1).trans K6.out.row
              have C7 := hid (heap_alloc_new w6 (.cells (ex4 x (.slice ao x.args.length cap) ++ ex4 y (.slice ao2 y.args.length cap2)) 25))
              have B7 := hid b7
              clear b7
              refine hK.out _ _ ?_ (fun _ => ?_)
              · exact ⟨by rw [cell_of_row _ _ _ _ 83 (0, 0) X77]; rfl, by rw [cell_of_row _ _ _ _ 83 (0, 0) X77]; rfl, by rw [cell_of_row _ _ _ _ 83 (0, 0) X77]; rfl⟩
              clear hK K
              simp only [Act.put, List.setIfInBounds_toArray, List.set_cons_zero, List.set_cons_succ]
              refine wpAnyH_take (i := 8) (oi := { dst := some 57, op := Go.Op.build 25 #[(0, Go.Operand.tmp 50), (3, Go.Operand.tmp 56)], type := 25, pos := _, after := #[{ on := 1, ground := Go.Ground.data }, { on := 7, ground := Go.Ground.data }], guard := none }) (v := ?_) rfl (by kernel_rfl) (by kernel_rfl) (by kernel_rfl) (fun _ _ _ h => h) (Or.inl ⟨by rfl, ?_⟩) (by assumption) ?_
              rotate_left
              · intro w hSw; (try dsimp only at hSw); go_simp <;> with_reducible rfl
              simp only [Act.put, List.setIfInBounds_toArray, List.set_cons_zero, List.set_cons_succ]
              refine wpAnyH_ready (rs := [11]) (by kernel_rfl) (by simp) ?_
              refine AllReadyH.cons (o := { dst := none, op := Go.Op.store 25 (Go.Operand.tmp 5) (Go.Operand.tmp 57), type := 0, pos := _, after := #[{ on := 8, ground := Go.Ground.data }, { on := 6, ground := Go.Ground.chain }, { on := 0, ground := Go.Ground.phase }, { on := 1, ground := Go.Ground.phase }, { on := 2, ground := Go.Ground.phase }, { on := 3, ground := Go.Ground.phase }, { on := 4, ground := Go.Ground.phase }, { on := 5, ground := Go.Ground.phase }, { on := 6, ground := Go.Ground.phase }, { on := 7, ground := Go.Ground.phase }, { on := 8, ground := Go.Ground.phase }, { on := 9, ground := Go.Ground.textOnly Go.Departure.lateStores }, { on := 10, ground := Go.Ground.textOnly Go.Departure.lateStores }], guard := none }) rfl (fun K hK => ?_) AllReadyH.nil
              refine if_take (by rfl) ?_
              refine wp_store_row 25 _ _ rfl b5 (ex4 ⟨j.op, 0, ByteArray.empty, [x, y]⟩ (.slice (some ⟨w6.heap.size, 0, none⟩) 2 2)) rfl rfl 25 _ X57 info25 rfl (by simp [Value.oneCell', ex4]) ?_
              have X78 := (setRow_other (w6.alloc (.cells (ex4 x (.slice ao x.args.length cap) ++ ex4 y (.slice ao2 y.args.length cap2)) 25)) b5 _ (ex4 ⟨j.op, 0, ByteArray.empty, [x, y]⟩ (.slice (some ⟨w6.heap.size, 0, none⟩) 2 2)) (Nat.ne_of_gt N75.out)).trans X77
              refine hK.out _ _ ?_ (fun _ => ?_)
              · exact ⟨by rw [cell_of_row _ _ _ _ 83 (0, 0) X78]; rfl, by rw [cell_of_row _ _ _ _ 83 (0, 0) X78]; rfl, by rw [cell_of_row _ _ _ _ 83 (0, 0) X78]; rfl⟩
              clear hK K
              refine wpAnyH_take (i := 12) (oi := { dst := some 6, op := Go.Op.assign (Go.Operand.tmp 59), type := 3, pos := _, after := #[{ on := 10, ground := Go.Ground.data }, { on := 11, ground := Go.Ground.chain }, { on := 0, ground := Go.Ground.phase }, { on := 1, ground := Go.Ground.phase }, { on := 2, ground := Go.Ground.phase }, { on := 3, ground := Go.Ground.phase }, { on := 4, ground := Go.Ground.phase }, { on := 5, ground := Go.Ground.phase }, { on := 6, ground := Go.Ground.phase }, { on := 7, ground := Go.Ground.phase }, { on := 8, ground := Go.Ground.phase }, { on := 9, ground := Go.Ground.phase }, { on := 10, ground := Go.Ground.phase }, { on := 11, ground := Go.Ground.phase }], guard := none }) (v := ?_) rfl (by kernel_rfl) (by kernel_rfl) (by kernel_rfl) (fun _ _ _ h => h) (Or.inl ⟨by rfl, ?_⟩) (by assumption) ?_
              rotate_left
              · intro w hSw; (try dsimp only at hSw); go_simp <;> with_reducible rfl
              simp only [Act.put, List.setIfInBounds_toArray, List.set_cons_zero, List.set_cons_succ]
              refine wpAnyH_done (by kernel_rfl) ?_ _
              refine hK8 _ _ ?_
              go_step3
              have hb6 : b5 < w6.heap.size := (Array.getElem?_eq_some_iff.1 K6.out.row).1
              have hw6 : w.heap.size < w6.heap.size := Z6.out
              have R8 := H.out.setRowAt (R6.out.step B7.out) (Nat.le_of_lt KP.out.lt) (ex4 ⟨j.op, 0, ByteArray.empty, [x, y]⟩ (.slice (some ⟨w6.heap.size, 0, none⟩) 2 2))
              refine ⟨rfl, ⟨⟨j.op, 0, ByteArray.empty, [x, y]⟩, _, j.rank, q2, b5, ⟨_, _, _, _, _, _, _, _, _, _, _, _, _, _, _, _, _, _, _, _, _, _, _, _, _, _, _, _, _, _, _, _, _, _, _, _, _, _, _, _, _, _, _, _, _, _, _, _, _, _, _, _, _, rfl⟩, ⟨grown_setRowAt (grown_on G6.out (grown_below B7.out _)) (Nat.le_of_lt KP.out.lt) _, R8, (setRow_other _ _ _ _ (Nat.ne_of_lt KP.out.lt)).trans ((B7.out.block _ hw6).trans X46.out), ⟨setRow_heap _ _ _ _ _ _ X57, StP.two j.op JL.out.2.2.2.2.2.2.2.2 w6.heap.size ⟨hw6, Nat.ne_of_gt hb6⟩ ?_ ?_ ((setRow_other _ _ _ _ (Nat.ne_of_gt hb6)).trans C7.out), KP.out.lt⟩, RES.out.symm, Nat.lt_trans LT.out (Nat.lt_trans (Nat.lt_succ_self q) FQ.out), Nat.le_trans JL.out.2.2.2.1 (by omega)⟩⟩, ?_⟩
              · exact StP.carryN (fun b hb hl => (setRow_other _ _ _ _ hb.2).trans (B7.out.block b hl)) (fun b _ hb => hb) _ x _ (Nat.le_refl _) K6.out.st
              · exact StP.carryN (fun b hb hl => (setRow_other _ _ _ _ hb.2).trans (B7.out.block b hl)) (fun b _ hb => hb) _ y _ (Nat.le_refl _) Y6.out
              · rw [atR_of R8, atR_of RD.out]; have := HQ.out; have := FQ.out; have := R8.le; omega
            · go_simp
              refine (cq _ G5.out R5.out).mono ?_
              rintro e w6 ⟨g6, t, rfl, st6, h6⟩
              obtain ⟨ao2, cap2, rfl⟩ := st6.form
              have K6 := hid (K5.out.grown g6 H.out.lt)
              have X76 := kept X7.out g6 (by have := H.out.lt; have := N7.out; omega)
              have X46 := hid (kept X4.out g6 H.out.lt)
              have G6 := hid (grown_on G5.out g6)
              have R6 := hid h6
              have Y6 := hid (StP.carryN (ok' := fun k => w.heap.size < k ∧ k ≠ b5) (fun b _ _ => rfl) (fun b _ hb => ⟨Nat.lt_of_lt_of_le N5.out hb, Nat.ne_of_gt (Nat.lt_of_lt_of_le N55.out hb)⟩) _ y _ (Nat.le_refl _) st6)
              have Z6 := hid (Nat.lt_of_lt_of_le N5.out g6.size)
              clear g6 st6 h6
              go_wp2_with fail
              refine hK.out _ _ ?_ (fun hHeld1 => ?_)
              · exact ⟨by rw [cell_of_row _ _ _ _ 83 (0, 0) X76]; rfl, by rw [cell_of_row _ _ _ _ 83 (0, 0) X76]; rfl, by rw [cell_of_row _ _ _ _ 83 (0, 0) X76]; rfl⟩
              clear hK K
              refine wpAnyH_ready (rs := [2]) (by kernel_rfl) (by simp) ?_
              refine AllReadyH.cons (o := { dst := some 51, op := Go.Op.load 25 (Go.Operand.tmp 5), type := 25, pos := _, after := #[], guard := none }) rfl (fun K hK => ?_) AllReadyH.nil
              refine if_take (by rfl) ?_
              refine wp_load_row 25 _ rfl b5 rfl 25 (ex4 x (.slice ao x.args.length cap)) (0, 0) _ K6.out.row Tryd.underlying25 rfl info25 ?_
              refine hK.out _ _ (by assumption) (fun _ => ?_)
              clear hK K
              simp only [Act.put, List.setIfInBounds_toArray, List.set_cons_zero, List.set_cons_succ]
              refine wpAnyH_ready (rs := [7]) (by kernel_rfl) (by simp) ?_
              refine AllReadyH.cons (o := { dst := some 56, op := Go.Op.buildSlice 23 2 #[(0, Go.Operand.tmp 51), (1, Go.Operand.tmp 55)], type := 23, pos := _, after := #[{ on := 2, ground := Go.Ground.data }, { on := 6, ground := Go.Ground.data }], guard := none }) rfl (fun K hK => ?_) AllReadyH.nil
              refine if_take (by rfl) ?_
              obtain ⟨ie, hie, hz, hsz⟩ := inf25
              refine wp_buildSlice 23 25 2 _ rfl (ex4 x (.slice ao x.args.length cap) ++ ex4 y (.slice ao2 y.args.length cap2)) ie z25 Tryd.underlying23 hie hz (by rw [hsz]; decide) (by rw [hsz]; decide) (by rw [hsz]; simp only [List.map_toArray, List.map_cons, List.map_nil]; exact fill2 x y ao ao2 _ _ _ _) ?_
              clear hie hz hsz
              have b7 := (Below.refl w6.heap.size w6).alloc (Nat.le_refl _) (.cells (ex4 x (.slice ao x.args.length cap) ++ ex4 y (.slice ao2 y.args.length cap2)) 25)
              have X77 := (b7.block _ (Array.getElem?_eq_some_iff.1 X76).1).trans X76
              have X57 := (b7.block _ (Array.getElem?_eq_some_iff.1 K6.out.row).1).trans K6.out.row
              have C7 := hid (heap_alloc_new w6 (.cells (ex4 x (.slice ao x.args.length cap) ++ ex4 y (.slice ao2 y.args.length cap2)) 25))
              have B7 := hid b7
              clear b7
              refine hK.out _ _ ?_ (fun _ => ?_)
              · exact ⟨by rw [cell_of_row _ _ _ _ 83 (0, 0) X77]; rfl, by rw [cell_of_row _ _ _ _ 83 (0, 0) X77]; rfl, by rw [cell_of_row _ _ _ _ 83 (0, 0) X77]; rfl⟩
              clear hK K
              simp only [Act.put, List.setIfInBounds_toArray, List.set_cons_zero, List.set_cons_succ]
              refine wpAnyH_take (i := 8) (oi := { dst := some 57, op := Go.Op.build 25 #[(0, Go.Operand.tmp 50), (3, Go.Operand.tmp 56)], type := 25, pos := _, after := #[{ on := 1, ground := Go.Ground.data }, { on := 7, ground := Go.Ground.data }], guard := none }) (v := ?_) rfl (by kernel_rfl) (by kernel_rfl) (by kernel_rfl) (fun _ _ _ h => h) (Or.inl ⟨by rfl, ?_⟩) (by assumption) ?_
              rotate_left
              · intro w hSw; (try dsimp only at hSw); go_simp <;> with_reducible rfl
              simp only [Act.put, List.setIfInBounds_toArray, List.set_cons_zero, List.set_cons_succ]
              refine wpAnyH_ready (rs := [11]) (by kernel_rfl) (by simp) ?_
              refine AllReadyH.cons (o := { dst := none, op := Go.Op.store 25 (Go.Operand.tmp 5) (Go.Operand.tmp 57), type := 0, pos := _, after := #[{ on := 8, ground := Go.Ground.data }, { on := 6, ground := Go.Ground.chain }, { on := 0, ground := Go.Ground.phase }, { on := 1, ground := Go.Ground.phase }, { on := 2, ground := Go.Ground.phase }, { on := 3, ground := Go.Ground.phase }, { on := 4, ground := Go.Ground.phase }, { on := 5, ground := Go.Ground.phase }, { on := 6, ground := Go.Ground.phase }, { on := 7, ground := Go.Ground.phase }, { on := 8, ground := Go.Ground.phase }, { on := 9, ground := Go.Ground.textOnly Go.Departure.lateStores }, { on := 10, ground := Go.Ground.textOnly Go.Departure.lateStores }], guard := none }) rfl (fun K hK => ?_) AllReadyH.nil
              refine if_take (by rfl) ?_
              refine wp_store_row 25 _ _ rfl b5 (ex4 ⟨j.op, 0, ByteArray.empty, [x, y]⟩ (.slice (some ⟨w6.heap.size, 0, none⟩) 2 2)) rfl rfl 25 _ X57 info25 rfl (by simp [Value.oneCell', ex4]) ?_
              have X78 := (setRow_other (w6.alloc (.cells (ex4 x (.slice ao x.args.length cap) ++ ex4 y (.slice ao2 y.args.length cap2)) 25)) b5 _ (ex4 ⟨j.op, 0, ByteArray.empty, [x, y]⟩ (.slice (some ⟨w6.heap.size, 0, none⟩) 2 2)) (Nat.ne_of_gt N75.out)).trans X77
              refine hK.out _ _ ?_ (fun _ => ?_)
              · exact ⟨by rw [cell_of_row _ _ _ _ 83 (0, 0) X78]; rfl, by rw [cell_of_row _ _ _ _ 83 (0, 0) X78]; rfl, by rw [cell_of_row _ _ _ _ 83 (0, 0) X78]; rfl⟩
              clear hK K
              refine wpAnyH_take (i := 12) (oi := { dst := some 6, op := Go.Op.assign (Go.Operand.tmp 59), type := 3, pos := _, after := #[{ on := 10, ground := Go.Ground.data }, { on := 11, ground := Go.Ground.chain }, { on := 0, ground := Go.Ground.phase }, { on := 1, ground := Go.Ground.phase }, { on := 2, ground := Go.Ground.phase }, { on := 3, ground := Go.Ground.phase }, { on := 4, ground := Go.Ground.phase }, { on := 5, ground := Go.Ground.phase }, { on := 6, ground := Go.Ground.phase }, { on := 7, ground := Go.Ground.phase }, { on := 8, ground := Go.Ground.phase }, { on := 9, ground := Go.Ground.phase }, { on := 10, ground := Go.Ground.phase }, { on := 11, ground := Go.Ground.phase }], guard := none }) (v := ?_) rfl (by kernel_rfl) (by kernel_rfl) (by kernel_rfl) (fun _ _ _ h => h) (Or.inl ⟨by rfl, ?_⟩) (by assumption) ?_
              rotate_left
              · intro w hSw; (try dsimp only at hSw); go_simp <;> with_reducible rfl
              simp only [Act.put, List.setIfInBounds_toArray, List.set_cons_zero, List.set_cons_succ]
              refine wpAnyH_done (by kernel_rfl) ?_ _
              refine hK8 _ _ ?_
              go_step3
              have hb6 : b5 < w6.heap.size := (Array.getElem?_eq_some_iff.1 K6.out.row).1
              have hw6 : w.heap.size < w6.heap.size := Z6.out
              have R8 := H.out.setRowAt (R6.out.step B7.out) (Nat.le_of_lt KP.out.lt) (ex4 ⟨j.op, 0, ByteArray.empty, [x, y]⟩ (.slice (some ⟨w6.heap.size, 0, none⟩) 2 2))
              refine ⟨rfl, ⟨⟨j.op, 0, ByteArray.empty, [x, y]⟩, _, j.rank, q2, b5, ⟨_, _, _, _, _, _, _, _, _, _, _, _, _, _, _, _, _, _, _, _, _, _, _, _, _, _, _, _, _, _, _, _, _, _, _, _, _, _, _, _, _, _, _, _, _, _, _, _, _, _, _, _, _, rfl⟩, ⟨grown_setRowAt (grown_on G6.out (grown_below B7.out _)) (Nat.le_of_lt KP.out.lt) _, R8, (setRow_other _ _ _ _ (Nat.ne_of_lt KP.out.lt)).trans ((B7.out.block _ hw6).trans X46.out), ⟨setRow_heap _ _ _ _ _ _ X57, StP.two j.op JL.out.2.2.2.2.2.2.2.2 w6.heap.size ⟨hw6, Nat.ne_of_gt hb6⟩ ?_ ?_ ((setRow_other _ _ _ _ (Nat.ne_of_gt hb6)).trans C7.out), KP.out.lt⟩, RES.out.symm, Nat.lt_trans LT.out (Nat.lt_trans (Nat.lt_succ_self q) FQ.out), Nat.le_trans JL.out.2.2.2.1 (by omega)⟩⟩, ?_⟩
              · exact StP.carryN (fun b hb hl => (setRow_other _ _ _ _ hb.2).trans (B7.out.block b hl)) (fun b _ hb => hb) _ x _ (Nat.le_refl _) K6.out.st
              · exact StP.carryN (fun b hb hl => (setRow_other _ _ _ _ hb.2).trans (B7.out.block b hl)) (fun b _ hb => hb) _ y _ (Nat.le_refl _) Y6.out
              · rw [atR_of R8, atR_of RD.out]; have := HQ.out; have := FQ.out; have := R8.le; omega
end Go.Proofs.YtkieljleopbhoaaDoor.Lex
namespace Go.Proofs.YtkieljleopbhoaaDoor.Lex
open Go.ChangeShapes Go.WideShapes Go.ChangeAt Go.RowKit Go.Joins Go.WideMaps Go.WideElems Go.Maps
theorem choice_c {r mp : Nat} {v : Value} {ts : List Mark} {p : Nat} {w : World} (h : Rdr r mp v ts p w) (hp : p < ts.length)
    (ih : ∀ (q b : Nat) W, p < q → b ≤ 7 → w.grownBy W (some r) → Rdr r mp v ts q W → Calls Tryd.prog 65 #[.pointer (some ⟨r, 0, none⟩), .int .i64 (b : Int)] W (Post r mp v ts W (P ts b q))) : Calls Tryd.prog 83 #[.pointer (some ⟨r, 0, none⟩)] w (Post r mp v ts w (choiceR ts (P ts) p)) := by
  have c1 := fun W g hr => ih (p + 1) 0 W (by omega) (by omega) g hr
  unfold choiceR
  cases e1 : P ts 0 (p + 1) with
  | error nq =>
    obtain ⟨n, q⟩ := nq
    rw [e1] at c1
    rw [Res.go_error]
    exact choice_bad1 r mp v ts p w h hp n q c1
  | ok xq =>
    obtain ⟨x1, q1⟩ := xq
    rw [e1] at c1
    rw [Res.go_ok]
    have f1 := prsP_far ts _ _ _ _ e1
    cases m1 : isMk (markAt ts q1) 1 (sgn [116, 104, 101, 110]) with
    | false =>
      unfold passR
      rw [m1]
      exact choice_bad2 r mp v ts p w h hp x1 q1 c1 m1
    | true =>
      rw [passR, if_pos m1]
      have c2 := fun W g hr => ih (q1 + 1) 0 W (by omega) (by omega) g hr
      cases e2 : P ts 0 (q1 + 1) with
      | error nq =>
        obtain ⟨n, q⟩ := nq
        rw [e2] at c2
        rw [Res.go_error]
        exact choice_bad3 r mp v ts p w h hp x1 q1 c1 m1 n q c2
      | ok xq =>
        obtain ⟨x2, q2⟩ := xq
        rw [e2] at c2
        rw [Res.go_ok]
        have f2 := prsP_far ts _ _ _ _ e2
        cases m2 : isMk (markAt ts q2) 1 (sgn [101, 108, 115, 101]) with
        | false =>
          unfold passR
          rw [m2]
          exact choice_bad4 r mp v ts p w h hp x1 q1 c1 m1 x2 q2 c2 m2
        | true =>
          rw [passR, if_pos m2]
          have c3 := fun W g hr => ih (q2 + 1) 0 W (by omega) (by omega) g hr
          cases e3 : P ts 0 (q2 + 1) with
          | error nq =>
            obtain ⟨n, q⟩ := nq
            rw [e3] at c3
            rw [Res.go_error]
            exact choice_bad5 r mp v ts p w h hp x1 q1 c1 m1 x2 q2 c2 m2 n q c3
          | ok xq =>
            obtain ⟨x3, q3⟩ := xq
            rw [e3] at c3
            rw [Res.go_ok]
            exact choice_ok r mp v ts p w h hp x1 q1 c1 m1 x2 q2 c2 m2 x3 q3 c3
set_option maxRecDepth 100000 in
set_option maxHeartbeats 2000000 in
theorem part_if (r mp : Nat) (v : Value) (ts : List Mark) (p : Nat) (w : World) (h : Rdr r mp v ts p w) (hif : isMk (markAt ts p) 1 (sgn [105, 102]) = true)
    (ih : ∀ (q b : Nat) W, p < q → b ≤ 7 → w.grownBy W (some r) → Rdr r mp v ts q W → Calls Tryd.prog 65 #[.pointer (some ⟨r, 0, none⟩), .int .i64 (b : Int)] W (Post r mp v ts W (P ts b q))) :
    Calls Tryd.prog 65 #[.pointer (some ⟨r, 0, none⟩), .int .i64 0] w (Post r mp v ts w (P ts 0 p)) := by
  have hp := isMk_lt (by omega) hif
  have RES := hid (P_if hif)
  have b0 := (Below.refl w.heap.size w).alloc (Nat.le_refl _) (.cells c25 25)
  have c0 := peek r mp v ts p _ (h.step b0)
  have cc : ∀ W, Below w.heap.size w W → Calls Tryd.prog 83 #[.pointer (some ⟨r, 0, none⟩)] W (Post r mp v ts W (choiceR ts (P ts) p)) := fun W hW => choice_c (h.step hW) hp (fun q b W' hq hb g hr => ih q b W' hq hb (grown_on (grown_below hW _) g) hr)
  have B0 := hid b0
  have H := hid h
  have X0 := hid (heap_alloc_new w (.cells c25 25))
  obtain ⟨h1, h2⟩ := isMk_yes hif
  rw [e105] at h2
  clear b0 ih h hp hif
  generalize choiceR ts (P ts) p = R at *
  generalize markAt ts p = m at *
  cases R with
  | error nq =>
    obtain ⟨n, q⟩ := nq
    go_enter Tryd.func65, Tryd.ntmps65
    go_wp2
    go_step3
    go_wp2_with (first
      | (go_at_call 80; refine c0.mono ?_; rintro e w2 ⟨rfl, b2⟩; have B2 := hid (bstep B0.out b2); clear b2 c0)
      | (go_at_call 83; refine (cc _ B2.out).mono ?_; rintro e w3 ⟨g3, rfl, h3⟩; have G3 := hid (grown_on (grown_below B2.out _) g3); have H3 := hid h3; clear g3 h3 cc))
    exact ⟨rfl, by rw [RES.out]; exact ⟨G3.out, rfl, H3.out⟩⟩
  | ok xq =>
    obtain ⟨x, q⟩ := xq
    go_enter Tryd.func65, Tryd.ntmps65
    go_wp2
    go_step3
    go_wp2_with (first
      | (go_at_call 80; refine c0.mono ?_; rintro e w2 ⟨rfl, b2⟩; have B2' := hid b2; have B2 := hid (bstep B0.out b2); clear b2 c0)
      | (go_at_call 83; refine (cc _ B2.out).mono ?_; rintro e w3 ⟨g3, s, rfl, st, h3⟩; obtain ⟨ao, cap, rfl⟩ := st.form; have X3 := kept ((B2'.out.block _ (by simp)).trans X0.out) g3 H.out.lt; have Q := hid (Post.behind H.out B2.out (by have := B2'.out.size; simp at this; omega) g3 st h3 (ex4 x (.slice ao x.args.length cap))); clear g3 h3 cc st)
      | (refine wpList_store_row rfl 25 _ _ rfl w.heap.size (ex4 x (.slice ao x.args.length cap)) rfl rfl 25 _ X3 info25 rfl (by simp [Value.oneCell', ex4]) ?_))
    refine bodyPost_ret (results_cell_row rfl _ _ w.heap.size 25 (ex4 x (.slice ao x.args.length cap)) (0, 0) _ rfl (setRow_heap _ _ _ _ _ _ X3) Tryd.underlying25 rfl info25) rfl ?_
    rw [RES.out]
    exact ⟨Q.out.1, _, rfl, Q.out.2.1, Q.out.2.2⟩
/-- part, whatever stands there. -/
theorem part_any (r mp : Nat) (v : Value) (ts : List Mark) (hT : TsOk ts) : ∀ (n p a : Nat) (w : World), ts.length + 1 ≤ n + p → a ≤ 7 → Rdr r mp v ts p w → PEnv r mp w → Calls Tryd.prog 65 #[.pointer (some ⟨r, 0, none⟩), .int .i64 (a : Int)] w (Post r mp v ts w (P ts a p))
  | 0, p, a, w, hn, _, h, _ => by have := h.le; omega
  | n + 1, p, a, w, hn, ha, h, E => by
    have ih : ∀ (q b : Nat) W, p < q → b ≤ 7 → w.grownBy W (some r) → Rdr r mp v ts q W → Calls Tryd.prog 65 #[.pointer (some ⟨r, 0, none⟩), .int .i64 (b : Int)] W (Post r mp v ts W (P ts b q)) := fun q b W hq hb g hr => part_any r mp v ts hT n q b W (by omega) hb hr (E.grown g)
    by_cases hif : a = 0 ∧ isMk (markAt ts p) 1 (sgn [105, 102]) = true
    · obtain ⟨rfl, hm⟩ := hif
      exact part_if r mp v ts p w h hm ih
    · exact part_at r mp v ts a p ha w h E hT hif ih
end Go.Proofs.YtkieljleopbhoaaDoor.Lex
namespace Go.Proofs.YtkieljleopbhoaaDoor.Lex
open Go.ChangeShapes Go.WideShapes Go.ChangeAt Go.RowKit Go.Joins Go.WideMaps Go.WideElems Go.Maps
set_option maxRecDepth 100000 in
theorem catch_panicking (p : Addr) (x e : Int) (older : List PanicEntry) (w : World) (hc : w.cell? p = some (.int .i64 x)) (hz : w.frozen? p = false) :
    CallsD Tryd.prog 64 #[.pointer (some p)] (.panicking ({ v := .iface 28 (.int .i64 e), recovered := false } :: older)) w fun en u' w' =>
      en = .returned (.tuple #[]) ∧ u' = .panicking ({ v := .iface 28 (.int .i64 e), recovered := true } :: older) ∧ w' = w.setCell p (.int .i64 e) := by
  have hta : ∀ W : World, (Instr.typeAssert (.iface 28 (.int .i64 e)) 20 28 true).run Tryd.prog W = .ok (.tuple #[.int .i64 e, .bool true]) W := fun W => by kernel_rfl
  refine callsD_of_wpS Tryd.func64 rfl fun c₀ cs hu => ?_
  apply wpS_seq
  apply wpS_region
  simp [wpOpsS, go_sem, recoverD, hu, Tryd.ntmps64, Exit.thenS, hta]
  apply wpS_seq
  apply wpS_region
  simp [wpOpsS, go_sem, Exit.thenS]
  refine wpS_cond (t := true) (by simp [Act.eval, Array.replicate]) ?_
  simp only [if_true]
  apply wpS_region
  simp [wpOpsS, go_sem, hc, hz, bodyPostS, results, Tryd.results64]
set_option maxRecDepth 100000 in
theorem catch_idle (p : Addr) (w : World) :
    CallsD Tryd.prog 64 #[.pointer (some p)] .returning w fun e u' w' => e = .returned (.tuple #[]) ∧ u' = .returning ∧ w' = w := by
  have hta : ∀ W : World, (Instr.typeAssert .nilIface 20 28 true).run Tryd.prog W = .ok (.tuple #[.int .i64 0, .bool false]) W := fun W => by kernel_rfl
  refine callsD_of_wpS Tryd.func64 rfl fun c₀ cs hu => ?_
  apply wpS_seq
  apply wpS_region
  simp [wpOpsS, go_sem, recoverD, hu, Tryd.ntmps64, Exit.thenS, hta]
  apply wpS_seq
  apply wpS_region
  simp [wpOpsS, go_sem, Exit.thenS]
  refine wpS_cond (t := false) (by simp [Act.eval, Array.replicate]) ?_
  simp only [Bool.false_eq_true, if_false]
  refine wpS_of_wp (wp_skip ?_)
  cases c₀
  simp_all [bodyPostS, results, Tryd.results64]
theorem Rdr.other {r mp : Nat} {v : Value} {ts : List Mark} {p q : Nat} {w W W' : World} (h : Rdr r mp v ts p w) (h2 : Rdr r mp v ts q W) {b : Nat} (hb : w.heap.size ≤ b) (ho : ∀ k, k ≠ b → W'.heap[k]? = W.heap[k]?) : Rdr r mp v ts q W' := by
  have hlt := h.lt
  refine ⟨(ho r (by omega)).trans h2.cell, ?_, h2.le, h2.few, h2.far, h2.own⟩
  obtain ⟨a, cap, rfl, hc⟩ := h.toks
  by_cases h0 : ts.length = 0
  · obtain ⟨a2, cap2, e2, _⟩ := h2.toks
    exact ⟨a2, cap2, e2, .inl h0⟩
  · obtain ⟨g, o, hg, hcc⟩ := hc.resolve_left h0
    refine h2.toks.carry fun a' n c' ev hl => ho _ ?_
    intro he
    injection ev with e1 e2 e3
    rw [hg] at e1
    injection e1 with e1
    have hlt2 : g < w.heap.size := World.block_lt_of_cell? w ⟨g, o + 0 * 3, none⟩ (hcc 0 (by omega)).1
    rw [← e1] at he
    simp only at he
    omega
theorem set_far (W : World) (b : Nat) (u : Value) : ∀ k, k ≠ b → (W.setCell ⟨b, 0, none⟩ u).heap[k]? = W.heap[k]? := fun k hk => Below.heap_setCell W ⟨b, 0, none⟩ u k hk
theorem grown_set {w W : World} {r : Option Nat} (g : w.grownBy W r) {b : Nat} (hb : w.heap.size ≤ b) (u : Value) : w.grownBy (W.setCell ⟨b, 0, none⟩ u) r :=
  ⟨g.os, g.tape, g.output, by have := g.size; simpa [World.setCell] using this, fun k hk hkr => (set_far W b u k (by omega)).trans (g.block k hk hkr)⟩
/-- What reading answers, the panics caught. -/
def PostW (r mp : Nat) (v : Value) (ts : List Mark) (w : World) (res : Res) (e : Ending) (w' : World) : Prop :=
  w.grownBy w' (some r) ∧ match res with
    | .ok (x, q) => ∃ s, e = .returned (.tuple #[exV x s, .int .i64 0]) ∧ StP (fun b => w.heap.size ≤ b) w' x s ∧ Rdr r mp v ts q w'
    | .error (n, q) => e = .returned (.tuple #[.agg c25, .int .i64 (n : Int)]) ∧ Rdr r mp v ts q w'
set_option maxRecDepth 100000 in
set_option maxHeartbeats 1000000 in
theorem whole_bad (r mp : Nat) (v : Value) (ts : List Mark) (p n q : Nat) (w : World) (h : Rdr r mp v ts p w) (cp : ∀ W, w.grownBy W (some r) → Rdr r mp v ts p W → Calls Tryd.prog 65 #[.pointer (some ⟨r, 0, none⟩), .int .i64 0] W (Post r mp v ts W (.error (n, q)))) : Calls Tryd.prog 36 #[.pointer (some ⟨r, 0, none⟩)] w (PostW r mp v ts w (.error (n, q))) := by
  have hmf : ∀ (fn : Fn) (first cap : Array Value) (w : World), (Instr.makeFunc fn first cap).run Tryd.prog w = .ok (.func fn first cap) w := fun _ _ _ _ => rfl
  have b0 := (Below.refl w.heap.size w).alloc (Nat.le_refl _) (.cells c25 25)
  have b1 := bstep b0 ((Below.refl (w.alloc (.cells c25 25)).heap.size (w.alloc (.cells c25 25))).alloc (Nat.le_refl _) (.cells #[.int .i64 0] 28))
  have cp1 := cp _ (grown_below b1 _) (h.step b1)
  have B1 := hid b1
  have H := hid h
  clear b0 b1 cp h
  go_enter_defers Tryd.func36, Tryd.ntmps36
  go_wp2_with (go_at_call 65; refine cp1.mono ?_; rintro e w2 ⟨g2, rfl, h2⟩; have G2 := hid g2; have H2 := hid h2; clear g2 h2 cp1)
  have X1 := kept (W := (w.alloc (.cells c25 25)).alloc (.cells #[.int .i64 0] 28)) (k := w.heap.size + 1) (o := .cells #[.int .i64 0] 28 (0, 0)) (by have := heap_alloc_new (w.alloc (.cells c25 25)) (.cells #[.int .i64 0] 28); simpa using this) G2.out (by have := H.out.lt; omega)
  have X0 := kept (W := (w.alloc (.cells c25 25)).alloc (.cells #[.int .i64 0] 28)) (k := w.heap.size) (o := .cells c25 25 (0, 0)) (by rw [Below.heap_alloc _ _ _ (by simp)]; exact heap_alloc_new w _) G2.out H.out.lt
  have hc : w2.cell? ⟨w.heap.size + 1, 0, none⟩ = some (.int .i64 0) := by rw [cell_of_row _ _ _ _ 28 (0, 0) X1]; rfl
  have hz : w2.frozen? ⟨w.heap.size + 1, 0, none⟩ = false := frozen_of_row _ _ _ _ _ X1
  refine leaves_cons (f := 64) (args := #[.pointer (some ⟨w.heap.size + 1, 0, none⟩)]) (by simp) (by simp [go_sem]) ?_
  refine (catch_panicking ⟨w.heap.size + 1, 0, none⟩ 0 (n : Int) [] w2 hc hz).mono ?_
  rintro e u' w'' ⟨rfl, rfl, rfl⟩
  have Y0 : (w2.setCell ⟨w.heap.size + 1, 0, none⟩ (.int .i64 (n : Int))).heap[w.heap.size]? = some (.cells c25 25 (0, 0)) := by rw [Below.heap_setCell _ _ _ _ (by show w.heap.size ≠ w.heap.size + 1; omega)]; exact X0
  have Y1 : (w2.setCell ⟨w.heap.size + 1, 0, none⟩ (.int .i64 (n : Int))).cell? ⟨w.heap.size + 1, 0, none⟩ = some (.int .i64 (n : Int)) := World.cell?_setCell_same _ _ _ hc
  have z0 : w2.cell? ⟨w.heap.size, 0, none⟩ = some (.int .u8 0) := by rw [cell_of_row _ _ _ _ 25 (0, 0) X0]; rfl
  have z1 : w2.cell? ⟨w.heap.size, 1, none⟩ = some (.int .i64 0) := by rw [cell_of_row _ _ _ _ 25 (0, 0) X0]; rfl
  have z2 : w2.cell? ⟨w.heap.size, 2, none⟩ = some (.string ⟨#[]⟩) := by rw [cell_of_row _ _ _ _ 25 (0, 0) X0]; rfl
  have z3 : w2.cell? ⟨w.heap.size, 3, none⟩ = some (.slice none 0 0) := by rw [cell_of_row _ _ _ _ 25 (0, 0) X0]; rfl
  have R2 := H.out.other H2.out (b := w.heap.size + 1) (by omega) (set_far w2 _ (.int .i64 (n : Int)))
  have G3 := grown_set (grown_on (grown_below B1.out _) G2.out) (b := w.heap.size + 1) (by omega) (.int .i64 (n : Int))
  simp [Leaves, settle, results, Tryd.results36, go_sem, z0, z1, z2, z3, Y1]
  exact ⟨G3, rfl, R2⟩
set_option maxRecDepth 100000 in
set_option maxHeartbeats 1000000 in
theorem whole_ok (r mp : Nat) (v : Value) (ts : List Mark) (p q : Nat) (x : Ex) (w : World) (h : Rdr r mp v ts p w) (cp : ∀ W, w.grownBy W (some r) → Rdr r mp v ts p W → Calls Tryd.prog 65 #[.pointer (some ⟨r, 0, none⟩), .int .i64 0] W (Post r mp v ts W (.ok (x, q)))) : Calls Tryd.prog 36 #[.pointer (some ⟨r, 0, none⟩)] w (PostW r mp v ts w (.ok (x, q))) := by
  have hmf : ∀ (fn : Fn) (first cap : Array Value) (w : World), (Instr.makeFunc fn first cap).run Tryd.prog w = .ok (.func fn first cap) w := fun _ _ _ _ => rfl
  have b0 := (Below.refl w.heap.size w).alloc (Nat.le_refl _) (.cells c25 25)
  have b1 := bstep b0 ((Below.refl (w.alloc (.cells c25 25)).heap.size (w.alloc (.cells c25 25))).alloc (Nat.le_refl _) (.cells #[.int .i64 0] 28))
  have cp1 := cp _ (grown_below b1 _) (h.step b1)
  have B1 := hid b1
  have H := hid h
  clear b0 b1 cp h
  go_enter_defers Tryd.func36, Tryd.ntmps36
  go_wp2_with (go_at_call 99)
  go_at_call 65
  refine cp1.mono ?_
  rintro e w2 ⟨g2, s, rfl, st, h2⟩
  obtain ⟨ao, cap, rfl⟩ := st.form
  have X1 := kept (W := (w.alloc (.cells c25 25)).alloc (.cells #[.int .i64 0] 28)) (k := w.heap.size + 1) (o := .cells #[.int .i64 0] 28 (0, 0)) (by have := heap_alloc_new (w.alloc (.cells c25 25)) (.cells #[.int .i64 0] 28); simpa using this) g2 (by have := H.out.lt; omega)
  have X0 := kept (W := (w.alloc (.cells c25 25)).alloc (.cells #[.int .i64 0] 28)) (k := w.heap.size) (o := .cells c25 25 (0, 0)) (by rw [Below.heap_alloc _ _ _ (by simp)]; exact heap_alloc_new w _) g2 H.out.lt
  have X1' := (setRow_other w2 w.heap.size _ (ex4 x (.slice ao x.args.length cap)) (show w.heap.size + 1 ≠ w.heap.size by omega)).trans X1
  have y0 : (w2.setRow w.heap.size (ex4 x (.slice ao x.args.length cap))).cell? ⟨w.heap.size + 1, 0, none⟩ = some (.int .i64 0) := by (rw [cell_of_row _ _ _ _ 28 (0, 0) X1']; rfl)
  have y1 : (w2.setRow w.heap.size (ex4 x (.slice ao x.args.length cap))).frozen? ⟨w.heap.size + 1, 0, none⟩ = false := frozen_of_row _ _ _ _ _ X1'
  have G2 := hid g2
  have H2 := hid h2
  have ST := hid st
  clear g2 h2 st cp1
  go_wp2_with (refine wpList_store_row rfl 25 _ _ rfl w.heap.size (ex4 x (.slice ao x.args.length cap)) rfl rfl 25 _ X0 info25 rfl (by simp [Value.oneCell', ex4]) ?_)
  have Y0 : ((w2.setRow w.heap.size (ex4 x (.slice ao x.args.length cap))).setCell ⟨w.heap.size + 1, 0, none⟩ (.int .i64 0)).heap[w.heap.size]? = some (.cells (ex4 x (.slice ao x.args.length cap)) 25 (0, 0)) := by rw [Below.heap_setCell _ _ _ _ (by show w.heap.size ≠ w.heap.size + 1; omega)]; exact setRow_heap _ _ _ _ _ _ X0
  have Y1 : ((w2.setRow w.heap.size (ex4 x (.slice ao x.args.length cap))).setCell ⟨w.heap.size + 1, 0, none⟩ (.int .i64 0)).cell? ⟨w.heap.size + 1, 0, none⟩ = some (.int .i64 0) := World.cell?_setCell_same _ _ _ y0
  have R2 := H.out.other (H.out.setRow H2.out (ex4 x (.slice ao x.args.length cap))) (b := w.heap.size + 1) (by omega) (set_far (w2.setRow w.heap.size (ex4 x (.slice ao x.args.length cap))) _ (.int .i64 0))
  have G3 := grown_set (grown_setRow (grown_on (grown_below B1.out _) G2.out) (ex4 x (.slice ao x.args.length cap))) (b := w.heap.size + 1) (by omega) (.int .i64 0)
  have S3 : StP (fun b => w.heap.size ≤ b) ((w2.setRow w.heap.size (ex4 x (.slice ao x.args.length cap))).setCell ⟨w.heap.size + 1, 0, none⟩ (.int .i64 0)) x (.slice ao x.args.length cap) := by
    refine StP.carryN (fun b hb hl => ?_) (fun b _ hb => ?_) _ x _ (Nat.le_refl _) ST.out
    · simp at hb
      exact (set_far _ _ _ b (by omega)).trans (setRow_other _ _ _ _ (by omega))
    · simp at hb
      show w.heap.size ≤ b
      omega
  clear X0 X1 X1' y0 y1
  generalize (w2.setRow w.heap.size (ex4 x (.slice ao x.args.length cap))).setCell ⟨w.heap.size + 1, 0, none⟩ (.int .i64 0) = w4 at *
  refine leaves_cons (f := 64) (args := #[.pointer (some ⟨w.heap.size + 1, 0, none⟩)]) (by simp) (by simp [go_sem]) ?_
  refine (catch_idle ⟨w.heap.size + 1, 0, none⟩ w4).mono ?_
  rintro e u' w'' ⟨rfl, rfl, rfl⟩
  have z0 : w''.cell? ⟨w.heap.size, 0, none⟩ = some (.int .u8 (x.op : Int)) := by rw [cell_of_row _ _ _ _ 25 (0, 0) Y0]; rfl
  have z1 : w''.cell? ⟨w.heap.size, 1, none⟩ = some (.int .i64 x.n) := by rw [cell_of_row _ _ _ _ 25 (0, 0) Y0]; rfl
  have z2 : w''.cell? ⟨w.heap.size, 2, none⟩ = some (.string x.name) := by rw [cell_of_row _ _ _ _ 25 (0, 0) Y0]; rfl
  have z3 : w''.cell? ⟨w.heap.size, 3, none⟩ = some (.slice ao x.args.length cap) := by rw [cell_of_row _ _ _ _ 25 (0, 0) Y0]; rfl
  simp [Leaves, settle, results, Tryd.results36, go_sem, z0, z1, z2, z3, Y1]
  exact ⟨G3, _, rfl, S3, R2⟩
/-- whole. -/
theorem whole (r mp : Nat) (v : Value) (ts : List Mark) (hT : TsOk ts) (p : Nat) (w : World) (h : Rdr r mp v ts p w) (E : PEnv r mp w) : Calls Tryd.prog 36 #[.pointer (some ⟨r, 0, none⟩)] w (PostW r mp v ts w (P ts 0 p)) := by
  have cp := fun W (g : w.grownBy W (some r)) (hr : Rdr r mp v ts p W) => part_any r mp v ts hT (ts.length + 1) p 0 W (by omega) (by omega) hr (E.grown g)
  cases e : P ts 0 p with
  | error nq =>
    obtain ⟨n, q⟩ := nq
    rw [e] at cp
    exact whole_bad r mp v ts p n q w h cp
  | ok xq =>
    obtain ⟨x, q⟩ := xq
    rw [e] at cp
    exact whole_ok r mp v ts p q x w h cp
end Go.Proofs.YtkieljleopbhoaaDoor.Lex
