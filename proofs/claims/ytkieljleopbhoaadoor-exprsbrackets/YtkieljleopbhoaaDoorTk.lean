/-
  What is written is read again: the tokens of what is worked out, and the plain reader over them.
-/
import Derived.Test.YtkieljleopbhoaaDoorPrsSame
import Derived.Test.YtkieljleopbhoaaDoorWr
import Derived.Test.YtkieljleopbhoaaDoorDig
namespace Go.Proofs.YtkieljleopbhoaaDoor.Lex
open Go.RowKit
theorem isMk_eq (m : Mark) (k : Nat) (t : ByteArray) : isMk m k t = (m.kind == k && m.text.data.toList == t.data.toList) := by unfold isMk; rw [ByteArray.toList_eq, ByteArray.toList_eq]
theorem jAt_eq (m : Mark) : jAt m = JT.find? fun r => r.kind == m.kind && r.text.data.toList == m.text.data.toList := by
  unfold jAt jIs
  simp only [ByteArray.toList_eq]
/-- In brackets, where the place asks for more. -/
def tkp (least rank : Nat) (t : List Mark) : List Mark := if rank < least then ⟨3, sgn [40]⟩ :: (t ++ [⟨3, sgn [41]⟩]) else t
def oneMk (op : Nat) : Mark := if op = 4 then ⟨3, sgn [45]⟩ else if op = 5 then ⟨1, sgn [110, 111, 116]⟩ else ⟨1, sgn [112, 114, 101]⟩
def jMk (j : J) : Mark := ⟨j.kind, j.text⟩
/-- The tokens that it is written by. -/
def tk : Ex → List Mark
  | .mk op n nm [] => if op = 1 then [⟨2, ⟨(Lib.itoa n).toArray⟩⟩] else if op = 2 then [⟨1, ⟨(yesNo (n == 1)).toArray⟩⟩] else [⟨1, nm⟩]
  | .mk op _ _ [a] => oneMk op :: tkp 6 (rkOf a.op) (tk a)
  | .mk op _ _ [a, b] => tkp ((jOf op).getD j0).first (rkOf a.op) (tk a) ++ jMk ((jOf op).getD j0) :: tkp ((jOf op).getD j0).second (rkOf b.op) (tk b)
  | .mk _ _ _ [a, b, c] => ⟨1, sgn [105, 102]⟩ :: (tk a ++ ⟨1, sgn [116, 104, 101, 110]⟩ :: (tk b ++ ⟨1, sgn [101, 108, 115, 101]⟩ :: tk c))
  | .mk _ _ _ _ => []
theorem tk_leaf {x : Ex} (h : x.args = []) : tk x = if x.op = 1 then [⟨2, ⟨(Lib.itoa x.n).toArray⟩⟩] else if x.op = 2 then [⟨1, ⟨(yesNo (x.n == 1)).toArray⟩⟩] else [⟨1, x.name⟩] := by
  obtain ⟨o, n, s, l⟩ := x; cases h; rw [tk]
theorem tk_one {x a : Ex} (h : x.args = [a]) : tk x = oneMk x.op :: tkp 6 (rkOf a.op) (tk a) := by
  obtain ⟨o, n, s, l⟩ := x; cases h; rw [tk]
theorem tk_two {x a b : Ex} (h : x.args = [a, b]) : tk x = tkp ((jOf x.op).getD j0).first (rkOf a.op) (tk a) ++ jMk ((jOf x.op).getD j0) :: tkp ((jOf x.op).getD j0).second (rkOf b.op) (tk b) := by
  obtain ⟨o, n, s, l⟩ := x; cases h; rw [tk]
theorem tk_three {x a b c : Ex} (h : x.args = [a, b, c]) : tk x = ⟨1, sgn [105, 102]⟩ :: (tk a ++ ⟨1, sgn [116, 104, 101, 110]⟩ :: (tk b ++ ⟨1, sgn [101, 108, 115, 101]⟩ :: tk c)) := by
  obtain ⟨o, n, s, l⟩ := x; cases h; rw [tk]
/-- These tokens stand there. -/
def At (ts : List Mark) (p : Nat) (l : List Mark) : Prop := ∃ a b, ts = a ++ l ++ b ∧ a.length = p
theorem At.app {ts : List Mark} {p : Nat} {l m : List Mark} (h : At ts p (l ++ m)) : At ts p l ∧ At ts (p + l.length) m := by
  obtain ⟨a, b, rfl, rfl⟩ := h
  exact ⟨⟨a, m ++ b, by simp, rfl⟩, ⟨a ++ l, b, by simp, by simp⟩⟩
theorem At.cons {ts : List Mark} {p : Nat} {m : Mark} {l : List Mark} (h : At ts p (m :: l)) : markAt ts p = m ∧ p < ts.length ∧ At ts (p + 1) l := by
  obtain ⟨a, b, rfl, rfl⟩ := h
  refine ⟨?_, ?_, ⟨a ++ [m], b, by simp, by simp⟩⟩
  · unfold markAt; simp [List.getD]
  · simp
/-- A part, and how it goes on: with as many steps as it wants. -/
def P (ts : List Mark) (a p : Nat) : Res := prs ts (2 * (ts.length - p) + 2) a none p
def Lp (ts : List Mark) (a : Nat) (x : Ex) (r p : Nat) : Res := prs ts (2 * (ts.length - p) + 1) a (some (x, r)) p
theorem P_if {ts : List Mark} {p : Nat} (h : isMk (markAt ts p) 1 (sgn [105, 102]) = true) : P ts 0 p = choiceR ts (P ts) p := by
  have hl := isMk_lt (by omega) h
  unfold P
  rw [prs, if_pos ⟨rfl, h⟩]
  exact choiceR_congr (part := fun a q => prs ts _ a none q) (prs_far ts _).1 fun a q hq => (prs_same ts _ _).1 a q (by omega) (by omega)
theorem P_atom {ts : List Mark} {a p : Nat} (h : ¬ (a = 0 ∧ isMk (markAt ts p) 1 (sgn [105, 102]) = true)) : P ts a p = (atomR ts (P ts) p).go fun x q => Lp ts a x 7 q := by
  unfold P
  rw [prs, if_neg h]
  refine Res.go_congr (atomR_congr fun hl a q hq => (prs_same ts _ _).1 a q (by omega) (by omega)) fun x q h1 => ?_
  have := atomR_far (part := fun a q => prs ts _ a none q) (prs_far ts _).1 h1
  unfold Lp
  exact (prs_same ts _ _).2 _ _ _ (by omega) (by omega)
theorem Lp_none {ts : List Mark} {a r p : Nat} {x : Ex} (h : jAt (markAt ts p) = none) : Lp ts a x r p = .ok (x, p) := by
  unfold Lp
  rw [prs, h]
theorem Lp_stop {ts : List Mark} {a r p : Nat} {x : Ex} {j : J} (h : jAt (markAt ts p) = some j) (hr : j.rank < a ∨ r < j.first) : Lp ts a x r p = .ok (x, p) := by
  unfold Lp
  rw [prs, h]
  simp only
  rw [if_pos hr]
theorem Lp_go {ts : List Mark} {a r p : Nat} {x : Ex} {j : J} (h : jAt (markAt ts p) = some j) (h1 : a ≤ j.rank) (h2 : j.first ≤ r) : Lp ts a x r p = (P ts j.second (p + 1)).go fun y q => Lp ts a ⟨j.op, 0, ByteArray.empty, [x, y]⟩ j.rank q := by
  have hl := jAt_lt h
  unfold Lp
  rw [prs, h]
  simp only
  rw [if_neg (by omega)]
  refine Res.go_congr ((prs_same ts _ _).1 _ _ (by omega) (by omega)) fun y q h3 => ?_
  have := (prs_far ts _).1 _ _ _ _ h3
  exact (prs_same ts _ _).2 _ _ _ (by omega) (by omega)
/-- The table's own laws. -/
theorem JT_laws : ∀ j ∈ JT, j.rank ≤ j.first ∧ 1 ≤ j.first ∧ j.first ≤ 5 ∧ j.rank ≤ 5 ∧ (j.second = j.rank + 1 ∨ (j.rank = 0 ∧ j.second = 0)) ∧ jOf j.op = some j ∧ jAt (jMk j) = some j ∧ j.op ≠ 17 ∧ j.op < 256 := by
  have e : ∀ j : J, (jMk j).kind = j.kind := fun _ => rfl
  intro j hj
  simp only [JT, List.mem_cons, List.not_mem_nil, or_false] at hj
  rcases hj with rfl | rfl | rfl | rfl | rfl | rfl | rfl | rfl | rfl | rfl | rfl | rfl <;> (refine ⟨by decide, by decide, by decide, by decide, by decide, rfl, by rw [jAt_eq]; rfl, by decide, by decide⟩)
theorem jAt_mem {m : Mark} {j : J} (h : jAt m = some j) : j ∈ JT := List.mem_of_find?_eq_some h
theorem jOf_mem {op : Nat} {j : J} (h : jOf op = some j) : j ∈ JT ∧ j.op = op := ⟨List.mem_of_find?_eq_some h, by simpa using List.find?_some h⟩
/-- The rank by which it goes on. -/
def rkL (op : Nat) : Nat := match jOf op with
  | some r => r.rank
  | none => 7
theorem rkL_le (op : Nat) : rkOf op ≤ rkL op := by
  unfold rkOf rkL
  cases jOf op with
  | some r => exact Nat.le_refl _
  | none => simp only; split; omega; split <;> omega
theorem rkOf_le (op : Nat) : rkOf op ≤ 7 := by
  unfold rkOf
  cases h : jOf op with
  | some r => have := JT_laws r (jOf_mem h).1; simp only; omega
  | none => simp only; split; omega; split <;> omega
/-- It is read where its tokens stand, and goes on from there. -/
def T (x : Ex) : Prop := ∀ ts p a, a ≤ rkOf x.op → At ts p (tk x) → (∀ j, jAt (markAt ts (p + (tk x).length)) = some j → j.first ≤ rkOf x.op) →
  P ts a p = if x.op = 17 then .ok (x, p + (tk x).length) else Lp ts a x (rkL x.op) (p + (tk x).length)
theorem rk17 : rkOf 17 = 0 := by decide
/-- What is read by a place that asks for nothing, ahead of what does not go on. -/
theorem T.all {x : Ex} (h : T x) {ts : List Mark} {p : Nat} (hA : At ts p (tk x)) (hn : jAt (markAt ts (p + (tk x).length)) = none) : P ts 0 p = .ok (x, p + (tk x).length) := by
  rw [h ts p 0 (Nat.zero_le _) hA (fun j hj => by rw [hn] at hj; cases hj)]
  split
  · rfl
  · exact Lp_none hn
theorem mk_no (m : Mark) (k : Nat) (t : ByteArray) (h : m.kind ≠ k) : isMk m k t = false := by
  unfold isMk
  simp [h]
theorem atom_open {ts : List Mark} {p q : Nat} {x : Ex} (hm : markAt ts p = ⟨3, sgn [40]⟩) (h1 : P ts 0 (p + 1) = .ok (x, q)) (h2 : markAt ts q = ⟨3, sgn [41]⟩) : atomR ts (P ts) p = .ok (x, q + 1) := by
  unfold atomR
  simp only
  rw [hm, if_neg (by rw [isMk_eq]; decide), if_neg (by rw [isMk_eq]; decide), if_pos (by rw [isMk_eq]; decide), h1, Res.go_ok]
  unfold passR
  rw [h2, if_pos (by rw [isMk_eq]; decide)]
/-- In its place, with brackets or without. -/
theorem T.place {x : Ex} (h : T x) {ts : List Mark} {p a least : Nat} (hl : least ≤ 7) (ha : a ≤ least) (hA : At ts p (tkp least (rkOf x.op) (tk x))) (hf : least ≤ rkOf x.op → ∀ j, jAt (markAt ts (p + (tkp least (rkOf x.op) (tk x)).length)) = some j → j.first ≤ rkOf x.op) :
    (∃ r, least ≤ r ∧ P ts a p = Lp ts a x r (p + (tkp least (rkOf x.op) (tk x)).length)) ∨ (least = 0 ∧ P ts a p = .ok (x, p + (tkp least (rkOf x.op) (tk x)).length)) := by
  by_cases hb : rkOf x.op < least
  · have e : tkp least (rkOf x.op) (tk x) = ⟨3, sgn [40]⟩ :: (tk x ++ [⟨3, sgn [41]⟩]) := by unfold tkp; rw [if_pos hb]
    rw [e] at hA ⊢
    obtain ⟨h1, _, h3⟩ := hA.cons
    obtain ⟨h4, h5⟩ := h3.app
    obtain ⟨h6, _, _⟩ := h5.cons
    have hp := T.all h h4 (by rw [h6, jAt_eq]; decide)
    refine .inl ⟨7, hl, ?_⟩
    rw [P_atom (by rw [h1]; intro hc; exact absurd hc.2 (by rw [isMk_eq]; decide)), atom_open h1 hp h6, Res.go_ok]
    simp only [List.length_cons, List.length_append, List.length_nil]
    rw [show p + 1 + (tk x).length + 1 = p + ((tk x).length + (0 + 1) + 1) by omega]
  · have e : tkp least (rkOf x.op) (tk x) = tk x := by unfold tkp; rw [if_neg hb]
    rw [e] at hA hf ⊢
    have := h ts p a (by omega) hA (hf (by omega))
    by_cases h17 : x.op = 17
    · rw [if_pos h17] at this
      rw [h17, rk17] at hb
      exact .inr ⟨by omega, this⟩
    · rw [if_neg h17] at this
      exact .inl ⟨rkL x.op, by have := rkL_le x.op; omega, this⟩
end Go.Proofs.YtkieljleopbhoaaDoor.Lex
