/-
  When a table fits; slots that are read.
-/
import Derived.Test.YtobmnndimlhfpaaGreatDoorMake
namespace Go.Proofs.YtobmnndimlhfpaaGreatDoor.Slo
open Go.ChangeShapes Go.WideShapes Go.ChangeAt Go.RowKit Go.Joins
abbrev Sl := Int × Int × Int
def sO (l : List Sl) (k : Nat) : Int := (l.getD k (0, 0, 0)).1
def sS (l : List Sl) (k : Nat) : Int := (l.getD k (0, 0, 0)).2.1
def sH (l : List Sl) (k : Nat) : Int := (l.getD k (0, 0, 0)).2.2
/-- The Shut of the slot ahead. -/
def pv (l : List Sl) : Nat → Int
  | 0 => 0
  | k + 1 => sH l k
structure OkS (s : Su) (r : List Int) (l : List Sl) (G : Int) (k : Nat) : Prop where
  o : 0 ≤ sO l k ∧ sO l k ≤ 1125899906842624
  e : 0 ≤ sS l k ∧ sS l k ≤ 1125899906842624
  h : 0 ≤ sH l k ∧ sH l k ≤ 1125899906842624
  p : pv l k ≤ sO l k
  g : sO l k + G ≤ sS l k
  t : sS l k + ga r k * s.b + s.f + G ≤ sH l k
/-- A table fits. -/
structure FitP (s : Su) (r : List Int) (l : List Sl) (R G : Int) : Prop where
  may : mayF s r = true
  len : l.length = r.length
  gg : 0 ≤ G ∧ G ≤ 1125899906842624
  rr : 0 ≤ R ∧ R ≤ 1099511627776
  sk : sk s R ≤ G
  each : ∀ k, k < l.length → OkS s r l G k
  last : pv l l.length ≤ R
/-- Slots that are read. -/
def SlR (W : World) (lo : Nat) (v : Value) (l : List Sl) : Prop := ∃ ao c, v = .slice ao l.length c ∧ l.length ≤ c ∧ (c ≤ 9223372036854775807 ∧ l.length ≤ 17592186044416) ∧ (l = [] ∨ ∃ b o, ao = some ⟨b, o, none⟩ ∧ b < lo ∧ ∀ i, i < l.length → W.cell? ⟨b, o + i * 3, none⟩ = some (.int .i64 (sO l i)) ∧ W.cell? ⟨b, o + i * 3 + 1, none⟩ = some (.int .i64 (sS l i)) ∧ W.cell? ⟨b, o + i * 3 + 2, none⟩ = some (.int .i64 (sH l i)))
theorem SlR.keep {W W' : World} {lo : Nat} {v : Value} {l : List Sl} (h : SlR W lo v l) (hb : Below lo W W') : SlR W' lo v l := by
  obtain ⟨ao, c, e, h1, h2, h3⟩ := h
  refine ⟨ao, c, e, h1, h2, h3.elim .inl fun ⟨b, o, e, hb', hc⟩ => .inr ⟨b, o, e, hb', fun i hi => ?_⟩⟩
  obtain ⟨c0, c1, c2⟩ := hc i hi
  exact ⟨(hb.cell (p := ⟨b, _, none⟩) hb').trans c0, (hb.cell (p := ⟨b, _, none⟩) hb').trans c1, (hb.cell (p := ⟨b, _, none⟩) hb').trans c2⟩
theorem SlR.up {W : World} {lo lo' : Nat} {v : Value} {l : List Sl} (h : SlR W lo v l) (hl : lo ≤ lo') : SlR W lo' v l := by
  obtain ⟨ao, c, e, h1, h2, h3⟩ := h
  exact ⟨ao, c, e, h1, h2, h3.elim .inl fun ⟨b, o, e, hb', hc⟩ => .inr ⟨b, o, e, by omega, hc⟩⟩
theorem SlR.keepW {W W' : World} {v : Value} {l : List Sl} (h : SlR W W.heap.size v l) (hb : Below W.heap.size W W') : SlR W' W'.heap.size v l := (h.keep hb).up hb.size
abbrev tbC (u : Value) (R G : Int) : Array Value := #[u, .int .i64 R, .int .i64 G]
abbrev slC (o e h : Int) : Array Value := #[.int .i64 o, .int .i64 e, .int .i64 h]
theorem tb_cells {w : World} {B : Nat} {u : Value} {R G : Int} (h : w.heap[B]? = some (.cells (tbC u R G) 27 (0, 0))) : w.cell? ⟨B, 0, none⟩ = some u ∧ w.cell? ⟨B, 1, none⟩ = some (.int .i64 R) ∧ w.cell? ⟨B, 2, none⟩ = some (.int .i64 G) :=
  ⟨by rw [cell_of_row _ _ _ _ 27 (0, 0) h]; rfl, by rw [cell_of_row _ _ _ _ 27 (0, 0) h]; rfl, by rw [cell_of_row _ _ _ _ 27 (0, 0) h]; rfl⟩
theorem sl_cells {w : World} {B : Nat} {o e x : Int} (h : w.heap[B]? = some (.cells (slC o e x) 64 (0, 0))) : w.cell? ⟨B, 0, none⟩ = some (.int .i64 o) ∧ w.cell? ⟨B, 1, none⟩ = some (.int .i64 e) ∧ w.cell? ⟨B, 2, none⟩ = some (.int .i64 x) :=
  ⟨by rw [cell_of_row _ _ _ _ 64 (0, 0) h]; rfl, by rw [cell_of_row _ _ _ _ 64 (0, 0) h]; rfl, by rw [cell_of_row _ _ _ _ 64 (0, 0) h]; rfl⟩
/-- A row of ints that was made just now. -/
theorem rd_new {w : World} {b : Nat} (r : List Int) (t : TypeId) (h8 : r.length ≤ 1000) (h : w.heap[b]? = some (.cells (ints r).toArray t (0, 0))) : Rd w (b + 1) (.slice (some ⟨b, 0, none⟩) r.length r.length) r :=
  ⟨_, _, rfl, Nat.le_refl _, by omega, .inr ⟨b, 0, rfl, by omega, fun i hi => by rw [cell_of_row _ _ _ _ t (0, 0) h]; simp [ints, ga, hi]⟩⟩
theorem cell_lt {w : World} {b o : Nat} {v : Value} (h : w.cell? ⟨b, o, none⟩ = some v) : b < w.heap.size := by
  refine Decidable.byContradiction fun hb => ?_
  unfold World.cell? at h
  simp [Array.getElem?_eq_none (show w.heap.size ≤ b by omega)] at h
theorem tk2 {a b : Int} : tkAll [a, b] = true ↔ (0 ≤ a ∧ a ≤ 1125899906842624) ∧ (0 ≤ b ∧ b ≤ 1125899906842624) := by simp [tkAll_iff]
theorem tk3 {a b c : Int} : tkAll [a, b, c] = true ↔ (0 ≤ a ∧ a ≤ 1125899906842624) ∧ (0 ≤ b ∧ b ≤ 1125899906842624) ∧ (0 ≤ c ∧ c ≤ 1125899906842624) := by simp [tkAll_iff]
end Go.Proofs.YtobmnndimlhfpaaGreatDoor.Slo
