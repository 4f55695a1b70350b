/-
  The least guard that clocks keep: what it is.
-/
import Derived.Test.YtobmnndimlhfpaaGreatDoorPln
namespace Go.Proofs.YtobmnndimlhfpaaGreatDoor.Slo
open Go.ChangeShapes Go.WideShapes Go.ChangeAt Go.RowKit Go.Joins
/-- The last round. -/
def RD (s : Su) (r : List Int) (g : Int) : Int := rdN s r g r.length
theorem rdN_mono {s : Su} {r : List Int} {g g' : Int} (h : g ≤ g') : ∀ k, rdN s r g k ≤ rdN s r g' k
  | 0 => by simp [rdN]
  | k + 1 => by
    have ih := rdN_mono (s := s) (r := r) h k
    simp only [rdN]
    omega
theorem RD_le {s : Su} {r : List Int} {g : Int} (hm : mayF s r = true) (hg : 0 ≤ g ∧ g ≤ 1073741824) : 0 ≤ RD s r g ∧ RD s r g ≤ 1099511627776 := by
  obtain ⟨h1, h2, h3⟩ := mayF_iff.1 hm
  have h4 := wi_iff.1 h2
  have h := rdN_le (T := 102148483648) h1 h3 hg.1 (by omega) r.length (Nat.le_refl _)
  have h5 : (r.length : Int) * 102148483648 ≤ 8 * 102148483648 := Int.mul_le_mul_of_nonneg_right h4.2 (by decide)
  unfold RD
  omega
theorem sk_mono {s : Su} {x y : Int} (hs : chk s = true) (h0 : 0 ≤ x) (h : x ≤ y) (hy : y ≤ 1099511627776) : sk s x ≤ sk s y := by
  have h1 : wi x 0 1099511627776 = true := wi_iff.2 ⟨h0, by omega⟩
  have h2 : wi y 0 1099511627776 = true := wi_iff.2 ⟨by omega, hy⟩
  unfold sk
  rw [if_pos ⟨hs, h1⟩, if_pos ⟨hs, h2⟩]
  have h3 : s.d * x ≤ s.d * y := Int.mul_le_mul_of_nonneg_left h (chk_iff.1 hs).2.2.2.1.1
  have h4 : 0 ≤ s.d * x := Int.mul_nonneg (chk_iff.1 hs).2.2.2.1.1 h0
  unfold ru
  generalize s.d * x = u at *
  generalize s.d * y = v at *
  omega
/-- Clocks keep a guard. -/
def Fine (s : Su) (r : List Int) (g : Int) : Prop := sk s (RD s r g) ≤ g
/-- None less. -/
def LB (s : Su) (r : List Int) (g : Int) : Prop := ∀ x, 0 ≤ x → x ≤ 1073741824 → Fine s r x → g ≤ x
/-- There is none. -/
def NoG (s : Su) (r : List Int) : Prop := ∀ x, 0 ≤ x → x ≤ 1073741824 → ¬ Fine s r x
structure Lea (s : Su) (r : List Int) (g : Int) : Prop where
  lo : 0 ≤ g
  hi : g ≤ 1073741824
  fine : Fine s r g
  lb : LB s r g
theorem LB.step {s : Su} {r : List Int} {g : Int} (hm : mayF s r = true) (h0 : 0 ≤ g) (h : LB s r g) : LB s r (sk s (RD s r g)) := fun x hx hx2 hf => by
  have h1 := h x hx hx2 hf
  have h2 : RD s r g ≤ RD s r x := rdN_mono h1 _
  have h3 := RD_le hm ⟨h0, by omega⟩
  have h4 := RD_le hm ⟨hx, hx2⟩
  exact Int.le_trans (sk_mono (mayF_iff.1 hm).1 h3.1 h2 h4.2) hf
/-- What is there in the search: the setup, the answer's variable, the plan. -/
structure LgI (W wr : World) (s : Su) (P : Nat) (C : Array Value) : Prop where
  box : wr.heap[W.heap.size]? = some (.cells (suC s) 23 (0, 0))
  res : wr.heap[W.heap.size + 1]? = some (.cells zC 69 (0, 0))
  pl : wr.heap[P]? = some (.cells C 69 (0, 0))
  ge : W.heap.size + 1 < P
  below : Below W.heap.size W wr
theorem LgI.keep {W wr w2 : World} {s : Su} {P : Nat} {C : Array Value} (h : LgI W wr s P C) (hb : Below wr.heap.size wr w2) : LgI W w2 s P C :=
  ⟨keep_row h.box hb, keep_row h.res hb, keep_row h.pl hb, h.ge, h.below.trans (hb.mono h.below.size)⟩
theorem LgI.set {W wr : World} {s : Su} {P : Nat} {C : Array Value} (h : LgI W wr s P C) (D : Array Value) : LgI W (wr.setRow P D) s P D :=
  ⟨by rw [setRow_other _ _ _ _ (by have := h.ge; omega)]; exact h.box, by rw [setRow_other _ _ _ _ (by have := h.ge; omega)]; exact h.res, setRow_heap _ _ _ _ _ _ h.pl, h.ge, below_row h.below h.below.size (by have := h.ge; omega) _⟩
/-- The guard of the plan in memory. -/
def gOf (w : World) (P : Nat) : Int := intOf ((w.cell? ⟨P, 26, none⟩).getD undef)
theorem LgI.g {W wr : World} {s : Su} {P : Nat} {r : List Int} {n g : Int} {k : Nat} (h : LgI W wr s P (plA s r n g k)) : gOf wr P = g := by
  unfold gOf
  rw [cell_of_row _ _ _ _ 69 (0, 0) h.pl, plA_at _ _ _ _ _ (by omega)]
  simp [plZ, intOf]
theorem results_row_tmp {fn : Func} {p u : Tmp} {ty : TypeId} {P : Program} (h : fn.results = #[.cell p ty, .tmp u]) (tmps : Array Value) (w : World) (g : Nat) (cs : Array Value)
    (hp : tmps.getD p undef = .pointer (some ⟨g, 0, none⟩)) (hl : (loadVar ty ⟨g, 0, none⟩).run P w = .ok (.agg cs) w) : (results fn tmps).run P w = .ok (.tuple #[.agg cs, tmps.getD u undef]) w := by
  rw [results_cell_tmp h, hp]
  simp only [asAddr, Sem.run_pure, Result.andThen_ok, hl]
end Go.Proofs.YtobmnndimlhfpaaGreatDoor.Slo
