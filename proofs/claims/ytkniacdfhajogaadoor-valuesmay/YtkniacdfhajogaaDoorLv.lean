/-
  A world that a law has come to: its variables, and the rows of values that it has made.
-/
import Derived.Test.YtkniacdfhajogaaDoorAlive
import Derived.Great.BuildSlice
namespace Go.Proofs.YtkniacdfhajogaaDoor.Val
open Go.ChangeShapes Go.WideShapes Go.ChangeAt Go.RowKit Go.Joins
/-- The cells of values in a row. -/
def cellsOf : List Vl → List Value
  | [] => []
  | v :: l => .int .u8 (v.ty : Int) :: .int .i64 v.n :: cellsOf l
/-- A slice of values that was built. -/
abbrev slV (l : List Vl) (b : Nat) : Value := .slice (some ⟨b, 0, none⟩) l.length l.length
/-- A world that a law has come to: L its variables, M the slices that were built. -/
structure LV (w : World) (B : Nat) (L : List (Nat × Vl)) (M : List (List Vl × Nat)) (W : World) : Prop where
  tab : TabP W
  below : Below w.heap.size w W
  base : B ≤ W.heap.size
  rows : ∀ p ∈ L, W.heap[p.1]? = some (.cells (vC p.2) 24 (0, 0))
  sl : ∀ p ∈ M, VSl W p.1 (slV p.1 p.2)
theorem LV.start {w : World} (h : TabP w) : LV w 0 [] [] w := ⟨h, Below.refl _ _, Nat.zero_le _, fun _ hp => (List.not_mem_nil hp).elim, fun _ hp => (List.not_mem_nil hp).elim⟩
theorem LV.step {w W W' : World} {B : Nat} {L : List (Nat × Vl)} {M : List (List Vl × Nat)} (h : LV w B L M W) (b : Below W.heap.size W W') : LV w B L M W' :=
  ⟨h.tab.below b, bstep h.below b h.below.size, Nat.le_trans h.base b.size, fun p hp => keep_row (h.rows p hp) b, fun p hp => (h.sl p hp).keep b⟩
theorem LV.drew {w W : World} {B : Nat} {L : List (Nat × Vl)} {M : List (List Vl × Nat)} (h : LV w B L M W) : LV w B L M W.drew := h.step (Below.refl _ _).drew
theorem LV.alloc {w W : World} {B : Nat} {L : List (Nat × Vl)} {M : List (List Vl × Nat)} (h : LV w B L M W) (o : Obj) : LV w B L M (W.alloc o) := h.step ((Below.refl _ _).alloc (Nat.le_refl _) _)
theorem LV.rebase {w W : World} {B : Nat} {L : List (Nat × Vl)} {M : List (List Vl × Nat)} (h : LV w B L M W) : LV w W.heap.size L M W := ⟨h.tab, h.below, Nat.le_refl _, h.rows, h.sl⟩
theorem LV.less {w W : World} {B : Nat} {L L2 : List (Nat × Vl)} {M M2 : List (List Vl × Nat)} (h : LV w B L M W) (h1 : ∀ p ∈ L2, p ∈ L) (h2 : ∀ p ∈ M2, p ∈ M) : LV w B L2 M2 W := ⟨h.tab, h.below, h.base, fun p hp => h.rows p (h1 p hp), fun p hp => h.sl p (h2 p hp)⟩
/-- A variable more. -/
theorem LV.push {w W : World} {B : Nat} {L : List (Nat × Vl)} {M : List (List Vl × Nat)} (h : LV w B L M W) (v : Vl) {b : Nat} (hb : W.heap.size = b) : LV w B ((b, v) :: L) M (W.alloc (.cells (vC v) 24)) := by
  have k := h.alloc (.cells (vC v) 24)
  refine ⟨k.tab, k.below, k.base, fun p hp => ?_, k.sl⟩
  rcases List.mem_cons.1 hp with rfl | hp
  · exact push_new _ _ _ hb
  · exact k.rows p hp
theorem cellsOf_at : ∀ (l : List Vl) (i : Nat) (h : i < l.length), (cellsOf l)[i * 2]? = some (.int .u8 (l[i].ty : Int)) ∧ (cellsOf l)[i * 2 + 1]? = some (.int .i64 l[i].n)
  | v :: l, 0, _ => ⟨rfl, rfl⟩
  | v :: l, i + 1, h => by
    have := cellsOf_at l i (by simpa using h)
    rw [Nat.succ_mul]
    exact this
/-- A slice that was built. -/
theorem LV.build {w W : World} {B : Nat} {L : List (Nat × Vl)} {M : List (List Vl × Nat)} (h : LV w B L M W) (l : List Vl) (hl : l.length ≤ 1000) {b : Nat} (hb : W.heap.size = b) : LV w B L ((l, b) :: M) (W.alloc (.cells ⟨cellsOf l⟩ 24)) := by
  have k := h.alloc (.cells ⟨cellsOf l⟩ 24)
  refine ⟨k.tab, k.below, k.base, k.rows, fun p hp => ?_⟩
  rcases List.mem_cons.1 hp with rfl | hp
  · refine ⟨_, _, rfl, by show l.length ≤ _; omega, .inr ⟨b, 0, rfl, fun i hi => ?_⟩⟩
    have X : (W.alloc (.cells ⟨cellsOf l⟩ 24)).heap[b]? = _ := push_new _ _ _ hb
    rw [cell_of_row _ _ _ _ 24 (0, 0) X, cell_of_row _ _ _ _ 24 (0, 0) X, Nat.zero_add]
    have := cellsOf_at l i hi
    exact ⟨by simpa using this.1, by simpa using this.2⟩
  · exact k.sl p hp
/-- A variable of this region, given its value. -/
theorem LV.setRow {w W W0 : World} {B0 : Nat} {L : List (Nat × Vl)} {M M0 : List (List Vl × Nat)} {kl : Nat} {c0 : Vl} (h0 : LV w B0 L M0 W0) (h : LV w W0.heap.size ((kl, c0) :: L) M W) (hk : W0.heap.size ≤ kl) (v : Vl) : LV w W0.heap.size ((kl, v) :: L) [] (W.setRow kl (vC v)) := by
  have hr := h.rows (kl, c0) List.mem_cons_self
  have hs := h0.below.size
  have b1 := below_row h.below h.below.size (b := kl) (by omega) (vC v)
  refine ⟨?_, b1, ?_, fun p hp => ?_, fun _ hp => (List.not_mem_nil hp).elim⟩
  · have ht := h.tab
    have ht0 := h0.tab
    unfold TabP Lib.TabIs World.var? at ht ht0 ⊢
    rw [gPow] at ht ht0 ⊢
    simp only [Option.bind_some] at ht ht0 ⊢
    have l0 : 0 < W0.heap.size := by
      by_cases hl : 0 < W0.heap.size
      · exact hl
      · rw [Array.getElem?_eq_none (by omega)] at ht0; cases ht0
    rw [setRow_other _ _ _ _ (by omega)]
    exact ht
  · have : (W.setRow kl (vC v)).heap.size = W.heap.size := by simp [World.setRow]
    rw [this]; exact h.base
  · rcases List.mem_cons.1 hp with rfl | hp
    · exact setRow_heap _ _ _ _ _ _ hr
    · have hlt := (Array.getElem?_eq_some_iff.1 (h0.rows p hp)).1
      rw [setRow_other _ _ _ _ (by omega)]
      exact h.rows p (List.mem_cons_of_mem _ hp)
theorem LV.cs {w W : World} {B : Nat} {L : List (Nat × Vl)} {M : List (List Vl × Nat)} (h : LV w B L M W) (b : Nat) (v : Vl) (hm : (b, v) ∈ L) : W.cell? ⟨b, 0, none⟩ = some (.int .u8 (v.ty : Int)) ∧ W.cell? ⟨b, 1, none⟩ = some (.int .i64 v.n) := row2 (h.rows _ hm)
theorem ldo_sl {w W : World} {B : Nat} {L : List (Nat × Vl)} {M : List (List Vl × Nat)} (h : LV w B L M W) (o : Nat) (l : List Vl) (b : Nat) (hm : (l, b) ∈ M) : Calls Tryd.prog 13 #[.int .u8 (o : Int), slV l b] W fun e w' => e = .returned (vV (doE o l)) ∧ Below W.heap.size W w' := ldo_at o l _ _ (h.sl _ hm)
end Go.Proofs.YtkniacdfhajogaaDoor.Val
