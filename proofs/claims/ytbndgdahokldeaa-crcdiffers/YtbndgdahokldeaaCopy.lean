/-
  The copy that TwinBytes makes, as the statements of this seat ask it.
-/
import Derived.Test.YtbndgdahokldeaaCame
namespace Go.Proofs.Ytbndgdahokldeaa.Crc
open Go.ChangeShapes Go.WideShapes Go.ChangeAt Go.RowKit
/-- The copy that TwinBytes made, in block g: its bytes, the mark behind them, none of them frozen. -/
structure Copy (w : World) (g len : Nat) (l : List Int) : Prop where
  cells : ∀ i, i < len → w.cell? ⟨g, i, none⟩ = some (.int .u8 (l.getD i 0))
  mark : w.cell? ⟨g, len, none⟩ = some (.int .u8 77)
  free : ∀ i, i < len + 1 → w.frozen? ⟨g, i, none⟩ = false
theorem Copy.elems {w w0 : World} {g len : Nat} {a : Option Addr} {l : List Int} (h : Copy w g len l) (hE : Elems w0 a len l) : Elems w (some ⟨g, 0, none⟩) len l :=
  ⟨hE.1, hE.2.1, hE.2.2.1, .inr ⟨g, 0, rfl, fun i hi => by rw [Nat.zero_add]; exact h.cells i hi⟩⟩
theorem Copy.below {w w' : World} {g len B : Nat} {l : List Int} (h : Copy w g len l) (hb : Below B w w') (hB : w.heap.size ≤ B) : Copy w' g len l := by
  have hg := World.block_lt_of_cell? w _ h.mark
  have hg' : g < w.heap.size := hg
  refine ⟨fun i hi => ?_, ?_, fun i hi => ?_⟩
  · rw [hb.cell (p := ⟨g, i, none⟩) (by show g < B; omega)]; exact h.cells i hi
  · rw [hb.cell (p := ⟨g, len, none⟩) (by show g < B; omega)]; exact h.mark
  · rw [hb.frozen (p := ⟨g, i, none⟩) (by show g < B; omega)]; exact h.free i hi
theorem twin (a : Option Addr) (len cap : Nat) (l : List Int) (w : World) (g : Nat) (hg : w.heap.size = g) (hE : Elems w a len l) :
    Calls Try.prog 10 #[.slice a len cap] w fun e w' => e = .returned (.slice (some ⟨g, 0, none⟩) len (len + 1)) ∧ Copy w' g len l ∧ Below g w w' := by
  subst hg
  refine (w10 a len cap l w hE).mono ?_
  rintro e w' ⟨he, hown, hb⟩
  have hl := hE.1
  refine ⟨he, ⟨fun i hi => ?_, ?_, fun i hi => ?_⟩, hb⟩
  · rw [own_cell hown i (by simp; omega), getD_append_left l 77 i (by omega)]
  · rw [own_cell hown len (by simp; omega), ← hl, getD_append_last]
  · obtain ⟨_, h2⟩ := hown
    rcases h2 with ⟨h2, _⟩ | ⟨g', cap', cur, hv, _, hh, _⟩
    · cases h2
    · simp only [Value.slice.injEq, Option.some.injEq, Addr.mk.injEq, and_true, true_and] at hv
      obtain ⟨rfl, rfl⟩ := hv
      exact frozen_of_row _ _ _ _ _ hh
theorem left (g : Nat) (a : Option Addr) (len cap : Nat) (l : List Int) (w : World) (hE : Elems w a len l) (hc : Copy w g len l) :
    Calls Try.prog 15 #[.slice (some ⟨g, 0, none⟩) len (len + 1), .slice a len cap] w fun e w' => e = .returned (.bool true) ∧ Below w.heap.size w w' :=
  (w15 g a len cap l w hE hc.cells hc.mark).mono fun e w' ⟨h1, n, h2⟩ => ⟨h1, by rw [h2]; exact below_drewN (Below.refl _ _) n⟩
theorem bstep {a w w' : World} (h : Below a.heap.size a w) (k : Below w.heap.size w w') : Below a.heap.size a w' := h.trans (k.mono h.size)
theorem one_size (n : Nat) (h : n ≤ 140737488351232) : ∀ x ∈ [(n : Int)], 0 ≤ x ∧ x ≤ 140737488355328 := by simp; omega
theorem one_cell (w : World) (n : Nat) : ∀ i, i < 1 → (w.alloc (.cells #[.int .i64 (n : Int)] 3)).cell? ⟨w.heap.size, 0 + i, none⟩ = some (.int .i64 ([(n : Int)].getD i 0)) := by
  intro i hi
  obtain rfl : i = 0 := by omega
  simp
end Go.Proofs.Ytbndgdahokldeaa.Crc
