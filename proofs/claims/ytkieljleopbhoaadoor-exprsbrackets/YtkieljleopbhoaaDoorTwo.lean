/-
  What has two parts, in new memory.
-/
import Derived.Test.YtkieljleopbhoaaDoorAtomD
namespace Go.Proofs.YtkieljleopbhoaaDoor.Lex
open Go.ChangeShapes Go.WideShapes Go.ChangeAt Go.RowKit Go.Joins
theorem fill2 (x y : Ex) (a b : Option Addr) (l m i j : Nat) : Instr.fill (fun i => some (i * 4, 4)) ((Array.range (2 * 4)).map (z25.cells[· % z25.cells.size]!)) [(0, exV x (.slice a l i)), (1, exV y (.slice b m j))] = some (ex4 x (.slice a l i) ++ ex4 y (.slice b m j)) := by
  have e : ((Array.range (2 * 4)).map (z25.cells[· % z25.cells.size]!)) = #[.int .u8 0, .int .i64 0, .string ⟨#[]⟩, .slice none 0 0, .int .u8 0, .int .i64 0, .string ⟨#[]⟩, .slice none 0 0] := by kernel_rfl
  rw [e]
  simp only [Instr.fill, show (exV x (.slice a l i)).cells = ex4 x (.slice a l i) from rfl, show (exV y (.slice b m j)).cells = ex4 y (.slice b m j) from rfl, ex4, fold4]
  simp
theorem StP.two {ok : Nat → Prop} {W : World} {x y : Ex} {s t : Value} (op : Nat) (hop : op < 256) (g : Nat) (hg : ok g) (hx : StP ok W x s) (hy : StP ok W y t) (hc : W.heap[g]? = some (.cells (ex4 x s ++ ex4 y t) 25 (0, 0))) : StP ok W ⟨op, 0, ByteArray.empty, [x, y]⟩ (.slice (some ⟨g, 0, none⟩) 2 2) := by
  refine StP.intro ⟨op, 0, ByteArray.empty, [x, y]⟩ (some ⟨g, 0, none⟩) 2 (fun i => [s, t].getD i s) hop (by simp) (by show ByteArray.empty.size ≤ _; decide) (by simp) (by simp) (.inr ⟨g, 0, rfl, hg, fun i hi => ?_⟩) (fun i hi => ?_)
  · have hi2 : i < 2 := hi
    rcases (by omega : i = 0 ∨ i = 1) with rfl | rfl <;> refine ⟨?_, ?_, ?_, ?_⟩ <;> (rw [cell_of_row _ _ _ _ 25 (0, 0) hc]; rfl)
  · have hi2 : i < 2 := hi
    rcases (by omega : i = 0 ∨ i = 1) with rfl | rfl
    · exact hx
    · exact hy
theorem Rdr.setRowAt {r mp : Nat} {v : Value} {ts : List Mark} {p q : Nat} {w W : World} (h : Rdr r mp v ts p w) (h2 : Rdr r mp v ts q W) {b : Nat} (hb : w.heap.size ≤ b) (d : Array Value) : Rdr r mp v ts q (W.setRow b d) := by
  have hlt := h.lt
  refine ⟨(setRow_other _ _ _ _ (by omega)).trans h2.cell, ?_, h2.le, h2.few, h2.far, h2.own⟩
  obtain ⟨a, cap, rfl, hc⟩ := h.toks
  rcases hc with h0 | ⟨g, o, hg, hcc⟩
  · obtain ⟨a2, cap2, e2, _⟩ := h2.toks
    exact ⟨a2, cap2, e2, .inl h0⟩
  · by_cases h0 : ts.length = 0
    · obtain ⟨a2, cap2, e2, _⟩ := h2.toks
      exact ⟨a2, cap2, e2, .inl h0⟩
    · refine h2.toks.carry fun a' n c' ev hl => setRow_other _ _ _ _ ?_
      intro he
      injection ev with e1 e2 e3
      rw [hg] at e1
      injection e1 with e1
      have hlt2 : g < w.heap.size := World.block_lt_of_cell? w ⟨g, o + 0 * 3, none⟩ (hcc 0 (by omega)).1
      rw [← e1] at he
      simp only at he
      omega
theorem grown_setRowAt {w W : World} {r : Option Nat} (g : w.grownBy W r) {b : Nat} (hb : w.heap.size ≤ b) (d : Array Value) : w.grownBy (W.setRow b d) r :=
  ⟨g.os, g.tape, g.output, by have := g.size; simpa [World.setRow] using this, fun k hk hkr => (setRow_other _ _ _ _ (by omega)).trans (g.block k hk hkr)⟩
/-- The place that a reader is at. -/
def atR (w : World) (r : Nat) : Int := match w.cell? ⟨r, 1, none⟩ with
  | some (.int _ n) => n
  | _ => 0
theorem atR_of {r mp : Nat} {v : Value} {ts : List Mark} {p : Nat} {w : World} (h : Rdr r mp v ts p w) : (atR w r).toNat = p := by
  unfold atR
  rw [h.at1.1]
  simp
/-- What was read, in a row of its own behind a place, its parts elsewhere. -/
structure Keep2 (N : Nat) (W : World) (b : Nat) (x : Ex) (s : Value) : Prop where
  row : W.heap[b]? = some (.cells (ex4 x s) 25 (0, 0))
  st : StP (fun k => N < k ∧ k ≠ b) W x s
  lt : N < b
theorem Keep2.grown {N : Nat} {W W' : World} {b : Nat} {x : Ex} {s : Value} {r : Nat} (h : Keep2 N W b x s) (g : W.grownBy W' (some r)) (hr : r < N) : Keep2 N W' b x s :=
  ⟨kept h.row g (by have := h.lt; omega), h.st.carry fun k hk hl => g.block k hl (fun e => by injection e; have := hk.1; omega), h.lt⟩
theorem Keep2.new {N : Nat} {W0 w2 : World} {x : Ex} {s : Value} (h : StP (fun b => W0.heap.size ≤ b) w2 x s) (hN : N < W0.heap.size) (hl : W0.heap.size ≤ w2.heap.size) : Keep2 N (w2.alloc (.cells (ex4 x s) 25)) w2.heap.size x s :=
  ⟨heap_alloc_new w2 _, StP.carryN (fun k _ hk => Below.heap_alloc _ _ _ hk) (fun k hk hb => ⟨by have : W0.heap.size ≤ k := hb; omega, Nat.ne_of_lt hk⟩) _ x s (Nat.le_refl _) h, by omega⟩
end Go.Proofs.YtkieljleopbhoaaDoor.Lex
