/-
  What a reader's step answers; the contracts of yes, no, name, number.
-/
import Derived.Test.YtkieljleopbhoaaDoorAtoms
import Derived.Test.YtkieljleopbhoaaDoorStP
import Derived.Test.YtkieljleopbhoaaDoorTwinAny
namespace Go.Proofs.YtkieljleopbhoaaDoor.Lex
open Go.ChangeShapes Go.WideShapes Go.ChangeAt Go.RowKit Go.Joins
/-- What reading answers: it, and the place behind it; or an error, and its place. -/
abbrev Res := Except (Nat × Nat) (Ex × Nat)
/-- A panic with an error of the language. -/
abbrev panicE (e : Nat) : Ending := .panicked [{ v := .iface 28 (.int .i64 (e : Int)), recovered := false }]
/-- A step of the reader: nothing but its own place is written; what is read lies elsewhere. -/
def Post (r mp : Nat) (v : Value) (ts : List Mark) (w : World) (res : Res) (e : Ending) (w' : World) : Prop :=
  w.grownBy w' (some r) ∧ match res with
    | .ok (x, q) => ∃ s, e = .returned (exV x s) ∧ StP (fun b => w.heap.size ≤ b) w' x s ∧ Rdr r mp v ts q w'
    | .error (n, q) => e = panicE n ∧ Rdr r mp v ts q w'
theorem Rdr.at1 {r mp : Nat} {v : Value} {ts : List Mark} {p : Nat} {w : World} (h : Rdr r mp v ts p w) : w.cell? ⟨r, 1, none⟩ = some (.int .i64 (p : Int)) ∧ w.frozen? ⟨r, 1, none⟩ = false :=
  ⟨by rw [cell_of_row _ _ _ _ 71 (0, 0) h.cell]; rfl, frozen_of_row _ _ _ _ _ h.cell⟩
theorem Rdr.lt {r mp : Nat} {v : Value} {ts : List Mark} {p : Nat} {w : World} (h : Rdr r mp v ts p w) : r < w.heap.size := (Array.getElem?_eq_some_iff.1 h.cell).1
/-- Behind a box, a step of the place, and a value in the box. -/
theorem stepped {r mp : Nat} {v : Value} {ts : List Mark} {p : Nat} {w : World} (h : Rdr r mp v ts p w) (hp : p < ts.length) (c d : Array Value) (t : TypeId) :
    ∃ W1, (w.alloc (.cells c t)).setCell ⟨r, 1, none⟩ (.int .i64 ((p : Int) + 1)) = W1 ∧ W1.heap[w.heap.size]? = some (.cells c t (0, 0)) ∧ (w.alloc (.cells c t)).cell? ⟨r, 1, none⟩ = some (.int .i64 (p : Int)) ∧ (w.alloc (.cells c t)).frozen? ⟨r, 1, none⟩ = false ∧
      w.grownBy (W1.setRow w.heap.size d) (some r) ∧ Rdr r mp v ts (p + 1) (W1.setRow w.heap.size d) := by
  have hb := (Below.refl w.heap.size w).alloc (Nat.le_refl _) (.cells c t)
  have h1 := h.step hb
  have h2 := h1.move (p + 1) (by omega)
  have hlt := h.lt
  have hne : w.heap.size ≠ r := by omega
  refine ⟨_, rfl, ?_, h1.at1.1, h1.at1.2, ?_, ?_⟩
  · rw [Below.heap_setCell _ _ _ _ hne]; exact heap_alloc_new w _
  · refine ⟨rfl, rfl, rfl, by simp [World.setRow, World.setCell], fun k hk hkr => ?_⟩
    have hkr' : k ≠ r := fun e => hkr (by rw [e])
    rw [setRow_other _ _ _ _ (by omega), Below.heap_setCell _ _ _ _ hkr', Below.heap_alloc _ _ _ hk]
  · have e : ((p : Int) + 1) = ((p + 1 : Nat) : Int) := by omega
    rw [e]
    have hfar : ∀ k, k ≠ w.heap.size → (((w.alloc (.cells c t)).setCell ⟨r, 1, none⟩ (.int .i64 ((p + 1 : Nat) : Int))).setRow w.heap.size d).heap[k]? = ((w.alloc (.cells c t)).setCell ⟨r, 1, none⟩ (.int .i64 ((p + 1 : Nat) : Int))).heap[k]? := fun k hk => setRow_other _ _ _ _ hk
    refine ⟨(hfar r (by omega)).trans h2.cell, ?_, h2.le, h2.few, h2.far, h2.own⟩
    obtain ⟨a, cap, rfl, hc⟩ := h.toks
    refine h2.toks.carry fun a' n c' ev hl => hfar a'.block ?_
    intro he
    injection ev with e1 e2 e3
    rcases hc with h0 | ⟨g, o, hg, hcc⟩
    · have := h.le; omega
    · rw [hg] at e1
      injection e1 with e1
      have hlt2 : g < w.heap.size := World.block_lt_of_cell? w ⟨g, o + 0 * 3, none⟩ (hcc 0 (by omega)).1
      rw [← e1] at he
      simp only at he
      omega
set_option maxRecDepth 100000 in
set_option maxHeartbeats 1000000 in
theorem yes_at (r mp : Nat) (v : Value) (ts : List Mark) (p : Nat) (w : World) (h : Rdr r mp v ts p w) (hp : p < ts.length) : Calls Tryd.prog 56 #[.pointer (some ⟨r, 0, none⟩)] w (Post r mp v ts w (.ok (⟨2, 1, ByteArray.empty, []⟩, p + 1))) := by
  obtain ⟨W1, hW1, hbx, y0, y1, hg, hr⟩ := stepped h hp #[.int .u8 0, .int .i64 0, .string ⟨#[]⟩, .slice none 0 0] #[.int .u8 2, .int .i64 1, .string ⟨#[]⟩, .slice none 0 0] 25
  have hfew : (p : Int) < 140737488355328 := by have := h.few; omega
  have HG := hid hg
  have HR := hid hr
  clear h hp hg hr
  go_enter Tryd.func56, Tryd.ntmps56
  go_wp2_with (refine wpList_store_row rfl 25 _ _ rfl w.heap.size #[.int .u8 2, .int .i64 1, .string ⟨#[]⟩, .slice none 0 0] rfl rfl 25 _ hbx info25 rfl (by simp [Value.oneCell']) ?_)
  refine bodyPost_ret (results_cell_row rfl _ _ w.heap.size 25 #[.int .u8 2, .int .i64 1, .string ⟨#[]⟩, .slice none 0 0] (0, 0) _ rfl (setRow_heap _ _ _ _ _ _ hbx) Tryd.underlying25 rfl info25) rfl ⟨HG.out, _, rfl, ?_, HR.out⟩
  exact StP.leaf 2 1 _ (by omega) (by omega) (by decide)
end Go.Proofs.YtkieljleopbhoaaDoor.Lex
