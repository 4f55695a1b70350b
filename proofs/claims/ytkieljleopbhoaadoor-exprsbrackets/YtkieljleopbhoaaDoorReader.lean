/-
  The reader of tokens in memory; the contract of peek.
-/
import Derived.Test.YtkieljleopbhoaaDoorJoins
import Derived.BigQuiet
namespace Go.Proofs.YtkieljleopbhoaaDoor.Lex
open Go.ChangeShapes Go.WideShapes Go.ChangeAt Go.RowKit Go.Joins
/-- What a token counts by. -/
structure Mark where
  kind : Nat
  text : ByteArray
/-- The mark of the next token; behind the last one there is one of no kind. -/
def markAt (ts : List Mark) (p : Nat) : Mark := ts.getD p ⟨0, ByteArray.empty⟩
abbrev mkV (m : Mark) : Value := .agg #[.int .u8 (m.kind : Int), .string m.text]
/-- Tokens in memory, from any place of a row on. -/
def MarksAt (w : World) (v : Value) (ts : List Mark) : Prop :=
  ∃ a cap, v = .slice a ts.length cap ∧ (ts.length = 0 ∨ ∃ g o, a = some ⟨g, o, none⟩ ∧ ∀ i (h : i < ts.length), w.cell? ⟨g, o + i * 3, none⟩ = some (.int .u8 (ts[i].kind : Int)) ∧ w.cell? ⟨g, o + i * 3 + 1, none⟩ = some (.string ts[i].text) ∧ ∃ at_ : Int, w.cell? ⟨g, o + i * 3 + 2, none⟩ = some (.int .i64 at_))
/-- The reader, at a place. -/
structure Rdr (r mp : Nat) (v : Value) (ts : List Mark) (p : Nat) (W : World) : Prop where
  cell : W.heap[r]? = some (.cells #[v, .int .i64 (p : Int), .map (some mp)] 71 (0, 0))
  toks : MarksAt W v ts
  le : p ≤ ts.length
  few : ts.length ≤ 140737488355328
  far : ∀ a n c, v = .slice (some a) n c → a.block ≠ r
  own : mp ≠ r
theorem heap_drew {w : World} {b : Nat} {o : Obj} (h : w.heap[b]? = some o) (n : Nat) : (w.drewN n).heap[b]? = some o := h
theorem below_drewN {B : Nat} {a w : World} (h : Below B a w) (n : Nat) : Below B a (w.drewN n) := h.trans ⟨rfl, rfl, rfl, Nat.le_refl _, fun _ _ => rfl⟩
theorem info81 : (Tryd.prog.info? 81).map (·.size) = some 2 := by kernel_rfl
set_option maxRecDepth 100000 in
set_option maxHeartbeats 1000000 in
/-- peek, behind the last token. -/
theorem peek_end (r mp : Nat) (v : Value) (ts : List Mark) (w : World) (h : Rdr r mp v ts ts.length w) : Calls Tryd.prog 80 #[.pointer (some ⟨r, 0, none⟩)] w fun e w' => e = .returned (.agg #[.int .u8 0, .string ⟨#[]⟩]) ∧ Below w.heap.size w w' := by
  obtain ⟨a, cap, rfl, _⟩ := h.toks
  have hR0 := heap_alloc_new w (.cells #[.int .u8 0, .string ⟨#[]⟩] 81)
  have b1 := (Below.refl w.heap.size w).alloc (Nat.le_refl _) (.cells #[.int .u8 0, .string ⟨#[]⟩] 81)
  have hlt := (Array.getElem?_eq_some_iff.1 h.cell).1
  have hc := (b1.block r hlt).trans h.cell
  have x0 : (w.alloc (.cells #[.int .u8 0, .string ⟨#[]⟩] 81)).cell? ⟨r, 0, none⟩ = some (.slice a ts.length cap) := by rw [cell_of_row _ _ _ _ 71 (0, 0) hc]; rfl
  have x1 : (w.alloc (.cells #[.int .u8 0, .string ⟨#[]⟩] 81)).cell? ⟨r, 1, none⟩ = some (.int .i64 (ts.length : Int)) := by rw [cell_of_row _ _ _ _ 71 (0, 0) hc]; rfl
  have he : ((ts.length : Int) == (ts.length : Int)) = true := by simp
  have B1 := hid b1
  clear h hc b1 hlt
  go_enter Tryd.func80, Tryd.ntmps80
  go_wp2
  go_quiet (fail)
  go_wp2_with (refine wpList_store_row rfl 81 _ _ rfl w.heap.size #[.int .u8 0, .string ⟨#[]⟩] rfl rfl 81 _ (heap_drew hR0 _) info81 rfl (by simp [Value.oneCell']) ?_)
  refine bodyPost_ret (results_cell_row rfl _ _ w.heap.size 81 #[.int .u8 0, .string ⟨#[]⟩] (0, 0) _ rfl (setRow_heap _ _ _ _ _ _ (heap_drew hR0 _)) Tryd.underlying81 rfl info81) rfl ⟨rfl, ?_⟩
  exact below_row (below_drewN B1.out _) (below_drewN B1.out _).size (Nat.le_refl _) _
set_option maxRecDepth 100000 in
set_option maxHeartbeats 1000000 in
/-- peek at a token. -/
theorem peek_at (r mp : Nat) (v : Value) (ts : List Mark) (p : Nat) (hp : p < ts.length) (w : World) (h : Rdr r mp v ts p w) : Calls Tryd.prog 80 #[.pointer (some ⟨r, 0, none⟩)] w fun e w' => e = .returned (mkV ts[p]) ∧ Below w.heap.size w w' := by
  obtain ⟨a, cap, rfl, hm⟩ := h.toks
  obtain ⟨g, o, rfl, hg⟩ := hm.resolve_left (by omega)
  obtain ⟨m0, m1, at_, m2⟩ := hg p hp
  have hR0 := heap_alloc_new w (.cells #[.int .u8 0, .string ⟨#[]⟩] 81)
  have b1 := (Below.refl w.heap.size w).alloc (Nat.le_refl _) (.cells #[.int .u8 0, .string ⟨#[]⟩] 81)
  have hlt := (Array.getElem?_eq_some_iff.1 h.cell).1
  have hc := (b1.block r hlt).trans h.cell
  have x0 : (w.alloc (.cells #[.int .u8 0, .string ⟨#[]⟩] 81)).cell? ⟨r, 0, none⟩ = some (.slice (some ⟨g, o, none⟩) ts.length cap) := by rw [cell_of_row _ _ _ _ 71 (0, 0) hc]; rfl
  have x1 : (w.alloc (.cells #[.int .u8 0, .string ⟨#[]⟩] 81)).cell? ⟨r, 1, none⟩ = some (.int .i64 (p : Int)) := by rw [cell_of_row _ _ _ _ 71 (0, 0) hc]; rfl
  have y0 := cell_kept m0 b1
  have y1 := cell_kept m1 b1
  have y2 := cell_kept m2 b1
  have he : ((p : Int) == (ts.length : Int)) = false := by simp; omega
  have hp' : (p : Int) < (ts.length : Int) := by omega
  have hp0 : (0 : Int) ≤ (p : Int) := by omega
  have hfew := h.few
  have B1 := hid b1
  generalize ts[p] = m at *
  clear h hc b1 hlt hg hm m0 m1 m2
  go_enter Tryd.func80, Tryd.ntmps80
  go_wp2
  go_quiet (fail)
  go_wp2
  have zz : ∀ q v, (w.alloc (.cells #[.int .u8 0, .string ⟨#[]⟩] 81)).cell? q = some v → (((w.alloc (.cells #[.int .u8 0, .string ⟨#[]⟩] 81)).drewN (nq + 1)).alloc (.cells #[.int .u8 0, .string ⟨#[]⟩, .int .i64 0] 45)).cell? q = some v := fun q v h => cell_kept (w := (w.alloc (.cells #[.int .u8 0, .string ⟨#[]⟩] 81)).drewN (nq + 1)) h ((Below.refl _ _).alloc (Nat.le_refl _) _)
  have a0 := zz _ _ x0
  have a1 := zz _ _ x1
  have d0 := zz _ _ y0
  have d1 := zz _ _ y1
  have d2 := zz _ _ y2
  clear zz
  have hR1 : (((w.alloc (.cells #[.int .u8 0, .string ⟨#[]⟩] 81)).drewN (nq + 1)).alloc (.cells #[.int .u8 (m.kind : Int), .string m.text, .int .i64 at_] 45)).heap[w.heap.size]? = some (.cells #[.int .u8 0, .string ⟨#[]⟩] 81 (0, 0)) := by
    rw [Below.heap_alloc _ _ _ (by have := (Array.getElem?_eq_some_iff.1 hR0).1; exact this)]; exact hR0
  have B2 := hid (bstep (below_drewN B1.out (nq + 1)) ((Below.refl _ _).alloc (Nat.le_refl _) (.cells #[.int .u8 (m.kind : Int), .string m.text, .int .i64 at_] 45)))
  go_region
  go_wp2_with (refine wpList_store_row rfl 81 _ _ rfl w.heap.size #[.int .u8 (m.kind : Int), .string m.text] rfl rfl 81 _ hR1 info81 rfl (by simp [Value.oneCell']) ?_)
  refine bodyPost_ret (results_cell_row rfl _ _ w.heap.size 81 #[.int .u8 (m.kind : Int), .string m.text] (0, 0) _ rfl (setRow_heap _ _ _ _ _ _ hR1) Tryd.underlying81 rfl info81) rfl ⟨rfl, ?_⟩
  exact below_row B2.out B2.out.size (Nat.le_refl _) _
/-- peek. -/
theorem peek (r mp : Nat) (v : Value) (ts : List Mark) (p : Nat) (w : World) (h : Rdr r mp v ts p w) : Calls Tryd.prog 80 #[.pointer (some ⟨r, 0, none⟩)] w fun e w' => e = .returned (mkV (markAt ts p)) ∧ Below w.heap.size w w' := by
  by_cases hp : p < ts.length
  · have e : markAt ts p = ts[p] := by unfold markAt; rw [List.getD_eq_getElem?_getD, List.getElem?_eq_getElem hp]; rfl
    rw [e]
    exact peek_at r mp v ts p hp w h
  · have hl := h.le
    obtain rfl : p = ts.length := by omega
    have e : markAt ts ts.length = ⟨0, ByteArray.empty⟩ := by unfold markAt; rw [List.getD_eq_getElem?_getD, List.getElem?_eq_none (Nat.le_refl _)]; rfl
    rw [e]
    exact peek_end r mp v ts w h
end Go.Proofs.YtkieljleopbhoaaDoor.Lex
