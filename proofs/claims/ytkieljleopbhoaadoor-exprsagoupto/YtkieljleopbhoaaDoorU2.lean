/-
  The table of operators of two, and the contract of joinOf.
  The reader of tokens in memory; the contract of peek.
  Whether a part has the fields of its operator: the contracts of partsOf, hasItsFields, and of the document's own.
  The operator of two that a token is: the contract of joinAt.
  The reader goes on by a token: the contracts of yes, no, name, number, pass.
  What is worked out, in blocks of which something is known: it stays where others are written.
  How great it is: whatever number is told, the call returns.
  The twin of what is worked out: new memory, with a mark behind each row of parts.
  The contracts of TwinExprs and TwinExpr.
  The contract of TwinExpr, whatever it is.
  What a reader's step answers; the contracts of yes, no, name, number.
  What a reader's step answers: the contracts of no, pass, name, number.
  An operator of one, read: the contract of one, over that of part.
-/
import Derived.Test.YtkieljleopbhoaaDoorU1
import Derived.Laws.Tables
import Derived.Laws.ResultCell
import Derived.BigQuiet
import Derived.OwnWalk
import Derived.Deep.RegionHeld3
import Derived.WalkSmall
import Derived.WalkMore
import Derived.Great.BuildSlice
namespace Go.Proofs.YtkieljleopbhoaaDoor.Lex
open Go.ChangeShapes Go.WideShapes Go.ChangeAt Go.RowKit Go.Joins
/-- An operator of two: its number, its token, its rank, those that its places ask for. -/
structure J where
  op : Nat
  kind : Nat
  text : ByteArray
  rank : Nat
  first : Nat
  second : Nat
def JT : List J := [⟨18, 3, ⟨#[45, 62]⟩, 0, 1, 0⟩, ⟨16, 1, ⟨#[111, 114]⟩, 1, 1, 2⟩, ⟨15, 1, ⟨#[97, 110, 100]⟩, 2, 2, 3⟩, ⟨11, 3, ⟨#[61, 61]⟩, 3, 4, 4⟩, ⟨12, 3, ⟨#[33, 61]⟩, 3, 4, 4⟩, ⟨13, 3, ⟨#[60]⟩, 3, 4, 4⟩, ⟨14, 3, ⟨#[60, 61]⟩, 3, 4, 4⟩, ⟨6, 3, ⟨#[43]⟩, 4, 4, 5⟩, ⟨7, 3, ⟨#[45]⟩, 4, 4, 5⟩, ⟨8, 3, ⟨#[42]⟩, 5, 5, 6⟩, ⟨9, 3, ⟨#[47]⟩, 5, 5, 6⟩, ⟨10, 3, ⟨#[37]⟩, 5, 5, 6⟩]
def j0 : J := ⟨0, 0, ByteArray.empty, 0, 0, 0⟩
def jR (k : Nat) : J := JT.getD k j0
def jrow (r : J) : Array Value := #[.int .u8 (r.op : Int), .int .u8 (r.kind : Int), .string r.text, .int .i64 (r.rank : Int), .int .i64 (r.first : Int), .int .i64 (r.second : Int)]
def joinV : Array Value := #[.int .u8 18, .int .u8 3, .string ⟨#[45, 62]⟩, .int .i64 0, .int .i64 1, .int .i64 0, .int .u8 16, .int .u8 1, .string ⟨#[111, 114]⟩, .int .i64 1, .int .i64 1, .int .i64 2, .int .u8 15, .int .u8 1, .string ⟨#[97, 110, 100]⟩, .int .i64 2, .int .i64 2, .int .i64 3, .int .u8 11, .int .u8 3, .string ⟨#[61, 61]⟩, .int .i64 3, .int .i64 4, .int .i64 4, .int .u8 12, .int .u8 3, .string ⟨#[33, 61]⟩, .int .i64 3, .int .i64 4, .int .i64 4, .int .u8 13, .int .u8 3, .string ⟨#[60]⟩, .int .i64 3, .int .i64 4, .int .i64 4, .int .u8 14, .int .u8 3, .string ⟨#[60, 61]⟩, .int .i64 3, .int .i64 4, .int .i64 4, .int .u8 6, .int .u8 3, .string ⟨#[43]⟩, .int .i64 4, .int .i64 4, .int .i64 5, .int .u8 7, .int .u8 3, .string ⟨#[45]⟩, .int .i64 4, .int .i64 4, .int .i64 5, .int .u8 8, .int .u8 3, .string ⟨#[42]⟩, .int .i64 5, .int .i64 5, .int .i64 6, .int .u8 9, .int .u8 3, .string ⟨#[47]⟩, .int .i64 5, .int .i64 5, .int .i64 6, .int .u8 10, .int .u8 3, .string ⟨#[37]⟩, .int .i64 5, .int .i64 5, .int .i64 6]
/-- The table stands in its variable. -/
def TabJ (w : World) : Prop := ∃ t fz, w.heap[0]? = some (.cells joinV t fz)
theorem TabJ.below {w w' : World} (h : TabJ w) (hb : Below w.heap.size w w') : TabJ w' := by
  obtain ⟨t, fz, h⟩ := h
  exact ⟨t, fz, (hb.block 0 (Array.getElem?_eq_some_iff.1 h).1).trans h⟩
theorem j_index_0 (w : World) : (Instr.index 96 (.agg joinV) (.int .i64 0)).run Tryd.prog w = .ok (.agg #[.int .u8 18, .int .u8 3, .string ⟨#[45, 62]⟩, .int .i64 0, .int .i64 1, .int .i64 0]) w := by kernel_rfl
theorem j_index_1 (w : World) : (Instr.index 96 (.agg joinV) (.int .i64 1)).run Tryd.prog w = .ok (.agg #[.int .u8 16, .int .u8 1, .string ⟨#[111, 114]⟩, .int .i64 1, .int .i64 1, .int .i64 2]) w := by kernel_rfl
theorem j_index_2 (w : World) : (Instr.index 96 (.agg joinV) (.int .i64 2)).run Tryd.prog w = .ok (.agg #[.int .u8 15, .int .u8 1, .string ⟨#[97, 110, 100]⟩, .int .i64 2, .int .i64 2, .int .i64 3]) w := by kernel_rfl
theorem j_index_3 (w : World) : (Instr.index 96 (.agg joinV) (.int .i64 3)).run Tryd.prog w = .ok (.agg #[.int .u8 11, .int .u8 3, .string ⟨#[61, 61]⟩, .int .i64 3, .int .i64 4, .int .i64 4]) w := by kernel_rfl
theorem j_index_4 (w : World) : (Instr.index 96 (.agg joinV) (.int .i64 4)).run Tryd.prog w = .ok (.agg #[.int .u8 12, .int .u8 3, .string ⟨#[33, 61]⟩, .int .i64 3, .int .i64 4, .int .i64 4]) w := by kernel_rfl
theorem j_index_5 (w : World) : (Instr.index 96 (.agg joinV) (.int .i64 5)).run Tryd.prog w = .ok (.agg #[.int .u8 13, .int .u8 3, .string ⟨#[60]⟩, .int .i64 3, .int .i64 4, .int .i64 4]) w := by kernel_rfl
theorem j_index_6 (w : World) : (Instr.index 96 (.agg joinV) (.int .i64 6)).run Tryd.prog w = .ok (.agg #[.int .u8 14, .int .u8 3, .string ⟨#[60, 61]⟩, .int .i64 3, .int .i64 4, .int .i64 4]) w := by kernel_rfl
theorem j_index_7 (w : World) : (Instr.index 96 (.agg joinV) (.int .i64 7)).run Tryd.prog w = .ok (.agg #[.int .u8 6, .int .u8 3, .string ⟨#[43]⟩, .int .i64 4, .int .i64 4, .int .i64 5]) w := by kernel_rfl
theorem j_index_8 (w : World) : (Instr.index 96 (.agg joinV) (.int .i64 8)).run Tryd.prog w = .ok (.agg #[.int .u8 7, .int .u8 3, .string ⟨#[45]⟩, .int .i64 4, .int .i64 4, .int .i64 5]) w := by kernel_rfl
theorem j_index_9 (w : World) : (Instr.index 96 (.agg joinV) (.int .i64 9)).run Tryd.prog w = .ok (.agg #[.int .u8 8, .int .u8 3, .string ⟨#[42]⟩, .int .i64 5, .int .i64 5, .int .i64 6]) w := by kernel_rfl
theorem j_index_10 (w : World) : (Instr.index 96 (.agg joinV) (.int .i64 10)).run Tryd.prog w = .ok (.agg #[.int .u8 9, .int .u8 3, .string ⟨#[47]⟩, .int .i64 5, .int .i64 5, .int .i64 6]) w := by kernel_rfl
theorem j_index_11 (w : World) : (Instr.index 96 (.agg joinV) (.int .i64 11)).run Tryd.prog w = .ok (.agg #[.int .u8 10, .int .u8 3, .string ⟨#[37]⟩, .int .i64 5, .int .i64 5, .int .i64 6]) w := by kernel_rfl
theorem j_index (k : Nat) (hk : k < 12) (w : World) : (Instr.index 96 (.agg joinV) (.int .i64 (k : Int))).run Tryd.prog w = .ok (.agg (jrow (jR k))) w := by
  have h : k = 0 ∨ k = 1 ∨ k = 2 ∨ k = 3 ∨ k = 4 ∨ k = 5 ∨ k = 6 ∨ k = 7 ∨ k = 8 ∨ k = 9 ∨ k = 10 ∨ k = 11 := by omega
  rcases h with rfl | rfl | rfl | rfl | rfl | rfl | rfl | rfl | rfl | rfl | rfl | rfl
  · exact j_index_0 w
  · exact j_index_1 w
  · exact j_index_2 w
  · exact j_index_3 w
  · exact j_index_4 w
  · exact j_index_5 w
  · exact j_index_6 w
  · exact j_index_7 w
  · exact j_index_8 w
  · exact j_index_9 w
  · exact j_index_10 w
  · exact j_index_11 w
/-- The operator of a number. -/
def jOf (op : Nat) : Option J := JT.find? fun r => r.op == op
theorem jOf_some {op : Nat} (k : Nat) (hk : k < 12) (h : ∀ j, j < k → ((jR j).op == op) = false) (he : ((jR k).op == op) = true) : jOf op = some (jR k) := by
  unfold jOf
  rw [List.find?_eq_some_iff_getElem]
  have hget : ∀ j (hj : j < JT.length), JT[j]'hj = jR j := fun j hj => by unfold jR; rw [List.getD_eq_getElem?_getD, List.getElem?_eq_getElem hj]; rfl
  have hk' : k < JT.length := hk
  refine ⟨he, k, hk', hget k hk', fun j hj => ?_⟩
  have e := hget j (by omega)
  have hn := h j hj
  rw [← e] at hn
  rw [hn]
  rfl
theorem jOf_none {op : Nat} (h : ∀ j, j < 12 → ((jR j).op == op) = false) : jOf op = none := by
  unfold jOf
  rw [List.find?_eq_none]
  intro r hr
  obtain ⟨j, hj, e⟩ := List.getElem_of_mem hr
  have := h j hj
  unfold jR at this
  rw [List.getD_eq_getElem?_getD, List.getElem?_eq_getElem hj, e] at this
  simp only [Option.getD_some] at this
  rw [this]
  simp
theorem jR_op (k : Nat) : (jR k).op < 256 := by
  by_cases hk : k < 12
  · have h : k = 0 ∨ k = 1 ∨ k = 2 ∨ k = 3 ∨ k = 4 ∨ k = 5 ∨ k = 6 ∨ k = 7 ∨ k = 8 ∨ k = 9 ∨ k = 10 ∨ k = 11 := by omega
    rcases h with rfl | rfl | rfl | rfl | rfl | rfl | rfl | rfl | rfl | rfl | rfl | rfl <;> decide
  · have : jR k = j0 := by unfold jR; rw [List.getD_eq_getElem?_getD, List.getElem?_eq_none (by show 12 ≤ k; omega)]; rfl
    rw [this]; decide
/-- The row that is answered. -/
def jOut (op : Nat) : Array Value := jrow ((jOf op).getD j0)
theorem info83 : (Tryd.prog.info? 83).map (·.size) = some 6 := by kernel_rfl
theorem results_row_tmp {fn : Func} {p u : Tmp} {ty : TypeId} {P : Program} (h : fn.results = #[.cell p ty, .tmp u]) (tmps : Array Value) (w : World) (g : Nat) (cs : Array Value)
    (hp : tmps.getD p undef = .pointer (some ⟨g, 0, none⟩)) (hl : (loadVar ty ⟨g, 0, none⟩).run P w = .ok (.agg cs) w) :
    (results fn tmps).run P w = .ok (.tuple #[.agg cs, tmps.getD u undef]) w := by
  rw [results_cell_tmp h, hp]
  simp [asAddr, hl]
set_option maxRecDepth 100000 in
theorem joinOf (op : Nat) (w : World) (hT : TabJ w) : Calls Tryd.prog 43 #[.int .u8 (op : Int)] w fun e w' => e = .returned (.tuple #[.agg (jOut op), .bool (jOf op).isSome]) ∧ Below w.heap.size w w' := by
  obtain ⟨w1, hw1⟩ : ∃ w1, w1 = w.alloc (.cells (jrow j0) 83) := ⟨_, rfl⟩
  have hb1 : Below w.heap.size w w1 := by rw [hw1]; exact (Below.refl _ _).alloc (Nat.le_refl _) _
  have hR1 : w1.heap[w.heap.size]? = some (.cells (jrow j0) 83 (0, 0)) := by rw [hw1]; exact heap_alloc_new w _
  obtain ⟨t, fz, h0⟩ := hT.below hb1
  have HR := hid hR1
  have HB := hid hb1
  clear hT hR1 hb1
  go_enter Tryd.func43, Tryd.ntmps43
  go_wp2_with (refine wpList_load_row rfl 96 _ rfl 0 rfl t joinV fz _ (by first | exact h0 | (rw [hw1] at h0; exact h0)) Tryd.underlying96 rfl (by kernel_rfl) ?_)
  go_loopw [7] (fun i wr => ∃ k : Nat, k ≤ 12 ∧ i = .int .i64 (k : Int) ∧ Hid (∀ j, j < k → ((jR j).op == op) = false) ∧ Hid (Below w1.heap.size w1 wr)) (fun i _ => 12 - (intOf i).toNat)
  case atStart => exact ⟨0, by omega, rfl, fun j hj => by omega, by rw [hw1]; exact Below.refl _ _⟩
  case round =>
    obtain ⟨k, hk, rfl, hall, hB⟩ := hrel
    by_cases hlt : k < 12
    · have hlt' : (k : Int) < 12 := by omega
      have hx := fun W => j_index k hlt W
      unfold jrow at hx
      generalize hv : joinV = V at hx ⊢
      clear hv h0 hw1
      cases he : ((jR k).op == op)
      · have he' : (((jR k).op : Int) == (op : Int)) = false := by simp at he ⊢; omega
        have Hnew : Hid (∀ j, j < k + 1 → ((jR j).op == op) = false) := fun j hj => by
          by_cases e : j = k
          · rw [e]; exact he
          · exact hall.out j (by omega)
        clear hall he
        generalize (jR k).op = O at *
        go_wp2
        go_roundw
        case rel => exact ⟨k + 1, by omega, by go_num, Hnew, bstep hB.out ((Below.refl _ _).alloc (Nat.le_refl _) _)⟩
        case measure => simp [intOf]; omega
      · have he' : (((jR k).op : Int) == (op : Int)) = true := by simp at he ⊢; omega
        have Hr : Hid (jOf op = some (jR k)) := jOf_some k hlt hall.out he
        obtain ⟨C, hC⟩ : ∃ C, C = jrow (jR k) := ⟨_, rfl⟩
        have hRr : (wr.alloc (.cells (jrow (jR k)) 83)).heap[w.heap.size]? = some (.cells (jrow j0) 83 (0, 0)) := by
          have hb := bstep hB.out ((Below.refl wr.heap.size wr).alloc (Nat.le_refl _) (.cells (jrow (jR k)) 83))
          exact (hb.block _ (Array.getElem?_eq_some_iff.1 HR.out).1).trans HR.out
        unfold jrow at hRr
        clear hall he
        go_wp2_with (refine wpList_store_row rfl 83 _ _ rfl w.heap.size (jrow (jR k)) rfl rfl 83 _ hRr info83 rfl (by simp [Value.oneCell', jrow]) ?_)
        refine bodyPost_ret (results_row_tmp rfl _ _ w.heap.size (jrow (jR k)) rfl (run_loadVar_row _ _ 83 83 (jrow (jR k)) (0, 0) _ (setRow_heap _ _ _ _ _ _ hRr) Tryd.underlying83 rfl info83)) rfl ⟨?_, ?_⟩
        · rw [jOut, Hr.out]; rfl
        · exact below_row (bstep (bstep HB.out hB.out) ((Below.refl _ _).alloc (Nat.le_refl _) _)) (by have := HB.out.size; have := hB.out.size; simp; omega) (Nat.le_refl _) _
    · have hlt' : ¬ (k : Int) < 12 := by omega
      have Hr : Hid (jOf op = none) := jOf_none fun j hj => hall.out j (by omega)
      have hRr : wr.heap[w.heap.size]? = some (.cells (jrow j0) 83 (0, 0)) := (hB.out.block _ (Array.getElem?_eq_some_iff.1 HR.out).1).trans HR.out
      unfold jrow at hRr
      clear hall h0 hw1
      go_wp2_with (refine wpList_store_row rfl 83 _ _ rfl w.heap.size (jrow j0) rfl rfl 83 _ hRr info83 rfl (by simp [Value.oneCell', jrow]) ?_)
      refine bodyPost_ret (results_row_tmp rfl _ _ w.heap.size (jrow j0) rfl (run_loadVar_row _ _ 83 83 (jrow j0) (0, 0) _ (setRow_heap _ _ _ _ _ _ hRr) Tryd.underlying83 rfl info83)) rfl ⟨?_, ?_⟩
      · rw [jOut, Hr.out]; rfl
      · exact below_row (bstep HB.out hB.out) (by have := HB.out.size; have := hB.out.size; omega) (Nat.le_refl _) _
end Go.Proofs.YtkieljleopbhoaaDoor.Lex
namespace Go.Proofs.YtkieljleopbhoaaDoor.Lex
open Go.ChangeShapes Go.WideShapes Go.ChangeAt Go.RowKit Go.Joins
/-- What a token counts by. -/
structure Mark where
  kind : Nat
  text : ByteArray
/-- The mark of the next token; behind the last one there is one of no kind. -/
def markAt (ts : List Mark) (p : Nat) : Mark := ts.getD p ⟨0, ByteArray.empty⟩
abbrev mkV (m : Mark) : Value := .agg #[.int .u8 (m.kind : Int), .string m.text]
/-- Tokens in memory, from any place of a row on. -/
def MarksAt (w : World) (v : Value) (ts : List Mark) : Prop :=
  ∃ a cap, v = .slice a ts.length cap ∧ (ts.length = 0 ∨ ∃ g o, a = some ⟨g, o, none⟩ ∧ ∀ i (h : i < ts.length), w.cell? ⟨g, o + i * 3, none⟩ = some (.int .u8 (ts[i].kind : Int)) ∧ w.cell? ⟨g, o + i * 3 + 1, none⟩ = some (.string ts[i].text) ∧ ∃ at_ : Int, w.cell? ⟨g, o + i * 3 + 2, none⟩ = some (.int .i64 at_))
/-- The reader, at a place. -/
structure Rdr (r mp : Nat) (v : Value) (ts : List Mark) (p : Nat) (W : World) : Prop where
  cell : W.heap[r]? = some (.cells #[v, .int .i64 (p : Int), .map (some mp)] 71 (0, 0))
  toks : MarksAt W v ts
  le : p ≤ ts.length
  few : ts.length ≤ 140737488355328
  far : ∀ a n c, v = .slice (some a) n c → a.block ≠ r
  own : mp ≠ r
theorem heap_drew {w : World} {b : Nat} {o : Obj} (h : w.heap[b]? = some o) (n : Nat) : (w.drewN n).heap[b]? = some o := h
theorem below_drewN {B : Nat} {a w : World} (h : Below B a w) (n : Nat) : Below B a (w.drewN n) := h.trans ⟨rfl, rfl, rfl, Nat.le_refl _, fun _ _ => rfl⟩
theorem info81 : (Tryd.prog.info? 81).map (·.size) = some 2 := by kernel_rfl
set_option maxRecDepth 100000 in
set_option maxHeartbeats 1000000 in
/-- peek, behind the last token. -/
theorem peek_end (r mp : Nat) (v : Value) (ts : List Mark) (w : World) (h : Rdr r mp v ts ts.length w) : Calls Tryd.prog 80 #[.pointer (some ⟨r, 0, none⟩)] w fun e w' => e = .returned (.agg #[.int .u8 0, .string ⟨#[]⟩]) ∧ Below w.heap.size w w' := by
  obtain ⟨a, cap, rfl, _⟩ := h.toks
  have hR0 := heap_alloc_new w (.cells #[.int .u8 0, .string ⟨#[]⟩] 81)
  have b1 := (Below.refl w.heap.size w).alloc (Nat.le_refl _) (.cells #[.int .u8 0, .string ⟨#[]⟩] 81)
  have hlt := (Array.getElem?_eq_some_iff.1 h.cell).1
  have hc := (b1.block r hlt).trans h.cell
  have x0 : (w.alloc (.cells #[.int .u8 0, .string ⟨#[]⟩] 81)).cell? ⟨r, 0, none⟩ = some (.slice a ts.length cap) := by rw [cell_of_row _ _ _ _ 71 (0, 0) hc]; rfl
  have x1 : (w.alloc (.cells #[.int .u8 0, .string ⟨#[]⟩] 81)).cell? ⟨r, 1, none⟩ = some (.int .i64 (ts.length : Int)) := by rw [cell_of_row _ _ _ _ 71 (0, 0) hc]; rfl
  have he : ((ts.length : Int) == (ts.length : Int)) = true := by simp
  have B1 := hid b1
  clear h hc b1 hlt
  go_enter Tryd.func80, Tryd.ntmps80
  go_wp2
  go_quiet (fail)
  go_wp2_with (refine wpList_store_row rfl 81 _ _ rfl w.heap.size #[.int .u8 0, .string ⟨#[]⟩] rfl rfl 81 _ (heap_drew hR0 _) info81 rfl (by simp [Value.oneCell']) ?_)
  refine bodyPost_ret (results_cell_row rfl _ _ w.heap.size 81 #[.int .u8 0, .string ⟨#[]⟩] (0, 0) _ rfl (setRow_heap _ _ _ _ _ _ (heap_drew hR0 _)) Tryd.underlying81 rfl info81) rfl ⟨rfl, ?_⟩
  exact below_row (below_drewN B1.out _) (below_drewN B1.out _).size (Nat.le_refl _) _
set_option maxRecDepth 100000 in
set_option maxHeartbeats 1000000 in
/-- peek at a token. -/
theorem peek_at (r mp : Nat) (v : Value) (ts : List Mark) (p : Nat) (hp : p < ts.length) (w : World) (h : Rdr r mp v ts p w) : Calls Tryd.prog 80 #[.pointer (some ⟨r, 0, none⟩)] w fun e w' => e = .returned (mkV ts[p]) ∧ Below w.heap.size w w' := by
  obtain ⟨a, cap, rfl, hm⟩ := h.toks
  obtain ⟨g, o, rfl, hg⟩ := hm.resolve_left (by omega)
  obtain ⟨m0, m1, at_, m2⟩ := hg p hp
  have hR0 := heap_alloc_new w (.cells #[.int .u8 0, .string ⟨#[]⟩] 81)
  have b1 := (Below.refl w.heap.size w).alloc (Nat.le_refl _) (.cells #[.int .u8 0, .string ⟨#[]⟩] 81)
  have hlt := (Array.getElem?_eq_some_iff.1 h.cell).1
  have hc := (b1.block r hlt).trans h.cell
  have x0 : (w.alloc (.cells #[.int .u8 0, .string ⟨#[]⟩] 81)).cell? ⟨r, 0, none⟩ = some (.slice (some ⟨g, o, none⟩) ts.length cap) := by rw [cell_of_row _ _ _ _ 71 (0, 0) hc]; rfl
  have x1 : (w.alloc (.cells #[.int .u8 0, .string ⟨#[]⟩] 81)).cell? ⟨r, 1, none⟩ = some (.int .i64 (p : Int)) := by rw [cell_of_row _ _ _ _ 71 (0, 0) hc]; rfl
  have y0 := cell_kept m0 b1
  have y1 := cell_kept m1 b1
  have y2 := cell_kept m2 b1
  have he : ((p : Int) == (ts.length : Int)) = false := by simp; omega
  have hp' : (p : Int) < (ts.length : Int) := by omega
  have hp0 : (0 : Int) ≤ (p : Int) := by omega
  have hfew := h.few
  have B1 := hid b1
  generalize ts[p] = m at *
  clear h hc b1 hlt hg hm m0 m1 m2
  go_enter Tryd.func80, Tryd.ntmps80
  go_wp2
  go_quiet (fail)
  go_wp2
  have zz : ∀ q v, (w.alloc (.cells #[.int .u8 0, .string ⟨#[]⟩] 81)).cell? q = some v → (((w.alloc (.cells #[.int .u8 0, .string ⟨#[]⟩] 81)).drewN (nq + 1)).alloc (.cells #[.int .u8 0, .string ⟨#[]⟩, .int .i64 0] 45)).cell? q = some v := fun q v h => cell_kept (w := (w.alloc (.cells #[.int .u8 0, .string ⟨#[]⟩] 81)).drewN (nq + 1)) h ((Below.refl _ _).alloc (Nat.le_refl _) _)
  have a0 := zz _ _ x0
  have a1 := zz _ _ x1
  have d0 := zz _ _ y0
  have d1 := zz _ _ y1
  have d2 := zz _ _ y2
  clear zz
  have hR1 : (((w.alloc (.cells #[.int .u8 0, .string ⟨#[]⟩] 81)).drewN (nq + 1)).alloc (.cells #[.int .u8 (m.kind : Int), .string m.text, .int .i64 at_] 45)).heap[w.heap.size]? = some (.cells #[.int .u8 0, .string ⟨#[]⟩] 81 (0, 0)) := by
    rw [Below.heap_alloc _ _ _ (by have := (Array.getElem?_eq_some_iff.1 hR0).1; exact this)]; exact hR0
  have B2 := hid (bstep (below_drewN B1.out (nq + 1)) ((Below.refl _ _).alloc (Nat.le_refl _) (.cells #[.int .u8 (m.kind : Int), .string m.text, .int .i64 at_] 45)))
  go_region
  go_wp2_with (refine wpList_store_row rfl 81 _ _ rfl w.heap.size #[.int .u8 (m.kind : Int), .string m.text] rfl rfl 81 _ hR1 info81 rfl (by simp [Value.oneCell']) ?_)
  refine bodyPost_ret (results_cell_row rfl _ _ w.heap.size 81 #[.int .u8 (m.kind : Int), .string m.text] (0, 0) _ rfl (setRow_heap _ _ _ _ _ _ hR1) Tryd.underlying81 rfl info81) rfl ⟨rfl, ?_⟩
  exact below_row B2.out B2.out.size (Nat.le_refl _) _
/-- peek. -/
theorem peek (r mp : Nat) (v : Value) (ts : List Mark) (p : Nat) (w : World) (h : Rdr r mp v ts p w) : Calls Tryd.prog 80 #[.pointer (some ⟨r, 0, none⟩)] w fun e w' => e = .returned (mkV (markAt ts p)) ∧ Below w.heap.size w w' := by
  by_cases hp : p < ts.length
  · have e : markAt ts p = ts[p] := by unfold markAt; rw [List.getD_eq_getElem?_getD, List.getElem?_eq_getElem hp]; rfl
    rw [e]
    exact peek_at r mp v ts p hp w h
  · have hl := h.le
    obtain rfl : p = ts.length := by omega
    have e : markAt ts ts.length = ⟨0, ByteArray.empty⟩ := by unfold markAt; rw [List.getD_eq_getElem?_getD, List.getElem?_eq_none (Nat.le_refl _)]; rfl
    rw [e]
    exact peek_end r mp v ts w h
end Go.Proofs.YtkieljleopbhoaaDoor.Lex
namespace Go.Proofs.YtkieljleopbhoaaDoor.Lex
open Go.ChangeShapes Go.WideShapes Go.ChangeAt Go.RowKit Go.Joins
/-- Of how many parts an operator is. -/
def parts (op : Nat) : Nat := if op = 4 ∨ op = 5 ∨ op = 19 then 1 else if op = 17 then 3 else if (jOf op).isSome then 2 else 0
/-- Has it the fields of its operator? -/
def fieldsOk (op : Nat) (n : Int) (nm : ByteArray) (len : Nat) : Bool :=
  if op = 1 then decide (0 ≤ n) && (decide (nm.size = 0) && decide (len = 0))
  else if op = 2 then (decide (n = 0) || decide (n = 1)) && (decide (nm.size = 0) && decide (len = 0))
  else if op = 3 then decide (n = 0) && (isName nm && decide (len = 0))
  else decide (0 < parts op) && (decide (n = 0) && (decide (nm.size = 0) && decide (len = parts op)))
theorem eqN {a : Nat} {b : Nat} (h : a = b) : ((a : Int) == (b : Int)) = true := by simp [h]
theorem neN {a : Nat} {b : Nat} (h : ¬ a = b) : ((a : Int) == (b : Int)) = false := by simp; omega
theorem ieq {a b : Int} (h : a = b) : (a == b) = true := by simp [h]
theorem ine {a b : Int} (h : ¬ a = b) : (a == b) = false := by simp [h]
set_option maxRecDepth 100000 in
theorem partsOf (op : Nat) (w : World) (hT : TabJ w) : Calls Tryd.prog 72 #[.int .u8 (op : Int)] w fun e w' => e = .returned (.int .i64 (parts op : Int)) ∧ Below w.heap.size w w' := by
  have c := joinOf op w hT
  by_cases h4 : op = 4
  · have e4 := eqN (b := 4) h4
    have hp : parts op = 1 := by unfold parts; rw [if_pos (.inl h4)]
    rw [hp]
    clear hp h4 c
    go_enter Tryd.func72, Tryd.ntmps72
    go_wp2
    go_ret
    exact ⟨rfl, Below.refl _ _⟩
  · have e4 := neN (b := 4) h4
    by_cases h5 : op = 5
    · have e5 := eqN (b := 5) h5
      have hp : parts op = 1 := by unfold parts; rw [if_pos (.inr (.inl h5))]
      rw [hp]
      clear hp h4 h5 c
      go_enter Tryd.func72, Tryd.ntmps72
      go_wp2
      go_ret
      exact ⟨rfl, Below.refl _ _⟩
    · have e5 := neN (b := 5) h5
      by_cases h19 : op = 19
      · have e19 := eqN (b := 19) h19
        have hp : parts op = 1 := by unfold parts; rw [if_pos (.inr (.inr h19))]
        rw [hp]
        clear hp h4 h5 h19 c
        go_enter Tryd.func72, Tryd.ntmps72
        go_wp2
        go_ret
        exact ⟨rfl, Below.refl _ _⟩
      · have e19 := neN (b := 19) h19
        by_cases h17 : op = 17
        · have e17 := eqN (b := 17) h17
          have hp : parts op = 3 := by unfold parts; rw [if_neg (by omega), if_pos h17]
          rw [hp]
          clear hp h4 h5 h19 h17 c
          go_enter Tryd.func72, Tryd.ntmps72
          go_wp2
          go_ret
          exact ⟨rfl, Below.refl _ _⟩
        · have e17 := neN (b := 17) h17
          have hp : parts op = if (jOf op).isSome then 2 else 0 := by unfold parts; rw [if_neg (by omega), if_neg h17]
          rw [hp]
          unfold jOut jrow at c
          generalize (jOf op).getD j0 = r at c
          clear hp h4 h5 h19 h17
          cases hj : (jOf op).isSome
          · rw [hj] at c
            go_enter Tryd.func72, Tryd.ntmps72
            go_wp2_with (go_at_call 43; refine c.mono ?_; rintro e w2 ⟨rfl, hb2⟩)
            go_ret
            exact ⟨rfl, bstep hb2 ((Below.refl _ _).alloc (Nat.le_refl _) _)⟩
          · rw [hj] at c
            go_enter Tryd.func72, Tryd.ntmps72
            go_wp2_with (go_at_call 43; refine c.mono ?_; rintro e w2 ⟨rfl, hb2⟩)
            go_ret
            exact ⟨rfl, bstep hb2 ((Below.refl _ _).alloc (Nat.le_refl _) _)⟩
set_option linter.unusedVariables false
set_option maxRecDepth 100000 in
set_option maxHeartbeats 1000000 in
theorem has_1a (op : Nat) (n : Int) (nm : ByteArray) (ao : Option Addr) (len cap : Nat) (w : World) (e1 : ((op : Int) == 1) = true) (h0 : ¬ 0 ≤ n) : Calls Tryd.prog 48 #[.agg #[.int .u8 (op : Int), .int .i64 n, .string nm, .slice ao len cap]] w fun e w' => e = .returned (.bool false) ∧ Below w.heap.size w w' := by
  go_enter Tryd.func48, Tryd.ntmps48
  go_wp2
  go_ret
  exact ⟨rfl, (Below.refl _ _).alloc (Nat.le_refl _) _⟩
set_option maxRecDepth 100000 in
set_option maxHeartbeats 1000000 in
theorem has_1b (op : Nat) (n : Int) (nm : ByteArray) (ao : Option Addr) (len cap : Nat) (w : World) (e1 : ((op : Int) == 1) = true) (h0 : 0 ≤ n) (he : nm.toList.isEmpty = false) : Calls Tryd.prog 48 #[.agg #[.int .u8 (op : Int), .int .i64 n, .string nm, .slice ao len cap]] w fun e w' => e = .returned (.bool false) ∧ Below w.heap.size w w' := by
  go_enter Tryd.func48, Tryd.ntmps48
  go_wp2
  go_ret
  exact ⟨rfl, (Below.refl _ _).alloc (Nat.le_refl _) _⟩
set_option maxRecDepth 100000 in
set_option maxHeartbeats 1000000 in
theorem has_1c (op : Nat) (n : Int) (nm : ByteArray) (ao : Option Addr) (len cap : Nat) (w : World) (e1 : ((op : Int) == 1) = true) (h0 : 0 ≤ n) (he : nm.toList.isEmpty = true) : Calls Tryd.prog 48 #[.agg #[.int .u8 (op : Int), .int .i64 n, .string nm, .slice ao len cap]] w fun e w' => e = .returned (.bool ((len : Int) == 0)) ∧ Below w.heap.size w w' := by
  go_enter Tryd.func48, Tryd.ntmps48
  go_wp2
  go_ret
  exact ⟨rfl, (Below.refl _ _).alloc (Nat.le_refl _) _⟩
set_option maxRecDepth 100000 in
set_option maxHeartbeats 1000000 in
theorem has_2a (op : Nat) (n : Int) (nm : ByteArray) (ao : Option Addr) (len cap : Nat) (w : World) (e1 : ((op : Int) == 1) = false) (e2 : ((op : Int) == 2) = true) (h0 : (n == 0) = false) (h1 : (n == 1) = false) : Calls Tryd.prog 48 #[.agg #[.int .u8 (op : Int), .int .i64 n, .string nm, .slice ao len cap]] w fun e w' => e = .returned (.bool false) ∧ Below w.heap.size w w' := by
  go_enter Tryd.func48, Tryd.ntmps48
  go_wp2
  go_ret
  exact ⟨rfl, (Below.refl _ _).alloc (Nat.le_refl _) _⟩
set_option maxRecDepth 100000 in
set_option maxHeartbeats 1000000 in
theorem has_2bn (op : Nat) (n : Int) (nm : ByteArray) (ao : Option Addr) (len cap : Nat) (w : World) (e1 : ((op : Int) == 1) = false) (e2 : ((op : Int) == 2) = true) (h0 : (n == 0) = true) (he : nm.toList.isEmpty = false) : Calls Tryd.prog 48 #[.agg #[.int .u8 (op : Int), .int .i64 n, .string nm, .slice ao len cap]] w fun e w' => e = .returned (.bool false) ∧ Below w.heap.size w w' := by
  go_enter Tryd.func48, Tryd.ntmps48
  go_wp2
  go_ret
  exact ⟨rfl, (Below.refl _ _).alloc (Nat.le_refl _) _⟩
set_option maxRecDepth 100000 in
set_option maxHeartbeats 1000000 in
theorem has_2be (op : Nat) (n : Int) (nm : ByteArray) (ao : Option Addr) (len cap : Nat) (w : World) (e1 : ((op : Int) == 1) = false) (e2 : ((op : Int) == 2) = true) (h0 : (n == 0) = true) (he : nm.toList.isEmpty = true) : Calls Tryd.prog 48 #[.agg #[.int .u8 (op : Int), .int .i64 n, .string nm, .slice ao len cap]] w fun e w' => e = .returned (.bool ((len : Int) == 0)) ∧ Below w.heap.size w w' := by
  go_enter Tryd.func48, Tryd.ntmps48
  go_wp2
  go_ret
  exact ⟨rfl, (Below.refl _ _).alloc (Nat.le_refl _) _⟩
set_option maxRecDepth 100000 in
set_option maxHeartbeats 1000000 in
theorem has_2cn (op : Nat) (n : Int) (nm : ByteArray) (ao : Option Addr) (len cap : Nat) (w : World) (e1 : ((op : Int) == 1) = false) (e2 : ((op : Int) == 2) = true) (h0 : (n == 0) = false) (h1 : (n == 1) = true) (he : nm.toList.isEmpty = false) : Calls Tryd.prog 48 #[.agg #[.int .u8 (op : Int), .int .i64 n, .string nm, .slice ao len cap]] w fun e w' => e = .returned (.bool false) ∧ Below w.heap.size w w' := by
  go_enter Tryd.func48, Tryd.ntmps48
  go_wp2
  go_ret
  exact ⟨rfl, (Below.refl _ _).alloc (Nat.le_refl _) _⟩
set_option maxRecDepth 100000 in
set_option maxHeartbeats 1000000 in
theorem has_2ce (op : Nat) (n : Int) (nm : ByteArray) (ao : Option Addr) (len cap : Nat) (w : World) (e1 : ((op : Int) == 1) = false) (e2 : ((op : Int) == 2) = true) (h0 : (n == 0) = false) (h1 : (n == 1) = true) (he : nm.toList.isEmpty = true) : Calls Tryd.prog 48 #[.agg #[.int .u8 (op : Int), .int .i64 n, .string nm, .slice ao len cap]] w fun e w' => e = .returned (.bool ((len : Int) == 0)) ∧ Below w.heap.size w w' := by
  go_enter Tryd.func48, Tryd.ntmps48
  go_wp2
  go_ret
  exact ⟨rfl, (Below.refl _ _).alloc (Nat.le_refl _) _⟩
set_option maxRecDepth 100000 in
set_option maxHeartbeats 1000000 in
theorem has_3a (op : Nat) (n : Int) (nm : ByteArray) (ao : Option Addr) (len cap : Nat) (w : World) (e1 : ((op : Int) == 1) = false) (e2 : ((op : Int) == 2) = false) (e3 : ((op : Int) == 3) = true) (h0 : (n == 0) = false) : Calls Tryd.prog 48 #[.agg #[.int .u8 (op : Int), .int .i64 n, .string nm, .slice ao len cap]] w fun e w' => e = .returned (.bool false) ∧ Below w.heap.size w w' := by
  go_enter Tryd.func48, Tryd.ntmps48
  go_wp2
  go_ret
  exact ⟨rfl, (Below.refl _ _).alloc (Nat.le_refl _) _⟩
set_option maxRecDepth 100000 in
set_option maxHeartbeats 1000000 in
theorem has_3b (op : Nat) (n : Int) (nm : ByteArray) (ao : Option Addr) (len cap : Nat) (w : World) (e1 : ((op : Int) == 1) = false) (e2 : ((op : Int) == 2) = false) (e3 : ((op : Int) == 3) = true) (h0 : (n == 0) = true) (c : ∀ W, TabR W → Calls Tryd.prog 71 #[.string nm] W fun e w' => e = .returned (.bool false) ∧ Below W.heap.size W w') (hR : Hid (TabR w)) : Calls Tryd.prog 48 #[.agg #[.int .u8 (op : Int), .int .i64 n, .string nm, .slice ao len cap]] w fun e w' => e = .returned (.bool false) ∧ Below w.heap.size w w' := by
  go_enter Tryd.func48, Tryd.ntmps48
  go_wp2_with (go_at_call 71; refine (c _ (hR.out.below ((Below.refl _ _).alloc (Nat.le_refl _) _))).mono ?_; rintro e w2 ⟨rfl, hb2⟩)
  go_ret
  exact ⟨rfl, bstep ((Below.refl _ _).alloc (Nat.le_refl _) _) hb2⟩
set_option maxRecDepth 100000 in
set_option maxHeartbeats 1000000 in
theorem has_3c (op : Nat) (n : Int) (nm : ByteArray) (ao : Option Addr) (len cap : Nat) (w : World) (e1 : ((op : Int) == 1) = false) (e2 : ((op : Int) == 2) = false) (e3 : ((op : Int) == 3) = true) (h0 : (n == 0) = true) (c : ∀ W, TabR W → Calls Tryd.prog 71 #[.string nm] W fun e w' => e = .returned (.bool true) ∧ Below W.heap.size W w') (hR : Hid (TabR w)) : Calls Tryd.prog 48 #[.agg #[.int .u8 (op : Int), .int .i64 n, .string nm, .slice ao len cap]] w fun e w' => e = .returned (.bool ((len : Int) == 0)) ∧ Below w.heap.size w w' := by
  go_enter Tryd.func48, Tryd.ntmps48
  go_wp2_with (go_at_call 71; refine (c _ (hR.out.below ((Below.refl _ _).alloc (Nat.le_refl _) _))).mono ?_; rintro e w2 ⟨rfl, hb2⟩; have bx := fun j v (h : (w.alloc (.cells #[.int .u8 (op : Int), .int .i64 n, .string nm, .slice ao len cap] 25)).cell? ⟨w.heap.size, j, none⟩ = some v) => cell_kept h hb2; have x3 := bx 3 (.slice ao len cap) (by rw [World.cell?_alloc_at _ _ _ _ rfl]; rfl); clear bx)
  go_ret
  exact ⟨rfl, bstep ((Below.refl _ _).alloc (Nat.le_refl _) _) hb2⟩
set_option maxRecDepth 100000 in
set_option maxHeartbeats 1000000 in
theorem has_4a (op : Nat) (n : Int) (nm : ByteArray) (ao : Option Addr) (len cap : Nat) (w : World) (e1 : ((op : Int) == 1) = false) (e2 : ((op : Int) == 2) = false) (e3 : ((op : Int) == 3) = false) (p : Nat) (c : ∀ W, TabJ W → Calls Tryd.prog 72 #[.int .u8 (op : Int)] W fun e w' => e = .returned (.int .i64 (p : Int)) ∧ Below W.heap.size W w') (hJ : Hid (TabJ w)) (hp : ¬ (0 : Int) < (p : Int)) : Calls Tryd.prog 48 #[.agg #[.int .u8 (op : Int), .int .i64 n, .string nm, .slice ao len cap]] w fun e w' => e = .returned (.bool false) ∧ Below w.heap.size w w' := by
  go_enter Tryd.func48, Tryd.ntmps48
  go_wp2_with (go_at_call 72; refine (c _ (hJ.out.below ((Below.refl _ _).alloc (Nat.le_refl _) _))).mono ?_; rintro e w2 ⟨rfl, hb2⟩)
  go_ret
  exact ⟨rfl, bstep ((Below.refl _ _).alloc (Nat.le_refl _) _) hb2⟩
set_option maxRecDepth 100000 in
set_option maxHeartbeats 1000000 in
theorem has_4b (op : Nat) (n : Int) (nm : ByteArray) (ao : Option Addr) (len cap : Nat) (w : World) (e1 : ((op : Int) == 1) = false) (e2 : ((op : Int) == 2) = false) (e3 : ((op : Int) == 3) = false) (p : Nat) (c : ∀ W, TabJ W → Calls Tryd.prog 72 #[.int .u8 (op : Int)] W fun e w' => e = .returned (.int .i64 (p : Int)) ∧ Below W.heap.size W w') (hJ : Hid (TabJ w)) (hp : (0 : Int) < (p : Int)) (h0 : (n == 0) = false) : Calls Tryd.prog 48 #[.agg #[.int .u8 (op : Int), .int .i64 n, .string nm, .slice ao len cap]] w fun e w' => e = .returned (.bool false) ∧ Below w.heap.size w w' := by
  go_enter Tryd.func48, Tryd.ntmps48
  go_wp2_with (go_at_call 72; refine (c _ (hJ.out.below ((Below.refl _ _).alloc (Nat.le_refl _) _))).mono ?_; rintro e w2 ⟨rfl, hb2⟩; have bx := fun j v (h : (w.alloc (.cells #[.int .u8 (op : Int), .int .i64 n, .string nm, .slice ao len cap] 25)).cell? ⟨w.heap.size, j, none⟩ = some v) => cell_kept h hb2; have x1 := bx 1 (.int .i64 n) (by rw [World.cell?_alloc_at _ _ _ _ rfl]; rfl); have x2 := bx 2 (.string nm) (by rw [World.cell?_alloc_at _ _ _ _ rfl]; rfl); have x3 := bx 3 (.slice ao len cap) (by rw [World.cell?_alloc_at _ _ _ _ rfl]; rfl); clear bx)
  go_ret
  exact ⟨rfl, bstep ((Below.refl _ _).alloc (Nat.le_refl _) _) hb2⟩
set_option maxRecDepth 100000 in
set_option maxHeartbeats 1000000 in
theorem has_4c (op : Nat) (n : Int) (nm : ByteArray) (ao : Option Addr) (len cap : Nat) (w : World) (e1 : ((op : Int) == 1) = false) (e2 : ((op : Int) == 2) = false) (e3 : ((op : Int) == 3) = false) (p : Nat) (c : ∀ W, TabJ W → Calls Tryd.prog 72 #[.int .u8 (op : Int)] W fun e w' => e = .returned (.int .i64 (p : Int)) ∧ Below W.heap.size W w') (hJ : Hid (TabJ w)) (hp : (0 : Int) < (p : Int)) (h0 : (n == 0) = true) (he : nm.toList.isEmpty = false) : Calls Tryd.prog 48 #[.agg #[.int .u8 (op : Int), .int .i64 n, .string nm, .slice ao len cap]] w fun e w' => e = .returned (.bool false) ∧ Below w.heap.size w w' := by
  go_enter Tryd.func48, Tryd.ntmps48
  go_wp2_with (go_at_call 72; refine (c _ (hJ.out.below ((Below.refl _ _).alloc (Nat.le_refl _) _))).mono ?_; rintro e w2 ⟨rfl, hb2⟩; have bx := fun j v (h : (w.alloc (.cells #[.int .u8 (op : Int), .int .i64 n, .string nm, .slice ao len cap] 25)).cell? ⟨w.heap.size, j, none⟩ = some v) => cell_kept h hb2; have x1 := bx 1 (.int .i64 n) (by rw [World.cell?_alloc_at _ _ _ _ rfl]; rfl); have x2 := bx 2 (.string nm) (by rw [World.cell?_alloc_at _ _ _ _ rfl]; rfl); have x3 := bx 3 (.slice ao len cap) (by rw [World.cell?_alloc_at _ _ _ _ rfl]; rfl); clear bx)
  go_ret
  exact ⟨rfl, bstep ((Below.refl _ _).alloc (Nat.le_refl _) _) hb2⟩
set_option maxRecDepth 100000 in
set_option maxHeartbeats 1000000 in
theorem has_4d (op : Nat) (n : Int) (nm : ByteArray) (ao : Option Addr) (len cap : Nat) (w : World) (e1 : ((op : Int) == 1) = false) (e2 : ((op : Int) == 2) = false) (e3 : ((op : Int) == 3) = false) (p : Nat) (c : ∀ W, TabJ W → Calls Tryd.prog 72 #[.int .u8 (op : Int)] W fun e w' => e = .returned (.int .i64 (p : Int)) ∧ Below W.heap.size W w') (hJ : Hid (TabJ w)) (hp : (0 : Int) < (p : Int)) (h0 : (n == 0) = true) (he : nm.toList.isEmpty = true) : Calls Tryd.prog 48 #[.agg #[.int .u8 (op : Int), .int .i64 n, .string nm, .slice ao len cap]] w fun e w' => e = .returned (.bool ((len : Int) == (p : Int))) ∧ Below w.heap.size w w' := by
  go_enter Tryd.func48, Tryd.ntmps48
  go_wp2_with (go_at_call 72; refine (c _ (hJ.out.below ((Below.refl _ _).alloc (Nat.le_refl _) _))).mono ?_; rintro e w2 ⟨rfl, hb2⟩; have bx := fun j v (h : (w.alloc (.cells #[.int .u8 (op : Int), .int .i64 n, .string nm, .slice ao len cap] 25)).cell? ⟨w.heap.size, j, none⟩ = some v) => cell_kept h hb2; have x1 := bx 1 (.int .i64 n) (by rw [World.cell?_alloc_at _ _ _ _ rfl]; rfl); have x2 := bx 2 (.string nm) (by rw [World.cell?_alloc_at _ _ _ _ rfl]; rfl); have x3 := bx 3 (.slice ao len cap) (by rw [World.cell?_alloc_at _ _ _ _ rfl]; rfl); clear bx)
  go_ret
  exact ⟨rfl, bstep ((Below.refl _ _).alloc (Nat.le_refl _) _) hb2⟩
theorem len_eq (a b : Nat) : ((a : Int) == (b : Int)) = decide (a = b) := by
  by_cases h : a = b
  · rw [eqN h, decide_eq_true h]
  · rw [neN h, decide_eq_false h]
theorem len_zero' (a : Nat) : ((a : Int) == 0) = decide (a = 0) := len_eq a 0
/-- hasItsFields. -/
theorem hasIts (op : Nat) (n : Int) (nm : ByteArray) (ao : Option Addr) (len cap : Nat) (w : World) (hR : TabR w) (hJ : TabJ w) :
    Calls Tryd.prog 48 #[.agg #[.int .u8 (op : Int), .int .i64 n, .string nm, .slice ao len cap]] w fun e w' => e = .returned (.bool (fieldsOk op n nm len)) ∧ Below w.heap.size w w' := by
  unfold fieldsOk
  by_cases h1 : op = 1
  · rw [if_pos h1]
    have e1 := eqN (b := 1) h1
    by_cases h0 : 0 ≤ n
    · rw [decide_eq_true h0, Bool.true_and]
      by_cases hm : nm.size = 0
      · rw [decide_eq_true hm, Bool.true_and, ← len_zero']; exact has_1c op n nm ao len cap w e1 h0 (empty_yes hm)
      · rw [decide_eq_false hm, Bool.false_and]; exact has_1b op n nm ao len cap w e1 h0 (empty_no hm)
    · rw [decide_eq_false h0, Bool.false_and]; exact has_1a op n nm ao len cap w e1 h0
  · rw [if_neg h1]
    have e1 := neN (b := 1) h1
    by_cases h2 : op = 2
    · rw [if_pos h2]
      have e2 := eqN (b := 2) h2
      by_cases h0 : n = 0
      · rw [decide_eq_true h0, Bool.true_or, Bool.true_and]
        by_cases hm : nm.size = 0
        · rw [decide_eq_true hm, Bool.true_and, ← len_zero']; exact has_2be op n nm ao len cap w e1 e2 (ieq h0) (empty_yes hm)
        · rw [decide_eq_false hm, Bool.false_and]; exact has_2bn op n nm ao len cap w e1 e2 (ieq h0) (empty_no hm)
      · rw [decide_eq_false h0, Bool.false_or]
        by_cases h01 : n = 1
        · rw [decide_eq_true h01, Bool.true_and]
          by_cases hm : nm.size = 0
          · rw [decide_eq_true hm, Bool.true_and, ← len_zero']; exact has_2ce op n nm ao len cap w e1 e2 (ine h0) (ieq h01) (empty_yes hm)
          · rw [decide_eq_false hm, Bool.false_and]; exact has_2cn op n nm ao len cap w e1 e2 (ine h0) (ieq h01) (empty_no hm)
        · rw [decide_eq_false h01, Bool.false_and]; exact has_2a op n nm ao len cap w e1 e2 (ine h0) (ine h01)
    · rw [if_neg h2]
      have e2 := neN (b := 2) h2
      by_cases h3 : op = 3
      · rw [if_pos h3]
        have e3 := eqN (b := 3) h3
        by_cases h0 : n = 0
        · rw [decide_eq_true h0, Bool.true_and]
          have c := fun W hT => name nm W hT
          cases hb : isName nm
          · rw [hb] at c; rw [Bool.false_and]; exact has_3b op n nm ao len cap w e1 e2 e3 (ieq h0) c hR
          · rw [hb] at c; rw [Bool.true_and, ← len_zero']; exact has_3c op n nm ao len cap w e1 e2 e3 (ieq h0) c hR
        · rw [decide_eq_false h0, Bool.false_and]; exact has_3a op n nm ao len cap w e1 e2 e3 (ine h0)
      · rw [if_neg h3]
        have e3 := neN (b := 3) h3
        have c := fun W hT => partsOf op W hT
        generalize parts op = p at c
        by_cases hp : 0 < p
        · have hp' : (0 : Int) < (p : Int) := by omega
          rw [decide_eq_true hp, Bool.true_and]
          by_cases h0 : n = 0
          · rw [decide_eq_true h0, Bool.true_and]
            by_cases hm : nm.size = 0
            · rw [decide_eq_true hm, Bool.true_and, ← len_eq]; exact has_4d op n nm ao len cap w e1 e2 e3 p c hJ hp' (ieq h0) (empty_yes hm)
            · rw [decide_eq_false hm, Bool.false_and]; exact has_4c op n nm ao len cap w e1 e2 e3 p c hJ hp' (ieq h0) (empty_no hm)
          · rw [decide_eq_false h0, Bool.false_and]; exact has_4b op n nm ao len cap w e1 e2 e3 p c hJ hp' (ine h0)
        · rw [decide_eq_false hp, Bool.false_and]; exact has_4a op n nm ao len cap w e1 e2 e3 p c hJ (by omega)
end Go.Proofs.YtkieljleopbhoaaDoor.Lex
namespace Go.Proofs.YtkieljleopbhoaaDoor.Lex
open Go.ChangeShapes Go.WideShapes Go.ChangeAt Go.RowKit Go.Joins
/-- Are a row's token and a mark the same? -/
def jIs (r : J) (m : Mark) : Bool := r.kind == m.kind && r.text.toList == m.text.toList
def jAt (m : Mark) : Option J := JT.find? fun r => jIs r m
theorem jAt_some {m : Mark} (k : Nat) (hk : k < 12) (h : ∀ j, j < k → jIs (jR j) m = false) (he : jIs (jR k) m = true) : jAt m = some (jR k) := by
  unfold jAt
  rw [List.find?_eq_some_iff_getElem]
  have hget : ∀ j (hj : j < JT.length), JT[j]'hj = jR j := fun j hj => by unfold jR; rw [List.getD_eq_getElem?_getD, List.getElem?_eq_getElem hj]; rfl
  have hk' : k < JT.length := hk
  refine ⟨he, k, hk', hget k hk', fun j hj => ?_⟩
  have e := hget j (by omega)
  have hn := h j hj
  rw [← e] at hn
  rw [hn]
  rfl
theorem jAt_none {m : Mark} (h : ∀ j, j < 12 → jIs (jR j) m = false) : jAt m = none := by
  unfold jAt
  rw [List.find?_eq_none]
  intro r hr
  obtain ⟨j, hj, e⟩ := List.getElem_of_mem hr
  have := h j hj
  unfold jR at this
  rw [List.getD_eq_getElem?_getD, List.getElem?_eq_getElem hj, e] at this
  simp only [Option.getD_some] at this
  rw [this]
  simp
def jAtOut (m : Mark) : Array Value := jrow ((jAt m).getD j0)
set_option maxRecDepth 100000 in
set_option maxHeartbeats 1000000 in
theorem joinAt (m : Mark) (w : World) (hT : TabJ w) : Calls Tryd.prog 85 #[mkV m] w fun e w' => e = .returned (.tuple #[.agg (jAtOut m), .bool (jAt m).isSome]) ∧ Below w.heap.size w w' := by
  obtain ⟨w0, hw0⟩ : ∃ w0, w0 = w.alloc (.cells #[.int .u8 (m.kind : Int), .string m.text] 81) := ⟨_, rfl⟩
  obtain ⟨w1, hw1⟩ : ∃ w1, w1 = w0.alloc (.cells (jrow j0) 83) := ⟨_, rfl⟩
  have hs0 : w0.heap.size = w.heap.size + 1 := by rw [hw0]; simp
  have hb0 : Below w.heap.size w w0 := by rw [hw0]; exact (Below.refl _ _).alloc (Nat.le_refl _) _
  have hb1' : Below w0.heap.size w0 w1 := by rw [hw1]; exact (Below.refl _ _).alloc (Nat.le_refl _) _
  have hb1 := bstep hb0 hb1'
  have hR1 : w1.heap[w.heap.size + 1]? = some (.cells (jrow j0) 83 (0, 0)) := by rw [hw1, ← hs0]; exact heap_alloc_new w0 _
  have hm1 : w1.heap[w.heap.size]? = some (.cells #[.int .u8 (m.kind : Int), .string m.text] 81 (0, 0)) := by
    rw [hb1'.block _ (by rw [hs0]; omega), hw0]; exact heap_alloc_new w _
  obtain ⟨t, fz, h0⟩ := hT.below hb1
  have HR := hid hR1
  have HM := hid hm1
  have HB := hid hb1
  clear hT hR1 hb1 hb0 hb1' hm1
  go_enter Tryd.func85, Tryd.ntmps85
  go_wp2_with (refine wpList_load_row rfl 96 _ rfl 0 rfl t joinV fz _ (by first | exact h0 | (rw [hw1, hw0] at h0; exact h0)) Tryd.underlying96 rfl (by kernel_rfl) ?_)
  go_loopw [7] (fun i wr => ∃ k : Nat, k ≤ 12 ∧ i = .int .i64 (k : Int) ∧ Hid (∀ j, j < k → jIs (jR j) m = false) ∧ Hid (Below w1.heap.size w1 wr)) (fun i _ => 12 - (intOf i).toNat)
  case atStart => exact ⟨0, by omega, rfl, fun j hj => by omega, by rw [hw1, hw0]; exact Below.refl _ _⟩
  case round =>
    obtain ⟨k, hk, rfl, hall, hB⟩ := hrel
    have hmr := (hB.out.block _ (Array.getElem?_eq_some_iff.1 HM.out).1).trans HM.out
    have q0 : wr.cell? ⟨w.heap.size, 0, none⟩ = some (.int .u8 (m.kind : Int)) := by rw [cell_of_row _ _ _ _ 81 (0, 0) hmr]; rfl
    have q1 : wr.cell? ⟨w.heap.size, 1, none⟩ = some (.string m.text) := by rw [cell_of_row _ _ _ _ 81 (0, 0) hmr]; rfl
    have qq := fun (C : Obj) => cell_kept q0 ((Below.refl wr.heap.size wr).alloc (Nat.le_refl _) C)
    have qr := fun (C : Obj) => cell_kept q1 ((Below.refl wr.heap.size wr).alloc (Nat.le_refl _) C)
    by_cases hlt : k < 12
    · have hlt' : (k : Int) < 12 := by omega
      have hx := fun W => j_index k hlt W
      unfold jrow at hx
      have y0 := qq (.cells (jrow (jR k)) 83)
      have y1 := qr (.cells (jrow (jR k)) 83)
      unfold jrow at y0 y1
      generalize hv : joinV = V at hx ⊢
      clear hv h0 hw1 hw0 qq qr q0 q1 hmr
      cases he : jIs (jR k) m
      · have Hnew : Hid (∀ j, j < k + 1 → jIs (jR j) m = false) := fun j hj => by
          by_cases e : j = k
          · rw [e]; exact he
          · exact hall.out j (by omega)
        have hsplit : (¬ (jR k).kind = m.kind) ∨ ((jR k).kind = m.kind ∧ ((jR k).text.toList == m.text.toList) = false) := by
          unfold jIs at he
          by_cases h : (jR k).kind = m.kind
          · right
            refine ⟨h, ?_⟩
            rw [h] at he
            simpa using he
          · exact .inl h
        clear hall he
        generalize (jR k).kind = K at *
        generalize (jR k).text = T at *
        rcases hsplit with h | ⟨rfl, h⟩
        · have h1 : ((K : Int) == (m.kind : Int)) = false := neN h
          go_wp2
          go_roundw
          case rel => exact ⟨k + 1, by omega, by go_num, Hnew, bstep hB.out ((Below.refl _ _).alloc (Nat.le_refl _) _)⟩
          case measure => simp [intOf]; omega
        · have h1 : ((m.kind : Int) == (m.kind : Int)) = true := by simp
          go_wp2
          go_roundw
          case rel => exact ⟨k + 1, by omega, by go_num, Hnew, bstep hB.out ((Below.refl _ _).alloc (Nat.le_refl _) _)⟩
          case measure => simp [intOf]; omega
      · have Hr : Hid (jAt m = some (jR k)) := jAt_some k hlt hall.out he
        have hboth : (jR k).kind = m.kind ∧ ((jR k).text.toList == m.text.toList) = true := by
          unfold jIs at he
          simpa using he
        have hRr : (wr.alloc (.cells (jrow (jR k)) 83)).heap[w.heap.size + 1]? = some (.cells (jrow j0) 83 (0, 0)) := by
          have hb := bstep hB.out ((Below.refl wr.heap.size wr).alloc (Nat.le_refl _) (.cells (jrow (jR k)) 83))
          exact (hb.block _ (Array.getElem?_eq_some_iff.1 HR.out).1).trans HR.out
        unfold jrow at hRr
        clear hall he
        obtain ⟨e1, e2⟩ := hboth
        have h1 : (((jR k).kind : Int) == (m.kind : Int)) = true := eqN e1
        clear e1
        go_wp2_with (refine wpList_store_row rfl 83 _ _ rfl (w.heap.size + 1) (jrow (jR k)) rfl rfl 83 _ hRr info83 rfl (by simp [Value.oneCell', jrow]) ?_)
        refine bodyPost_ret (results_row_tmp rfl _ _ (w.heap.size + 1) (jrow (jR k)) rfl (run_loadVar_row _ _ 83 83 (jrow (jR k)) (0, 0) _ (setRow_heap _ _ _ _ _ _ hRr) Tryd.underlying83 rfl info83)) rfl ⟨?_, ?_⟩
        · rw [jAtOut, Hr.out]; rfl
        · exact below_row (bstep (bstep HB.out hB.out) ((Below.refl _ _).alloc (Nat.le_refl _) _)) (by have := HB.out.size; have := hB.out.size; simp; omega) (by omega) _
    · have hlt' : ¬ (k : Int) < 12 := by omega
      have Hr : Hid (jAt m = none) := jAt_none fun j hj => hall.out j (by omega)
      have hRr : wr.heap[w.heap.size + 1]? = some (.cells (jrow j0) 83 (0, 0)) := (hB.out.block _ (Array.getElem?_eq_some_iff.1 HR.out).1).trans HR.out
      unfold jrow at hRr
      clear hall h0 hw1 hw0 qq qr q0 q1 hmr
      go_wp2_with (refine wpList_store_row rfl 83 _ _ rfl (w.heap.size + 1) (jrow j0) rfl rfl 83 _ hRr info83 rfl (by simp [Value.oneCell', jrow]) ?_)
      refine bodyPost_ret (results_row_tmp rfl _ _ (w.heap.size + 1) (jrow j0) rfl (run_loadVar_row _ _ 83 83 (jrow j0) (0, 0) _ (setRow_heap _ _ _ _ _ _ hRr) Tryd.underlying83 rfl info83)) rfl ⟨?_, ?_⟩
      · rw [jAtOut, Hr.out]; rfl
      · exact below_row (bstep HB.out hB.out) (by have := HB.out.size; have := hB.out.size; omega) (by omega) _
end Go.Proofs.YtkieljleopbhoaaDoor.Lex
namespace Go.Proofs.YtkieljleopbhoaaDoor.Lex
open Go.ChangeShapes Go.WideShapes Go.ChangeAt Go.RowKit Go.Joins
theorem MarksAt.carry {w w' : World} {v : Value} {ts : List Mark} (h : MarksAt w v ts) (hb : ∀ a n c, v = .slice (some a) n c → a.block < w.heap.size → w'.heap[a.block]? = w.heap[a.block]?) : MarksAt w' v ts := by
  obtain ⟨a, cap, rfl, hc⟩ := h
  refine ⟨a, cap, rfl, ?_⟩
  rcases hc with h0 | ⟨g, o, rfl, hc⟩
  · exact .inl h0
  · refine .inr ⟨g, o, rfl, fun i hi => ?_⟩
    obtain ⟨m0, m1, at_, m2⟩ := hc i hi
    have hlt : g < w.heap.size := World.block_lt_of_cell? w ⟨g, o + i * 3, none⟩ m0
    have hk : ∀ {q x}, w.cell? ⟨g, q, none⟩ = some x → w'.cell? ⟨g, q, none⟩ = some x := fun {q x} hx => by
      rw [World.cell?_of_block (w := w) (a := ⟨g, q, none⟩) (hb ⟨g, o, none⟩ _ _ rfl hlt)]
      exact hx
    exact ⟨hk m0, hk m1, at_, hk m2⟩
theorem Rdr.step {r mp : Nat} {v : Value} {ts : List Mark} {p : Nat} {w w' : World} (h : Rdr r mp v ts p w) (hb : Below w.heap.size w w') : Rdr r mp v ts p w' :=
  ⟨(hb.block r (Array.getElem?_eq_some_iff.1 h.cell).1).trans h.cell, h.toks.carry fun a _ _ _ hlt => hb.block a.block hlt, h.le, h.few, h.far, h.own⟩
theorem set_same' {w : World} {b : Nat} {c : Array Value} {t : TypeId} {f : Nat × Nat} (h : w.heap[b]? = some (.cells c t f)) (i : Nat) (u : Value) : (w.setCell ⟨b, i, none⟩ u).heap[b]? = some (.cells (c.setIfInBounds i u) t f) := by
  obtain ⟨hlt, hk⟩ := Array.getElem?_eq_some_iff.1 h
  show (w.heap.modify b _)[b]? = _
  rw [Array.getElem?_eq_getElem (by rw [Array.size_modify]; exact hlt), Array.getElem_modify_self, hk]
  rfl
/-- The reader goes to another place. -/
theorem Rdr.move {r mp : Nat} {v : Value} {ts : List Mark} {p : Nat} {w : World} (h : Rdr r mp v ts p w) (q : Nat) (hq : q ≤ ts.length) : Rdr r mp v ts q (w.setCell ⟨r, 1, none⟩ (.int .i64 (q : Int))) :=
  ⟨set_same' h.cell 1 _, h.toks.carry fun a n c e _ => Below.heap_setCell w ⟨r, 1, none⟩ _ a.block (h.far a n c e), hq, h.few, h.far, h.own⟩
end Go.Proofs.YtkieljleopbhoaaDoor.Lex
namespace Go.Proofs.YtkieljleopbhoaaDoor.Lex
open Go.ChangeShapes Go.WideShapes Go.ChangeAt Go.RowKit Go.Joins
/-- It stands in memory, in blocks that are so, looked at so deep. -/
def StPN (ok : Nat → Prop) (w : World) : Nat → Ex → Value → Prop
  | 0, _, _ => False
  | k + 1, x, s => ∃ (ao : Option Addr) (cap : Nat) (sl : Nat → Value), s = .slice ao x.args.length cap ∧ x.op < 256 ∧ (-9223372036854775808 ≤ x.n ∧ x.n ≤ 9223372036854775807) ∧ x.name.size ≤ 140737488355328 ∧ x.args.length ≤ 2513169434843 ∧ x.args.length ≤ cap ∧
    (x.args.length = 0 ∨ ∃ b o, ao = some ⟨b, o, none⟩ ∧ ok b ∧ ∀ i (h : i < x.args.length), w.cell? ⟨b, o + i * 4, none⟩ = some (.int .u8 (x.args[i].op : Int)) ∧ w.cell? ⟨b, o + i * 4 + 1, none⟩ = some (.int .i64 x.args[i].n) ∧
        w.cell? ⟨b, o + i * 4 + 2, none⟩ = some (.string x.args[i].name) ∧ w.cell? ⟨b, o + i * 4 + 3, none⟩ = some (sl i)) ∧ ∀ i (h : i < x.args.length), StPN ok w k x.args[i] (sl i)
theorem StPN.up {ok : Nat → Prop} {w : World} : ∀ (k' k : Nat) (x : Ex) (s : Value), StPN ok w k x s → SizeOf.sizeOf x ≤ k' → StPN ok w k' x s
  | 0, k, x, s, _, hs => by have := x.pos; omega
  | k' + 1, 0, x, s, h, _ => h.elim
  | k' + 1, k + 1, x, s, h, hs => by
    obtain ⟨ao, cap, sl, h1, h2, h3, h4, h5, h6, h7, h8⟩ := h
    exact ⟨ao, cap, sl, h1, h2, h3, h4, h5, h6, h7, fun i hi => StPN.up k' k _ _ (h8 i hi) (by have := x.part_lt i hi; omega)⟩
/-- It stands in memory, in blocks that are so. -/
def StP (ok : Nat → Prop) (w : World) (x : Ex) (s : Value) : Prop := StPN ok w (SizeOf.sizeOf x) x s
theorem StP.intro {ok : Nat → Prop} {w : World} (x : Ex) (ao : Option Addr) (cap : Nat) (sl : Nat → Value) (hop : x.op < 256) (hn : -9223372036854775808 ≤ x.n ∧ x.n ≤ 9223372036854775807) (hnm : x.name.size ≤ 140737488355328) (hlen : x.args.length ≤ 2513169434843) (hcap : x.args.length ≤ cap)
      (hc : x.args.length = 0 ∨ ∃ b o, ao = some ⟨b, o, none⟩ ∧ ok b ∧ ∀ i (h : i < x.args.length), w.cell? ⟨b, o + i * 4, none⟩ = some (.int .u8 (x.args[i].op : Int)) ∧ w.cell? ⟨b, o + i * 4 + 1, none⟩ = some (.int .i64 x.args[i].n) ∧
        w.cell? ⟨b, o + i * 4 + 2, none⟩ = some (.string x.args[i].name) ∧ w.cell? ⟨b, o + i * 4 + 3, none⟩ = some (sl i))
      (hs : ∀ i (h : i < x.args.length), StP ok w x.args[i] (sl i)) : StP ok w x (.slice ao x.args.length cap) := by
  unfold StP
  obtain ⟨m, hm⟩ : ∃ m, SizeOf.sizeOf x = m + 1 := ⟨SizeOf.sizeOf x - 1, by have := x.pos; omega⟩
  rw [hm]
  exact ⟨ao, cap, sl, rfl, hop, hn, hnm, hlen, hcap, hc, fun i hi => StPN.up m _ _ _ (hs i hi) (by have := x.part_lt i hi; omega)⟩
theorem StP.out {ok : Nat → Prop} {w : World} {x : Ex} {s : Value} (h : StP ok w x s) : ∃ (ao : Option Addr) (cap : Nat) (sl : Nat → Value), s = .slice ao x.args.length cap ∧ x.op < 256 ∧ (-9223372036854775808 ≤ x.n ∧ x.n ≤ 9223372036854775807) ∧ x.name.size ≤ 140737488355328 ∧ x.args.length ≤ 2513169434843 ∧ x.args.length ≤ cap ∧
    (x.args.length = 0 ∨ ∃ b o, ao = some ⟨b, o, none⟩ ∧ ok b ∧ ∀ i (h : i < x.args.length), w.cell? ⟨b, o + i * 4, none⟩ = some (.int .u8 (x.args[i].op : Int)) ∧ w.cell? ⟨b, o + i * 4 + 1, none⟩ = some (.int .i64 x.args[i].n) ∧
        w.cell? ⟨b, o + i * 4 + 2, none⟩ = some (.string x.args[i].name) ∧ w.cell? ⟨b, o + i * 4 + 3, none⟩ = some (sl i)) ∧ ∀ i (h : i < x.args.length), StP ok w x.args[i] (sl i) := by
  unfold StP at h
  obtain ⟨m, hm⟩ : ∃ m, SizeOf.sizeOf x = m + 1 := ⟨SizeOf.sizeOf x - 1, by have := x.pos; omega⟩
  rw [hm] at h
  obtain ⟨ao, cap, sl, h1, h2, h3, h4, h5, h6, h7, h8⟩ := h
  exact ⟨ao, cap, sl, h1, h2, h3, h4, h5, h6, h7, fun i hi => StPN.up _ m _ _ (h8 i hi) (Nat.le_refl _)⟩
theorem StP.carryN {ok ok' : Nat → Prop} {w w' : World} (hb : ∀ b, ok b → b < w.heap.size → w'.heap[b]? = w.heap[b]?) (ho : ∀ b, b < w.heap.size → ok b → ok' b) : ∀ (m : Nat) (x : Ex) (s : Value), SizeOf.sizeOf x ≤ m → StP ok w x s → StP ok' w' x s
  | 0, x, s, hm, _ => by have := x.pos; omega
  | m + 1, x, s, hm, h => by
    obtain ⟨ao, cap, sl, rfl, hop, hn, hnm, hlen, hcap, hc, hs⟩ := h.out
    refine StP.intro x ao cap sl hop hn hnm hlen hcap ?_ (fun i hi => StP.carryN hb ho m _ _ (by have := x.part_lt i hi; omega) (hs i hi))
    by_cases h00 : x.args.length = 0
    · exact .inl h00
    · obtain ⟨b, o, ha, hok, hc⟩ := hc.resolve_left h00
      have hlt : b < w.heap.size := World.block_lt_of_cell? w ⟨b, o + 0 * 4, none⟩ (hc 0 (by omega)).1
      have hk : ∀ {q v}, w.cell? ⟨b, q, none⟩ = some v → w'.cell? ⟨b, q, none⟩ = some v := fun {q v} h => by
        rw [World.cell?_of_block (w := w) (a := ⟨b, q, none⟩) (hb b hok hlt)]
        exact h
      refine .inr ⟨b, o, ha, ho b hlt hok, fun i hi => ?_⟩
      obtain ⟨h0, h1, h2, h3⟩ := hc i hi
      exact ⟨hk h0, hk h1, hk h2, hk h3⟩
theorem StP.carry {ok : Nat → Prop} {w w' : World} {x : Ex} {s : Value} (h : StP ok w x s) (hb : ∀ b, ok b → b < w.heap.size → w'.heap[b]? = w.heap[b]?) : StP ok w' x s := StP.carryN hb (fun _ _ h => h) _ x s (Nat.le_refl _) h
theorem StP.stN {ok : Nat → Prop} {w : World} : ∀ (m : Nat) (x : Ex) (s : Value), SizeOf.sizeOf x ≤ m → StP ok w x s → St w x s
  | 0, x, s, hm, _ => by have := x.pos; omega
  | m + 1, x, s, hm, h => by
    obtain ⟨ao, cap, sl, rfl, hop, hn, hnm, hlen, hcap, hc, hs⟩ := h.out
    refine St.intro x ao cap sl hop hn hnm hlen hcap ?_ (fun i hi => StP.stN m _ _ (by have := x.part_lt i hi; omega) (hs i hi))
    rcases hc with h0 | ⟨b, o, ha, _, hc⟩
    · exact .inl h0
    · exact .inr ⟨b, o, ha, hc⟩
theorem StP.st {ok : Nat → Prop} {w : World} {x : Ex} {s : Value} (h : StP ok w x s) : St w x s := StP.stN _ x s (Nat.le_refl _) h
/-- What has no parts stands anywhere. -/
theorem StP.leaf {ok : Nat → Prop} {w : World} (op : Nat) (n : Int) (nm : ByteArray) (hop : op < 256) (hn : -9223372036854775808 ≤ n ∧ n ≤ 9223372036854775807) (hnm : nm.size ≤ 140737488355328) : StP ok w ⟨op, n, nm, []⟩ (.slice none 0 0) :=
  StP.intro ⟨op, n, nm, []⟩ none 0 (fun _ => .slice none 0 0) hop hn hnm (Nat.zero_le _) (Nat.le_refl _) (.inl rfl) (fun i hi => by cases hi)
end Go.Proofs.YtkieljleopbhoaaDoor.Lex
namespace Go.Proofs.YtkieljleopbhoaaDoor.Lex
open Go.ChangeShapes Go.WideShapes Go.ChangeAt Go.RowKit Go.Joins
/-- ExprSize returns some number. -/
def SizeC (x : Ex) : Prop := ∀ (w : World) (s : Value), St w x s → Calls Tryd.prog 7 #[exV x s] w fun e w' => (∃ m : Int, e = .returned (.int .i64 m)) ∧ Below w.heap.size w w'
set_option maxRecDepth 100000 in
set_option maxHeartbeats 1000000 in
theorem sizes (x : Ex) (ih : ∀ i (h : i < x.args.length), SizeC x.args[i]) (w : World) (s : Value) (hS : St w x s) :
    Calls Tryd.prog 23 #[s] w fun e w' => (∃ m : Int, e = .returned (.int .i64 m)) ∧ Below w.heap.size w w' := by
  obtain ⟨ao, cap, sl, rfl, _, _, _, hlen, _, hc, hs⟩ := hS.out
  have HS := hid hs
  have HC := hid hc
  have HI := hid ih
  clear hs hc ih hS
  go_enter Tryd.func23, Tryd.ntmps23
  go_wp2
  go_loopw [3, 4] (fun n i wr => ∃ (z : Int) (k : Nat), k ≤ x.args.length ∧ n = .int .i64 z ∧ i = .int .i64 (k : Int) ∧ Hid (Below w.heap.size w wr)) (fun _ i _ => x.args.length - (intOf i).toNat)
  case atStart => exact ⟨_, 0, Nat.zero_le _, rfl, rfl, Below.refl _ _⟩
  case round =>
    obtain ⟨z, k, hk, rfl, rfl, hB⟩ := hrel
    by_cases hlt : k < x.args.length
    · have hlt' : (k : Int) < (x.args.length : Int) := by omega
      have hk0 : (0 : Int) ≤ (k : Int) := by omega
      by_cases hz : z ≤ 1048576
      · obtain ⟨b, o, rfl, hc⟩ := HC.out.resolve_left (by omega)
        obtain ⟨h0, h1, h2, h3⟩ := hc k hlt
        have y0 := cell_kept h0 hB.out
        have y1 := cell_kept h1 hB.out
        have y2 := cell_kept h2 hB.out
        have y3 := cell_kept h3 hB.out
        have c := HI.out k hlt wr (sl k) ((HS.out k hlt).keep hB.out)
        clear h0 h1 h2 h3 hc
        generalize x.args[k] = y at *
        go_wp2_with (go_at_call 7; refine c.mono ?_; rintro e w2 ⟨⟨m, rfl⟩, hb2⟩)
        go_roundw
        case rel => exact ⟨_, k + 1, by omega, rfl, by go_num, bstep hB.out hb2⟩
        case measure => simp [intOf]; omega
      · go_wp2
        go_ret
        exact ⟨⟨_, rfl⟩, hB.out⟩
    · have hlt' : ¬ (k : Int) < (x.args.length : Int) := by omega
      go_wp2
      go_ret
      exact ⟨⟨_, rfl⟩, hB.out⟩
set_option maxRecDepth 100000 in
theorem size_of (x : Ex) (ih : ∀ i (h : i < x.args.length), SizeC x.args[i]) : SizeC x := by
  intro w s hS
  have hs := fun W h => sizes x ih W s h
  obtain ⟨ao, cap, sl, rfl, hop, hn, hnm, hlen, hcap, hc, _⟩ := hS.out
  have HS := hid hS
  clear ih hc hS
  by_cases hle : (1 : Int) + (x.name.size : Int) ≤ 1048576
  · go_enter Tryd.func7, Tryd.ntmps7
    go_wp2_with (go_at_call 23; refine (hs _ (HS.out.keep ((Below.refl _ _).alloc (Nat.le_refl _) _))).mono ?_; rintro e w2 ⟨⟨m, rfl⟩, hb2⟩)
    go_ret
    exact ⟨⟨_, rfl⟩, bstep ((Below.refl _ _).alloc (Nat.le_refl _) _) hb2⟩
  · go_enter Tryd.func7, Tryd.ntmps7
    go_wp2
    go_ret
    exact ⟨⟨_, rfl⟩, (Below.refl _ _).alloc (Nat.le_refl _) _⟩
/-- ExprSize returns some number. -/
theorem size_any : ∀ (m : Nat) (x : Ex), SizeOf.sizeOf x ≤ m → SizeC x := by
  intro m
  induction m with
  | zero => intro x h; obtain ⟨o, n, s, l⟩ := x; simp at h
  | succ m ih => intro x h; exact size_of x fun i hi => ih _ (by have := x.part_lt i hi; omega)
end Go.Proofs.YtkieljleopbhoaaDoor.Lex
namespace Go.Proofs.YtkieljleopbhoaaDoor.Lex
open Go.ChangeShapes Go.WideShapes Go.ChangeAt Go.RowKit Go.Joins
def spare : ByteArray := ⟨#[115, 112, 97, 114, 101]⟩
/-- A twin in memory, in blocks from some one on, looked at so deep. -/
def TwN (w : World) (lo : Nat) : Nat → Ex → Value → Prop
  | 0, _, _ => False
  | k + 1, x, s => ∃ (b cap : Nat) (sl : Nat → Value), s = .slice (some ⟨b, 0, none⟩) x.args.length cap ∧ lo ≤ b ∧ x.op < 256 ∧ (-9223372036854775808 ≤ x.n ∧ x.n ≤ 9223372036854775807) ∧ x.name.size ≤ 140737488355328 ∧ x.args.length ≤ 2513169434843 ∧ x.args.length < cap ∧
    (∀ i (h : i < x.args.length), w.cell? ⟨b, i * 4, none⟩ = some (.int .u8 (x.args[i].op : Int)) ∧ w.cell? ⟨b, i * 4 + 1, none⟩ = some (.int .i64 x.args[i].n) ∧ w.cell? ⟨b, i * 4 + 2, none⟩ = some (.string x.args[i].name) ∧ w.cell? ⟨b, i * 4 + 3, none⟩ = some (sl i)) ∧
    (w.cell? ⟨b, x.args.length * 4, none⟩ = some (.int .u8 0) ∧ w.cell? ⟨b, x.args.length * 4 + 1, none⟩ = some (.int .i64 0) ∧ w.cell? ⟨b, x.args.length * 4 + 2, none⟩ = some (.string spare) ∧ w.cell? ⟨b, x.args.length * 4 + 3, none⟩ = some (.slice none 0 0)) ∧ ∀ i (h : i < x.args.length), TwN w lo k x.args[i] (sl i)
theorem TwN.up {w : World} {lo : Nat} : ∀ (k' k : Nat) (x : Ex) (s : Value), TwN w lo k x s → SizeOf.sizeOf x ≤ k' → TwN w lo k' x s
  | 0, k, x, s, _, hs => by have := x.pos; omega
  | k' + 1, 0, x, s, h, _ => h.elim
  | k' + 1, k + 1, x, s, h, hs => by
    obtain ⟨b, cap, sl, h1, h2, h3, h4, h5, h6, h7, h8, h9, h10⟩ := h
    exact ⟨b, cap, sl, h1, h2, h3, h4, h5, h6, h7, h8, h9, fun i hi => TwN.up k' k _ _ (h10 i hi) (by have := x.part_lt i hi; omega)⟩
/-- A twin in memory, in blocks from some one on. -/
def Tw (w : World) (lo : Nat) (x : Ex) (s : Value) : Prop := TwN w lo (SizeOf.sizeOf x) x s
theorem Tw.intro {w : World} {lo : Nat} (x : Ex) (b cap : Nat) (sl : Nat → Value) (hlo : lo ≤ b) (hop : x.op < 256) (hn : -9223372036854775808 ≤ x.n ∧ x.n ≤ 9223372036854775807) (hnm : x.name.size ≤ 140737488355328) (hlen : x.args.length ≤ 2513169434843) (hcap : x.args.length < cap)
      (hc : ∀ i (h : i < x.args.length), w.cell? ⟨b, i * 4, none⟩ = some (.int .u8 (x.args[i].op : Int)) ∧ w.cell? ⟨b, i * 4 + 1, none⟩ = some (.int .i64 x.args[i].n) ∧ w.cell? ⟨b, i * 4 + 2, none⟩ = some (.string x.args[i].name) ∧ w.cell? ⟨b, i * 4 + 3, none⟩ = some (sl i))
      (hsp : w.cell? ⟨b, x.args.length * 4, none⟩ = some (.int .u8 0) ∧ w.cell? ⟨b, x.args.length * 4 + 1, none⟩ = some (.int .i64 0) ∧ w.cell? ⟨b, x.args.length * 4 + 2, none⟩ = some (.string spare) ∧ w.cell? ⟨b, x.args.length * 4 + 3, none⟩ = some (.slice none 0 0))
      (hs : ∀ i (h : i < x.args.length), Tw w lo x.args[i] (sl i)) : Tw w lo x (.slice (some ⟨b, 0, none⟩) x.args.length cap) := by
  unfold Tw
  obtain ⟨m, hm⟩ : ∃ m, SizeOf.sizeOf x = m + 1 := ⟨SizeOf.sizeOf x - 1, by have := x.pos; omega⟩
  rw [hm]
  exact ⟨b, cap, sl, rfl, hlo, hop, hn, hnm, hlen, hcap, hc, hsp, fun i hi => TwN.up m _ _ _ (hs i hi) (by have := x.part_lt i hi; omega)⟩
theorem Tw.full {w : World} {lo : Nat} {x : Ex} {s : Value} (h : Tw w lo x s) : ∃ (b cap : Nat) (sl : Nat → Value), s = .slice (some ⟨b, 0, none⟩) x.args.length cap ∧ lo ≤ b ∧ x.op < 256 ∧ (-9223372036854775808 ≤ x.n ∧ x.n ≤ 9223372036854775807) ∧ x.name.size ≤ 140737488355328 ∧ x.args.length ≤ 2513169434843 ∧ x.args.length < cap ∧
    (∀ i (h : i < x.args.length), w.cell? ⟨b, i * 4, none⟩ = some (.int .u8 (x.args[i].op : Int)) ∧ w.cell? ⟨b, i * 4 + 1, none⟩ = some (.int .i64 x.args[i].n) ∧ w.cell? ⟨b, i * 4 + 2, none⟩ = some (.string x.args[i].name) ∧ w.cell? ⟨b, i * 4 + 3, none⟩ = some (sl i)) ∧
    (w.cell? ⟨b, x.args.length * 4, none⟩ = some (.int .u8 0) ∧ w.cell? ⟨b, x.args.length * 4 + 1, none⟩ = some (.int .i64 0) ∧ w.cell? ⟨b, x.args.length * 4 + 2, none⟩ = some (.string spare) ∧ w.cell? ⟨b, x.args.length * 4 + 3, none⟩ = some (.slice none 0 0)) ∧ ∀ i (h : i < x.args.length), Tw w lo x.args[i] (sl i) := by
  unfold Tw at h
  obtain ⟨m, hm⟩ : ∃ m, SizeOf.sizeOf x = m + 1 := ⟨SizeOf.sizeOf x - 1, by have := x.pos; omega⟩
  rw [hm] at h
  obtain ⟨b, cap, sl, h1, h2, h3, h4, h5, h6, h7, h8, h9, h10⟩ := h
  exact ⟨b, cap, sl, h1, h2, h3, h4, h5, h6, h7, h8, h9, fun i hi => TwN.up _ m _ _ (h10 i hi) (Nat.le_refl _)⟩
theorem Tw.carryN {w w' : World} {lo lo' : Nat} (hb : ∀ b, lo ≤ b → b < w.heap.size → w'.heap[b]? = w.heap[b]?) (hl : lo' ≤ lo) : ∀ (m : Nat) (x : Ex) (s : Value), SizeOf.sizeOf x ≤ m → Tw w lo x s → Tw w' lo' x s
  | 0, x, s, hm, _ => by have := x.pos; omega
  | m + 1, x, s, hm, h => by
    obtain ⟨b, cap, sl, rfl, hlo, hop, hn, hnm, hlen, hcap, hc, hsp, hs⟩ := h.full
    have hk : ∀ {o v}, w.cell? ⟨b, o, none⟩ = some v → w'.cell? ⟨b, o, none⟩ = some v := fun {o v} h => by
      have hlt := World.block_lt_of_cell? w _ h
      rw [World.cell?_of_block (w := w) (a := ⟨b, o, none⟩) (hb b hlo hlt)]
      exact h
    refine Tw.intro x b cap sl (by omega) hop hn hnm hlen hcap (fun i hi => ?_) ⟨hk hsp.1, hk hsp.2.1, hk hsp.2.2.1, hk hsp.2.2.2⟩ (fun i hi => Tw.carryN hb hl m _ _ (by have := x.part_lt i hi; omega) (hs i hi))
    obtain ⟨h0, h1, h2, h3⟩ := hc i hi
    exact ⟨hk h0, hk h1, hk h2, hk h3⟩
theorem Tw.carry {w w' : World} {lo : Nat} {x : Ex} {s : Value} (h : Tw w lo x s) (hb : ∀ b, lo ≤ b → b < w.heap.size → w'.heap[b]? = w.heap[b]?) : Tw w' lo x s := Tw.carryN hb (Nat.le_refl _) _ x s (Nat.le_refl _) h
theorem Tw.keep {w w' : World} {lo : Nat} {x : Ex} {s : Value} (h : Tw w lo x s) (hb : Below w.heap.size w w') : Tw w' lo x s := h.carry fun b _ hlt => hb.block b hlt
theorem Tw.grown {w w' : World} {lo g : Nat} {x : Ex} {s : Value} (h : Tw w lo x s) (hg : w.grownBy w' (some g)) (hlt : g < lo) : Tw w' lo x s := h.carry fun b hb hl => hg.block b hl (fun e => by cases e; omega)
theorem Tw.low {w : World} {lo lo' : Nat} {x : Ex} {s : Value} (h : Tw w lo x s) (hl : lo' ≤ lo) : Tw w lo' x s := Tw.carryN (fun _ _ _ => rfl) hl _ x s (Nat.le_refl _) h
theorem Tw.stN {w : World} {lo : Nat} : ∀ (m : Nat) (x : Ex) (s : Value), SizeOf.sizeOf x ≤ m → Tw w lo x s → St w x s
  | 0, x, s, hm, _ => by have := x.pos; omega
  | m + 1, x, s, hm, h => by
    obtain ⟨b, cap, sl, rfl, hlo, hop, hn, hnm, hlen, hcap, hc, hsp, hs⟩ := h.full
    exact St.intro x _ cap sl hop hn hnm hlen (by omega) (.inr ⟨b, 0, rfl, fun i hi => by simpa using hc i hi⟩) (fun i hi => Tw.stN m _ _ (by have := x.part_lt i hi; omega) (hs i hi))
theorem Tw.st {w : World} {lo : Nat} {x : Ex} {s : Value} (h : Tw w lo x s) : St w x s := Tw.stN _ x s (Nat.le_refl _) h
/-- The cells of parts, each with where its own lie. -/
def pairV (p : Ex × Value) : List Value := [.int .u8 (p.1.op : Int), .int .i64 p.1.n, .string p.1.name, p.2]
def pairsV (ps : List (Ex × Value)) : List Value := ps.flatMap pairV
theorem pairsV_len (ps : List (Ex × Value)) : (pairsV ps).length = ps.length * 4 := by
  induction ps with
  | nil => rfl
  | cons p ps ih => simp only [pairsV, List.flatMap_cons, List.length_append, List.length_cons] at ih ⊢; rw [ih]; simp [pairV]; omega
theorem pairsV_app (ps qs : List (Ex × Value)) : pairsV (ps ++ qs) = pairsV ps ++ pairsV qs := by simp [pairsV]
theorem pairsV_at (ps : List (Ex × Value)) (rest : List Value) : ∀ (i : Nat) (h : i < ps.length), (pairsV ps ++ rest)[i * 4]? = some (.int .u8 (ps[i].1.op : Int)) ∧ (pairsV ps ++ rest)[i * 4 + 1]? = some (.int .i64 ps[i].1.n) ∧ (pairsV ps ++ rest)[i * 4 + 2]? = some (.string ps[i].1.name) ∧ (pairsV ps ++ rest)[i * 4 + 3]? = some ps[i].2 := by
  induction ps with
  | nil => intro i h; cases h
  | cons p ps ih =>
    intro i h
    have e : pairsV (p :: ps) ++ rest = pairV p ++ (pairsV ps ++ rest) := by simp [pairsV]
    rw [e]
    cases i with
    | zero => exact ⟨rfl, rfl, rfl, rfl⟩
    | succ i =>
      have h' : i < ps.length := by simpa using h
      have hs : ∀ j, (pairV p ++ (pairsV ps ++ rest))[(i + 1) * 4 + j]? = (pairsV ps ++ rest)[i * 4 + j]? := fun j => by
        rw [List.getElem?_append_right (by simp [pairV]; omega)]
        congr 1
        simp [pairV]; omega
      have := ih i h'
      refine ⟨?_, ?_, ?_, ?_⟩
      · rw [← Nat.add_zero ((i + 1) * 4), hs 0]; exact this.1
      · rw [hs 1]; exact this.2.1
      · rw [hs 2]; exact this.2.2.1
      · rw [hs 3]; exact this.2.2.2
def TwinC (x : Ex) : Prop := ∀ (w : World) (s : Value), St w x s → Calls Tryd.prog 8 #[exV x s] w fun e w' => ∃ s', e = .returned (exV x s') ∧ Tw w' w.heap.size x s' ∧ Below w.heap.size w w'
theorem info25' : (Tryd.prog.info? 25).map (fun i => (i.zero, i.size, i.bytes)) = some (some (.agg #[.int .u8 0, .int .i64 0, .string ByteArray.empty, .slice none 0 0]), 4, 56) := by kernel_rfl
/-- While the twin's row is made. -/
structure Mk (w : World) (x : Ex) (k : Nat) (ps : List (Ex × Value)) (W : World) : Prop where
  below : Below w.heap.size w W
  row : W.ownsRow w.heap.size 25 4 (.slice (some ⟨w.heap.size, 0, none⟩) k (x.args.length + 1)) k (pairsV ps)
  len : ps.length = k
  fst : ps.map (·.1) = x.args.take k
  parts : ∀ p ∈ ps, Tw W (w.heap.size + 1) p.1 p.2
  size : w.heap.size < W.heap.size
theorem Mk.step {w W W' : World} {x : Ex} {k : Nat} {ps : List (Ex × Value)} (h : Mk w x k ps W) (hb : Below W.heap.size W W') : Mk w x k ps W' :=
  ⟨bstep h.below hb, by
    have hr := h.row
    refine ⟨hr.1, ?_⟩
    rcases hr.2 with hn | ⟨g, cap, cur, e, hg0, hg, rest⟩
    · exact .inl hn
    · exact .inr ⟨g, cap, cur, e, hg0, (hb.block g (Array.getElem?_eq_some_iff.1 hg).1).trans hg, rest⟩, h.len, h.fst, fun p hp => (h.parts p hp).keep hb, Nat.lt_of_lt_of_le h.size hb.size⟩
theorem Mk.grow {w W W' : World} {x y : Ex} {k : Nat} {ps : List (Ex × Value)} {s : Value} (h : Mk w x k ps W) (hk : k < x.args.length) (hy : x.args[k] = y) (hT : Tw W (w.heap.size + 1) y s)
    (hr : W'.ownsRow w.heap.size 25 4 (.slice (some ⟨w.heap.size, 0, none⟩) (k + 1) (x.args.length + 1)) (k + 1) (pairsV ps ++ pairV (y, s))) (hg : W.grownBy W' (some w.heap.size)) : Mk w x (k + 1) (ps ++ [(y, s)]) W' where
  below := h.below.grown hg h.below.size (fun j hj => by cases hj; exact Nat.le_refl _)
  row := by rw [pairsV_app]; simpa [pairsV] using hr
  len := by simp [h.len]
  fst := by rw [List.map_append, h.fst, List.take_succ_eq_append_getElem hk, hy]; rfl
  parts := fun p hp => by
    rcases List.mem_append.1 hp with hp | hp
    · exact (h.parts p hp).grown hg (by omega)
    · rw [List.mem_singleton.1 hp]; exact hT.grown hg (by omega)
  size := Nat.lt_of_lt_of_le h.size hg.size
theorem four_next (w : World) (a b c d : Value) : ∀ j u, [a, b, c, d][j]? = some u → (w.alloc (.cells #[a, b, c, d] 25)).cell? ((⟨w.heap.size, 0, none⟩ : Addr).add j) = some u := by
  intro j u hj
  have hadd : (⟨w.heap.size, 0, none⟩ : Addr).add j = ⟨w.heap.size, j, none⟩ := by unfold Addr.add; split <;> simp_all
  rw [hadd, World.cell?_alloc_at _ _ _ _ rfl]
  simpa using hj
end Go.Proofs.YtkieljleopbhoaaDoor.Lex
namespace Go.Proofs.YtkieljleopbhoaaDoor.Lex
open Go.ChangeShapes Go.WideShapes Go.ChangeAt Go.RowKit Go.Joins
theorem Mk.done {w W W' : World} {x : Ex} {ps : List (Ex × Value)} (h : Mk w x x.args.length ps W) (hop : x.op < 256) (hn : -9223372036854775808 ≤ x.n ∧ x.n ≤ 9223372036854775807) (hnm : x.name.size ≤ 140737488355328) (hlen : x.args.length ≤ 2513169434843)
    (hr : W'.ownsRow w.heap.size 25 4 (.slice (some ⟨w.heap.size, 0, none⟩) (x.args.length + 1) (x.args.length + 1)) (x.args.length + 1) (pairsV ps ++ [.int .u8 0, .int .i64 0, .string spare, .slice none 0 0])) (hg : W.grownBy W' (some w.heap.size)) :
    Tw W' w.heap.size x (.slice (some ⟨w.heap.size, 0, none⟩) x.args.length (x.args.length + 1)) := by
  have hl := h.len
  have hf : ps.map (·.1) = x.args := by rw [h.fst, List.take_length]
  have hfst : ∀ i (hi : i < ps.length), ps[i].1 = x.args[i]'(by omega) := fun i hi => by
    have : (ps.map (·.1))[i]'(by simpa using hi) = x.args[i]'(by omega) := by simp only [hf]
    simpa using this
  refine Tw.intro x w.heap.size (x.args.length + 1) (fun i => (ps[i]?.map (·.2)).getD (.slice none 0 0)) (Nat.le_refl _) hop hn hnm hlen (by omega) (fun i hi => ?_) ?_ (fun i hi => ?_)
  · obtain ⟨q0, q1, q2, q3⟩ := pairsV_at ps [.int .u8 0, .int .i64 0, .string spare, .slice none 0 0] i (by omega)
    rw [hfst i (by omega)] at q0 q1 q2
    refine ⟨?_, ?_, ?_, ?_⟩
    · rw [hr.cellAt _ (by omega)]; exact q0
    · rw [hr.cellAt _ (by omega)]; exact q1
    · rw [hr.cellAt _ (by omega)]; exact q2
    · rw [hr.cellAt _ (by omega), q3, List.getElem?_eq_getElem (by omega)]; rfl
  · have hs : ∀ j, j < 4 → (pairsV ps ++ [.int .u8 0, .int .i64 0, .string spare, .slice none 0 0])[x.args.length * 4 + j]? = ([.int .u8 0, .int .i64 0, .string spare, .slice none 0 0] : List Value)[j]? := fun j hj => by
      rw [List.getElem?_append_right (by rw [pairsV_len]; omega), pairsV_len, hl]
      congr 1
      omega
    refine ⟨?_, ?_, ?_, ?_⟩
    · rw [hr.cellAt _ (by omega), ← Nat.add_zero (x.args.length * 4), hs 0 (by omega)]; rfl
    · rw [hr.cellAt _ (by omega), hs 1 (by omega)]; rfl
    · rw [hr.cellAt _ (by omega), hs 2 (by omega)]; rfl
    · rw [hr.cellAt _ (by omega), hs 3 (by omega)]; rfl
  · have hip : i < ps.length := by omega
    have := (h.parts ps[i] (List.getElem_mem hip)).grown hg (by omega)
    rw [hfst i hip] at this
    rw [List.getElem?_eq_getElem hip]
    exact this.low (by omega)
theorem Mk.start {w w1 : World} (x : Ex) (hown : w1.ownsRow w.heap.size 25 4 (.slice (some ⟨w.heap.size, 0, none⟩) 0 (x.args.length + 1)) 0 []) (hg : w.grownBy w1 none) : Mk w x 0 [] w1 where
  below := (Below.refl _ _).grown hg (Nat.le_refl _) (fun k hk => by cases hk)
  row := hown
  len := rfl
  fst := rfl
  parts := fun p hp => by cases hp
  size := by
    rcases hown.2 with ⟨h, _⟩ | ⟨g, c, cur, e, _, hh, _⟩
    · cases h
    · injection e with e1 _ _
      injection e1 with e1
      injection e1 with e1 _ _
      subst e1
      exact (Array.getElem?_eq_some_iff.1 hh).1
set_option maxRecDepth 100000 in
set_option maxHeartbeats 2000000 in
theorem twins (x : Ex) (ih : ∀ i (h : i < x.args.length), TwinC x.args[i]) (w : World) (s : Value) (hS : St w x s) :
    Calls Tryd.prog 24 #[s] w fun e w' => ∃ s', e = .returned s' ∧ Tw w' w.heap.size x s' ∧ Below w.heap.size w w' := by
  obtain ⟨ao, cap, sl, rfl, hop, hn, hnm, hlen, _, hc, hs⟩ := hS.out
  have HS := hid hs
  have HC := hid hc
  have HI := hid ih
  have HN := hid hn
  obtain ⟨i0, hi, hi0, hi1, hi2⟩ := info_parts info25'
  clear hs hc ih hS hn
  go_enter Tryd.func24, Tryd.ntmps24
  go_wp2_with (at_make; refine wpList_make_own w rfl (.const (.int .i64 0)) (.tmp 7) 23 rfl w.heap.size 25 i0 _ 4 Tryd.underlying23 hi hi0 hi1 .i64 .i64 _ (x.args.length + 1) rfl rfl (by omega) (by rw [hi2]; omega) (by unfold maxLen; omega) (Nat.le_refl _) ?_; intro w1 hown1 hgrow1; have M1 := hid (Mk.start x hown1 hgrow1); clear hown1 hgrow1)
  go_loopw [3, 4] (fun v i wr => ∃ (k : Nat) (ps : List (Ex × Value)), k ≤ x.args.length ∧ v = .slice (some ⟨w.heap.size, 0, none⟩) k (x.args.length + 1) ∧ i = .int .i64 (k : Int) ∧ Hid (Mk w x k ps wr)) (fun _ i _ => x.args.length - (intOf i).toNat)
  case atStart => exact ⟨0, [], Nat.zero_le _, rfl, rfl, M1⟩
  case round =>
    obtain ⟨k, ps, hk, rfl, rfl, hM⟩ := hrel
    by_cases hlt : k < x.args.length
    · have hlt' : (k : Int) < (x.args.length : Int) := by omega
      have hk0 : (0 : Int) ≤ (k : Int) := by omega
      obtain ⟨bb, o, rfl, hcc⟩ := HC.out.resolve_left (by omega)
      obtain ⟨a0, a1, a2, a3⟩ := hcc k hlt
      have v0 := cell_kept a0 hM.out.below
      have v1 := cell_kept a1 hM.out.below
      have v2 := cell_kept a2 hM.out.below
      have v3 := cell_kept a3 hM.out.below
      have c := HI.out k hlt wr (sl k) ((HS.out k hlt).keep hM.out.below)
      obtain ⟨y, hy⟩ : ∃ y, x.args[k] = y := ⟨_, rfl⟩
      rw [hy] at v0 v1 v2 c
      have HY := hid hy
      clear a0 a1 a2 a3 hcc hy
      go_wp2_with (first
        | (go_at_call 8; refine c.mono ?_; rintro e w2 ⟨s2, rfl, ht2, hb2⟩; obtain ⟨b2, c2, _, rfl, _⟩ := ht2.st.out; have T2 := hid (ht2.keep ((Below.refl _ _).alloc (Nat.le_refl _) (.cells #[.int .u8 (y.op : Int), .int .i64 y.n, .string y.name, .slice b2 y.args.length c2] 25))); have M2 := hid ((hM.out.step hb2).step ((Below.refl _ _).alloc (Nat.le_refl _) (.cells #[.int .u8 (y.op : Int), .int .i64 y.n, .string y.name, .slice b2 y.args.length c2] 25))); have N2 := hid (four_next w2 (.int .u8 (y.op : Int)) (.int .i64 y.n) (.string y.name) (.slice b2 y.args.length c2)); have SZ := hid hM.out.size; clear c ht2 hb2)
        | (at_builtin; refine wpList_append_fits _ rfl (.tmp 15) (.tmp 21) 23 rfl w.heap.size 25 i0 4 Tryd.underlying23 hi hi1 w.heap.size k (x.args.length + 1) (pairsV ps) rfl M2.out.row ⟨w2.heap.size, 0, none⟩ 1 1 (pairV (y, .slice b2 y.args.length c2)) rfl rfl N2.out (by simp [pairV, Value.oneCell']) (by omega) ?_; intro w4 hown4 hgrow4; have M4 := hid (M2.out.grow hlt HY.out (T2.out.low (by have := SZ.out; omega)) hown4 hgrow4); clear hown4 hgrow4))
      go_roundw
      case rel => exact ⟨k + 1, _, by omega, rfl, by go_num, M4⟩
      case measure => simp [intOf]; omega
    · have hlt' : ¬ (k : Int) < (x.args.length : Int) := by omega
      obtain rfl : k = x.args.length := by omega
      have M2 := hid (hM.out.step ((Below.refl _ _).alloc (Nat.le_refl _) (.cells #[.int .u8 0, .int .i64 0, .string spare, .slice none 0 0] 25)))
      have N2 := hid (four_next wr (.int .u8 0) (.int .i64 0) (.string spare) (.slice none 0 0))
      go_wp2_with (at_builtin; refine wpList_append_fits _ rfl (.tmp 23) (.tmp 25) 23 rfl w.heap.size 25 i0 4 Tryd.underlying23 hi hi1 w.heap.size x.args.length (x.args.length + 1) (pairsV ps) rfl M2.out.row ⟨wr.heap.size, 0, none⟩ 1 1 [.int .u8 0, .int .i64 0, .string spare, .slice none 0 0] rfl rfl N2.out (by simp [Value.oneCell']) (by omega) ?_; intro w4 hown4 hgrow4; have T4 := hid (M2.out.done hop HN.out hnm hlen hown4 hgrow4); have B4 := hid (M2.out.below.grown hgrow4 M2.out.below.size (fun j hj => by cases hj; exact Nat.le_refl _)); clear hown4 hgrow4)
      go_ret
      exact ⟨_, rfl, T4.out, B4.out⟩
end Go.Proofs.YtkieljleopbhoaaDoor.Lex
namespace Go.Proofs.YtkieljleopbhoaaDoor.Lex
open Go.ChangeShapes Go.WideShapes Go.ChangeAt Go.RowKit Go.Joins
theorem two_boxes (w w3 : World) (c d : Array Value) (t : TypeId) (hb : Below (((w.alloc (.cells c t)).alloc (.cells d t)).drew).heap.size ((w.alloc (.cells c t)).alloc (.cells d t)).drew w3) :
    (∀ j v, c[j]? = some v → w3.cell? ⟨w.heap.size, j, none⟩ = some v) ∧ (∀ j v, d[j]? = some v → w3.cell? ⟨w.heap.size + 1, j, none⟩ = some v) ∧ w3.heap[w.heap.size + 1]? = some (.cells d t (0, 0)) := by
  have e : (w.alloc (.cells c t)).heap.size = w.heap.size + 1 := by simp
  have h1 : ((w.alloc (.cells c t)).alloc (.cells d t)).heap[w.heap.size]? = some (.cells c t (0, 0)) := by
    rw [Below.heap_alloc _ _ _ (by rw [e]; omega)]; exact heap_alloc_new w _
  have h2 : ((w.alloc (.cells c t)).alloc (.cells d t)).heap[w.heap.size + 1]? = some (.cells d t (0, 0)) := by
    have := heap_alloc_new (w.alloc (.cells c t)) (.cells d t)
    rwa [e] at this
  have hl1 := (Array.getElem?_eq_some_iff.1 h1).1
  have hl2 := (Array.getElem?_eq_some_iff.1 h2).1
  have k1 : w3.heap[w.heap.size]? = some (.cells c t (0, 0)) := (hb.block _ hl1).trans h1
  have k2 : w3.heap[w.heap.size + 1]? = some (.cells d t (0, 0)) := (hb.block _ hl2).trans h2
  exact ⟨fun j v h => by rw [cell_of_row _ _ _ _ t (0, 0) k1]; exact h, fun j v h => by rw [cell_of_row _ _ _ _ t (0, 0) k2]; exact h, k2⟩
theorem if_take {c : Prop} [Decidable c] {p q : Prop} (hc : c) (h : p) : if c then p else q := by rw [if_pos hc]; exact h
theorem info25 : (Tryd.prog.info? 25).map (·.size) = some 4 := by kernel_rfl
theorem box_first (w : World) (c d : Array Value) (t : TypeId) : ∀ j v, c[j]? = some v → ((w.alloc (.cells c t)).alloc (.cells d t)).drew.cell? ⟨w.heap.size, j, none⟩ = some v := fun j v h =>
  (two_boxes w _ c d t (Below.refl _ _)).1 j v h
set_option maxRecDepth 100000 in
set_option maxHeartbeats 1000000 in
theorem twin_of (x : Ex) (ih : ∀ i (h : i < x.args.length), TwinC x.args[i]) : TwinC x := by
  intro w s hS
  obtain ⟨ao, cap, sl, rfl, hop, hn, hnm, hlen, hcap, _, _⟩ := hS.out
  have b1 := (Below.refl w.heap.size w).alloc (Nat.le_refl _) (.cells #[.int .u8 (x.op : Int), .int .i64 x.n, .string x.name, .slice ao x.args.length cap] 25)
  have b2 := bstep b1 ((Below.refl _ _).alloc (Nat.le_refl _) (.cells #[.int .u8 0, .int .i64 0, .string ByteArray.empty, .slice none 0 0] 25))
  have c := fun W (hb : Below w.heap.size w W) => twins x ih W _ (hS.keep hb)
  have H2 := hid b2
  have B0 := box_first w #[.int .u8 (x.op : Int), .int .i64 x.n, .string x.name, .slice ao x.args.length cap] #[.int .u8 0, .int .i64 0, .string ByteArray.empty, .slice none 0 0] 25
  clear hS ih b1 b2
  go_enter Tryd.func8, Tryd.ntmps8
  go_wp2
  refine wp_region_held_drew (S := fun W => W.cell? ⟨w.heap.size, 0, none⟩ = some (.int .u8 (x.op : Int)) ∧ W.cell? ⟨w.heap.size, 1, none⟩ = some (.int .i64 x.n) ∧ W.cell? ⟨w.heap.size, 2, none⟩ = some (.string x.name) ∧ W.cell? ⟨w.heap.size, 3, none⟩ = some (.slice ao x.args.length cap)) (by kernel_rfl) ?_ (fun hHeld => ?_)
  · exact ⟨B0 0 _ rfl, B0 1 _ rfl, B0 2 _ rfl, B0 3 _ rfl⟩
  refine wpAnyH_take (i := 0) (oi := { dst := some 3, op := Go.Op.fieldAddr 25 (Go.Operand.tmp 1) 0, type := 0, pos := _, after := #[], guard := none }) (v := ?_) rfl (by kernel_rfl) (by kernel_rfl) (by kernel_rfl) (fun _ _ _ h => h) (Or.inl ⟨by rfl, ?_⟩) (by assumption) ?_
  rotate_left
  · intro w hSw; (try dsimp only at hSw); go_simp <;> with_reducible rfl
  simp only [Act.put, List.setIfInBounds_toArray, List.set_cons_zero, List.set_cons_succ]
  refine wpAnyH_take (i := 1) (oi := { dst := some 4, op := Go.Op.load 22 (Go.Operand.tmp 3), type := 22, pos := _, after := #[{ on := 0, ground := Go.Ground.data }], guard := none }) (v := ?_) rfl (by kernel_rfl) (by kernel_rfl) (by kernel_rfl) (fun _ _ _ h => h) (Or.inl ⟨by rfl, ?_⟩) (by assumption) ?_
  rotate_left
  · intro w hSw; (try dsimp only at hSw); go_simp <;> with_reducible rfl
  simp only [Act.put, List.setIfInBounds_toArray, List.set_cons_zero, List.set_cons_succ]
  refine wpAnyH_take (i := 2) (oi := { dst := some 5, op := Go.Op.fieldAddr 25 (Go.Operand.tmp 1) 1, type := 0, pos := _, after := #[], guard := none }) (v := ?_) rfl (by kernel_rfl) (by kernel_rfl) (by kernel_rfl) (fun _ _ _ h => h) (Or.inl ⟨by rfl, ?_⟩) (by assumption) ?_
  rotate_left
  · intro w hSw; (try dsimp only at hSw); go_simp <;> with_reducible rfl
  simp only [Act.put, List.setIfInBounds_toArray, List.set_cons_zero, List.set_cons_succ]
  refine wpAnyH_take (i := 3) (oi := { dst := some 6, op := Go.Op.load 2 (Go.Operand.tmp 5), type := 2, pos := _, after := #[{ on := 2, ground := Go.Ground.data }], guard := none }) (v := ?_) rfl (by kernel_rfl) (by kernel_rfl) (by kernel_rfl) (fun _ _ _ h => h) (Or.inl ⟨by rfl, ?_⟩) (by assumption) ?_
  rotate_left
  · intro w hSw; (try dsimp only at hSw); go_simp <;> with_reducible rfl
  simp only [Act.put, List.setIfInBounds_toArray, List.set_cons_zero, List.set_cons_succ]
  refine wpAnyH_take (i := 4) (oi := { dst := some 7, op := Go.Op.fieldAddr 25 (Go.Operand.tmp 1) 2, type := 0, pos := _, after := #[], guard := none }) (v := ?_) rfl (by kernel_rfl) (by kernel_rfl) (by kernel_rfl) (fun _ _ _ h => h) (Or.inl ⟨by rfl, ?_⟩) (by assumption) ?_
  rotate_left
  · intro w hSw; (try dsimp only at hSw); go_simp <;> with_reducible rfl
  simp only [Act.put, List.setIfInBounds_toArray, List.set_cons_zero, List.set_cons_succ]
  refine wpAnyH_take (i := 5) (oi := { dst := some 8, op := Go.Op.load 9 (Go.Operand.tmp 7), type := 9, pos := _, after := #[{ on := 4, ground := Go.Ground.data }], guard := none }) (v := ?_) rfl (by kernel_rfl) (by kernel_rfl) (by kernel_rfl) (fun _ _ _ h => h) (Or.inl ⟨by rfl, ?_⟩) (by assumption) ?_
  rotate_left
  · intro w hSw; (try dsimp only at hSw); go_simp <;> with_reducible rfl
  simp only [Act.put, List.setIfInBounds_toArray, List.set_cons_zero, List.set_cons_succ]
  refine wpAnyH_take (i := 6) (oi := { dst := some 9, op := Go.Op.fieldAddr 25 (Go.Operand.tmp 1) 3, type := 0, pos := _, after := #[], guard := none }) (v := ?_) rfl (by kernel_rfl) (by kernel_rfl) (by kernel_rfl) (fun _ _ _ h => h) (Or.inl ⟨by rfl, ?_⟩) (by assumption) ?_
  rotate_left
  · intro w hSw; (try dsimp only at hSw); go_simp <;> with_reducible rfl
  simp only [Act.put, List.setIfInBounds_toArray, List.set_cons_zero, List.set_cons_succ]
  refine wpAnyH_take (i := 7) (oi := { dst := some 10, op := Go.Op.load 23 (Go.Operand.tmp 9), type := 23, pos := _, after := #[{ on := 6, ground := Go.Ground.data }], guard := none }) (v := ?_) rfl (by kernel_rfl) (by kernel_rfl) (by kernel_rfl) (fun _ _ _ h => h) (Or.inl ⟨by rfl, ?_⟩) (by assumption) ?_
  rotate_left
  · intro w hSw; (try dsimp only at hSw); go_simp <;> with_reducible rfl
  simp only [Act.put, List.setIfInBounds_toArray, List.set_cons_zero, List.set_cons_succ]
  refine wpAnyH_ready (rs := [8]) (by kernel_rfl) (by simp) ?_
  refine AllReadyH.cons (o := { dst := some 11, op := Go.Op.call { callee := Go.Callee.value (Go.Operand.func 24), args := #[Go.Operand.tmp 10], argTypes := #[23] }, type := 23, pos := _, after := #[{ on := 7, ground := Go.Ground.data }], guard := none }) rfl (fun K hK => ?_) AllReadyH.nil
  go_simp
  refine (c _ H2.out.drew).mono ?_
  rintro e w3 ⟨s3, rfl, ht3, hb3⟩
  obtain ⟨t3, c3, _, rfl, _⟩ := ht3.st.out
  obtain ⟨p1, p2, p3⟩ := two_boxes w w3 _ _ 25 hb3
  go_wp2_with fail
  refine hK.out _ _ ?_ (fun hHeld1 => ?_)
  · exact ⟨p1 0 _ rfl, p1 1 _ rfl, p1 2 _ rfl, p1 3 _ rfl⟩
  clear hK K
  refine wpAnyH_take (i := 9) (oi := { dst := some 12, op := Go.Op.build 25 #[(0, Go.Operand.tmp 4), (1, Go.Operand.tmp 6), (2, Go.Operand.tmp 8), (3, Go.Operand.tmp 11)], type := 25, pos := _, after := #[{ on := 1, ground := Go.Ground.data }, { on := 3, ground := Go.Ground.data }, { on := 5, ground := Go.Ground.data }, { on := 8, ground := Go.Ground.data }], guard := none }) (v := ?_) rfl (by kernel_rfl) (by kernel_rfl) (by kernel_rfl) (fun _ _ _ h => h) (Or.inl ⟨by rfl, ?_⟩) (by assumption) ?_
  rotate_left
  · intro w hSw; (try dsimp only at hSw); go_simp <;> with_reducible rfl
  simp only [Act.put, List.setIfInBounds_toArray, List.set_cons_zero, List.set_cons_succ]
  refine wpAnyH_ready (rs := [10]) (by kernel_rfl) (by simp) ?_
  refine AllReadyH.cons (o := { dst := none, op := Go.Op.store 25 (Go.Operand.tmp 2) (Go.Operand.tmp 12), type := 0, pos := _, after := #[{ on := 9, ground := Go.Ground.data }, { on := 8, ground := Go.Ground.chain }, { on := 0, ground := Go.Ground.phase }, { on := 1, ground := Go.Ground.phase }, { on := 2, ground := Go.Ground.phase }, { on := 3, ground := Go.Ground.phase }, { on := 4, ground := Go.Ground.phase }, { on := 5, ground := Go.Ground.phase }, { on := 6, ground := Go.Ground.phase }, { on := 7, ground := Go.Ground.phase }, { on := 8, ground := Go.Ground.phase }, { on := 9, ground := Go.Ground.phase }], guard := none }) rfl (fun K hK => ?_) AllReadyH.nil
  refine if_take (by rfl) ?_
  refine wp_store_row 25 _ _ rfl (w.heap.size + 1) #[.int .u8 (x.op : Int), .int .i64 x.n, .string x.name, .slice t3 x.args.length c3] rfl rfl 25 _ p3 info25 rfl (by simp [Value.oneCell']) ?_
  refine hK.out _ _ ?_ (fun _ => ?_)
  · have hne : w.heap.size ≠ w.heap.size + 1 := by omega
    have kk : ∀ j v, w3.cell? ⟨w.heap.size, j, none⟩ = some v → (w3.setRow (w.heap.size + 1) #[.int .u8 (x.op : Int), .int .i64 x.n, .string x.name, .slice t3 x.args.length c3]).cell? ⟨w.heap.size, j, none⟩ = some v := fun j v h => by
      rw [World.cell?_of_block (w := w3) (a := ⟨w.heap.size, j, none⟩) (setRow_other w3 _ _ _ hne)]
      exact h
    exact ⟨kk _ _ (p1 0 _ rfl), kk _ _ (p1 1 _ rfl), kk _ _ (p1 2 _ rfl), kk _ _ (p1 3 _ rfl)⟩
  clear hK K
  refine wpAnyH_done (by kernel_rfl) ?_ _
  go_wp2
  refine bodyPost_ret (results_cell_row rfl _ _ (w.heap.size + 1) 25 #[.int .u8 (x.op : Int), .int .i64 x.n, .string x.name, .slice t3 x.args.length c3] (0, 0) _ rfl (setRow_heap _ _ _ _ _ _ p3) Tryd.underlying25 rfl info25) rfl ⟨_, rfl, ?_, ?_⟩
  · have hlo : w.heap.size + 2 ≤ (((w.alloc (.cells #[.int .u8 (x.op : Int), .int .i64 x.n, .string x.name, .slice ao x.args.length cap] 25)).alloc (.cells #[.int .u8 0, .int .i64 0, .string ByteArray.empty, .slice none 0 0] 25)).drew).heap.size := by simp
    exact (ht3.carry fun b hb _ => setRow_other w3 _ _ _ (by have := hb; omega)).low (by omega)
  · exact below_row (bstep H2.out.drew hb3) (by have := (bstep H2.out.drew hb3).size; omega) (by omega) _
/-- TwinExpr. -/
theorem twin_any : ∀ (m : Nat) (x : Ex), SizeOf.sizeOf x ≤ m → TwinC x := by
  intro m
  induction m with
  | zero => intro x h; obtain ⟨o, n, s, l⟩ := x; simp at h
  | succ m ih => intro x h; exact twin_of x fun i hi => ih _ (by have := x.part_lt i hi; omega)
end Go.Proofs.YtkieljleopbhoaaDoor.Lex
namespace Go.Proofs.YtkieljleopbhoaaDoor.Lex
open Go.ChangeShapes Go.WideShapes Go.ChangeAt Go.RowKit Go.Joins
/-- What reading answers: it, and the place behind it; or an error, and its place. -/
abbrev Res := Except (Nat × Nat) (Ex × Nat)
/-- A panic with an error of the language. -/
abbrev panicE (e : Nat) : Ending := .panicked [{ v := .iface 28 (.int .i64 (e : Int)), recovered := false }]
/-- A step of the reader: nothing but its own place is written; what is read lies elsewhere. -/
def Post (r mp : Nat) (v : Value) (ts : List Mark) (w : World) (res : Res) (e : Ending) (w' : World) : Prop :=
  w.grownBy w' (some r) ∧ match res with
    | .ok (x, q) => ∃ s, e = .returned (exV x s) ∧ StP (fun b => w.heap.size ≤ b) w' x s ∧ Rdr r mp v ts q w'
    | .error (n, q) => e = panicE n ∧ Rdr r mp v ts q w'
theorem Rdr.at1 {r mp : Nat} {v : Value} {ts : List Mark} {p : Nat} {w : World} (h : Rdr r mp v ts p w) : w.cell? ⟨r, 1, none⟩ = some (.int .i64 (p : Int)) ∧ w.frozen? ⟨r, 1, none⟩ = false :=
  ⟨by rw [cell_of_row _ _ _ _ 71 (0, 0) h.cell]; rfl, frozen_of_row _ _ _ _ _ h.cell⟩
theorem Rdr.lt {r mp : Nat} {v : Value} {ts : List Mark} {p : Nat} {w : World} (h : Rdr r mp v ts p w) : r < w.heap.size := (Array.getElem?_eq_some_iff.1 h.cell).1
/-- Behind a box, a step of the place, and a value in the box. -/
theorem stepped {r mp : Nat} {v : Value} {ts : List Mark} {p : Nat} {w : World} (h : Rdr r mp v ts p w) (hp : p < ts.length) (c d : Array Value) (t : TypeId) :
    ∃ W1, (w.alloc (.cells c t)).setCell ⟨r, 1, none⟩ (.int .i64 ((p : Int) + 1)) = W1 ∧ W1.heap[w.heap.size]? = some (.cells c t (0, 0)) ∧ (w.alloc (.cells c t)).cell? ⟨r, 1, none⟩ = some (.int .i64 (p : Int)) ∧ (w.alloc (.cells c t)).frozen? ⟨r, 1, none⟩ = false ∧
      w.grownBy (W1.setRow w.heap.size d) (some r) ∧ Rdr r mp v ts (p + 1) (W1.setRow w.heap.size d) := by
  have hb := (Below.refl w.heap.size w).alloc (Nat.le_refl _) (.cells c t)
  have h1 := h.step hb
  have h2 := h1.move (p + 1) (by omega)
  have hlt := h.lt
  have hne : w.heap.size ≠ r := by omega
  refine ⟨_, rfl, ?_, h1.at1.1, h1.at1.2, ?_, ?_⟩
  · rw [Below.heap_setCell _ _ _ _ hne]; exact heap_alloc_new w _
  · refine ⟨rfl, rfl, rfl, by simp [World.setRow, World.setCell], fun k hk hkr => ?_⟩
    have hkr' : k ≠ r := fun e => hkr (by rw [e])
    rw [setRow_other _ _ _ _ (by omega), Below.heap_setCell _ _ _ _ hkr', Below.heap_alloc _ _ _ hk]
  · have e : ((p : Int) + 1) = ((p + 1 : Nat) : Int) := by omega
    rw [e]
    have hfar : ∀ k, k ≠ w.heap.size → (((w.alloc (.cells c t)).setCell ⟨r, 1, none⟩ (.int .i64 ((p + 1 : Nat) : Int))).setRow w.heap.size d).heap[k]? = ((w.alloc (.cells c t)).setCell ⟨r, 1, none⟩ (.int .i64 ((p + 1 : Nat) : Int))).heap[k]? := fun k hk => setRow_other _ _ _ _ hk
    refine ⟨(hfar r (by omega)).trans h2.cell, ?_, h2.le, h2.few, h2.far, h2.own⟩
    obtain ⟨a, cap, rfl, hc⟩ := h.toks
    refine h2.toks.carry fun a' n c' ev hl => hfar a'.block ?_
    intro he
    injection ev with e1 e2 e3
    rcases hc with h0 | ⟨g, o, hg, hcc⟩
    · have := h.le; omega
    · rw [hg] at e1
      injection e1 with e1
      have hlt2 : g < w.heap.size := World.block_lt_of_cell? w ⟨g, o + 0 * 3, none⟩ (hcc 0 (by omega)).1
      rw [← e1] at he
      simp only at he
      omega
set_option maxRecDepth 100000 in
set_option maxHeartbeats 1000000 in
theorem yes_at (r mp : Nat) (v : Value) (ts : List Mark) (p : Nat) (w : World) (h : Rdr r mp v ts p w) (hp : p < ts.length) : Calls Tryd.prog 56 #[.pointer (some ⟨r, 0, none⟩)] w (Post r mp v ts w (.ok (⟨2, 1, ByteArray.empty, []⟩, p + 1))) := by
  obtain ⟨W1, hW1, hbx, y0, y1, hg, hr⟩ := stepped h hp #[.int .u8 0, .int .i64 0, .string ⟨#[]⟩, .slice none 0 0] #[.int .u8 2, .int .i64 1, .string ⟨#[]⟩, .slice none 0 0] 25
  have hfew : (p : Int) < 140737488355328 := by have := h.few; omega
  have HG := hid hg
  have HR := hid hr
  clear h hp hg hr
  go_enter Tryd.func56, Tryd.ntmps56
  go_wp2_with (refine wpList_store_row rfl 25 _ _ rfl w.heap.size #[.int .u8 2, .int .i64 1, .string ⟨#[]⟩, .slice none 0 0] rfl rfl 25 _ hbx info25 rfl (by simp [Value.oneCell']) ?_)
  refine bodyPost_ret (results_cell_row rfl _ _ w.heap.size 25 #[.int .u8 2, .int .i64 1, .string ⟨#[]⟩, .slice none 0 0] (0, 0) _ rfl (setRow_heap _ _ _ _ _ _ hbx) Tryd.underlying25 rfl info25) rfl ⟨HG.out, _, rfl, ?_, HR.out⟩
  exact StP.leaf 2 1 _ (by omega) (by omega) (by decide)
end Go.Proofs.YtkieljleopbhoaaDoor.Lex
namespace Go.Proofs.YtkieljleopbhoaaDoor.Lex
open Go.ChangeShapes Go.WideShapes Go.ChangeAt Go.RowKit Go.Joins
set_option maxRecDepth 100000 in
set_option maxHeartbeats 1000000 in
theorem no_at (r mp : Nat) (v : Value) (ts : List Mark) (p : Nat) (w : World) (h : Rdr r mp v ts p w) (hp : p < ts.length) : Calls Tryd.prog 57 #[.pointer (some ⟨r, 0, none⟩)] w (Post r mp v ts w (.ok (⟨2, 0, ByteArray.empty, []⟩, p + 1))) := by
  obtain ⟨W1, hW1, hbx, y0, y1, hg, hr⟩ := stepped h hp #[.int .u8 0, .int .i64 0, .string ⟨#[]⟩, .slice none 0 0] #[.int .u8 2, .int .i64 0, .string ⟨#[]⟩, .slice none 0 0] 25
  have hfew : (p : Int) < 140737488355328 := by have := h.few; omega
  have HG := hid hg
  have HR := hid hr
  clear h hp hg hr
  go_enter Tryd.func57, Tryd.ntmps57
  go_wp2_with (refine wpList_store_row rfl 25 _ _ rfl w.heap.size #[.int .u8 2, .int .i64 0, .string ⟨#[]⟩, .slice none 0 0] rfl rfl 25 _ hbx info25 rfl (by simp [Value.oneCell']) ?_)
  refine bodyPost_ret (results_cell_row rfl _ _ w.heap.size 25 #[.int .u8 2, .int .i64 0, .string ⟨#[]⟩, .slice none 0 0] (0, 0) _ rfl (setRow_heap _ _ _ _ _ _ hbx) Tryd.underlying25 rfl info25) rfl ⟨HG.out, _, rfl, ?_, HR.out⟩
  exact StP.leaf 2 0 _ (by omega) (by omega) (by decide)
/-- Is a mark this kind and text? -/
def isMk (m : Mark) (kind : Nat) (text : ByteArray) : Bool := m.kind == kind && m.text.toList == text.toList
theorem isMk_no {m : Mark} {kind : Nat} {text : ByteArray} (h : isMk m kind text = false) : (¬ (m.kind : Int) = (kind : Int)) ∨ ((m.kind : Int) = (kind : Int) ∧ ¬ m.text.toList = text.toList) := by
  unfold isMk at h
  by_cases e : m.kind = kind
  · refine .inr ⟨by omega, ?_⟩
    rw [e] at h
    simpa using h
  · exact .inl (by omega)
theorem isMk_yes {m : Mark} {kind : Nat} {text : ByteArray} (h : isMk m kind text = true) : (m.kind : Int) = (kind : Int) ∧ m.text.toList = text.toList := by
  unfold isMk at h
  have := h
  simp at this
  exact ⟨by omega, this.2⟩
set_option maxRecDepth 100000 in
set_option maxHeartbeats 1000000 in
theorem pass_bad (kind : Nat) (text : ByteArray) (r mp : Nat) (v : Value) (ts : List Mark) (p : Nat) (w : World) (h : Rdr r mp v ts p w) (hm : isMk (markAt ts p) kind text = false) : Calls Tryd.prog 82 #[.pointer (some ⟨r, 0, none⟩), .int .u8 (kind : Int), .string text] w fun e w' => e = panicE 5 ∧ Below w.heap.size w w' := by
  have c := peek r mp v ts p w h
  generalize markAt ts p = m at *
  clear h
  rcases isMk_no hm with h1 | ⟨h1, h2⟩ <;> clear hm
  · go_enter Tryd.func82, Tryd.ntmps82
    go_wp2_with (go_at_call 80; refine c.mono ?_; rintro e w2 ⟨rfl, b2⟩; have B2 := hid b2; clear b2 c)
    exact ⟨rfl, rfl, B2.out⟩
  · go_enter Tryd.func82, Tryd.ntmps82
    go_wp2_with (go_at_call 80; refine c.mono ?_; rintro e w2 ⟨rfl, b2⟩; have B2 := hid b2; clear b2 c)
    exact ⟨rfl, rfl, B2.out⟩
/-- The place goes on by one. -/
theorem moved {r mp : Nat} {v : Value} {ts : List Mark} {p : Nat} {w : World} (h : Rdr r mp v ts p w) (hp : p < ts.length) : w.cell? ⟨r, 1, none⟩ = some (.int .i64 (p : Int)) ∧ w.frozen? ⟨r, 1, none⟩ = false ∧ w.grownBy (w.setCell ⟨r, 1, none⟩ (.int .i64 ((p : Int) + 1))) (some r) ∧ Rdr r mp v ts (p + 1) (w.setCell ⟨r, 1, none⟩ (.int .i64 ((p : Int) + 1))) := by
  have h2 := h.move (p + 1) (by omega)
  refine ⟨h.at1.1, h.at1.2, ⟨rfl, rfl, rfl, by simp [World.setCell], fun k hk hkr => ?_⟩, h2⟩
  have hkr' : k ≠ r := fun e => hkr (by rw [e])
  rw [Below.heap_setCell _ _ _ _ hkr']
theorem grown_below {w w1 : World} (h : Below w.heap.size w w1) (r : Option Nat) : w.grownBy w1 r := ⟨h.os, h.tape, h.output, h.size, fun k hk _ => h.block k hk⟩
theorem grown_on {a b c : World} {r : Option Nat} (h : a.grownBy b r) (k : b.grownBy c r) : a.grownBy c r :=
  ⟨k.os.trans h.os, k.tape.trans h.tape, k.output.trans h.output, Nat.le_trans h.size k.size, fun i hi hr => (k.block i (Nat.lt_of_lt_of_le hi h.size) hr).trans (h.block i hi hr)⟩
theorem markAt_lt {ts : List Mark} {p : Nat} (hl : p ≤ ts.length) (h : (markAt ts p).kind ≠ 0) : p < ts.length := by
  by_cases e : p < ts.length
  · exact e
  · exfalso
    apply h
    unfold markAt
    rw [List.getD_eq_getElem?_getD, List.getElem?_eq_none (by omega)]
    rfl
set_option maxRecDepth 100000 in
set_option maxHeartbeats 1000000 in
theorem pass_ok (kind : Nat) (hk : kind ≠ 0) (text : ByteArray) (r mp : Nat) (v : Value) (ts : List Mark) (p : Nat) (w : World) (h : Rdr r mp v ts p w) (hm : isMk (markAt ts p) kind text = true) : Calls Tryd.prog 82 #[.pointer (some ⟨r, 0, none⟩), .int .u8 (kind : Int), .string text] w fun e w' => e = .returned (.tuple #[]) ∧ w.grownBy w' (some r) ∧ Rdr r mp v ts (p + 1) w' := by
  have c := peek r mp v ts p w h
  obtain ⟨h1, h2⟩ := isMk_yes hm
  have hp : p < ts.length := markAt_lt h.le (by omega)
  have hfew : (p : Int) < 140737488355328 := by have := h.few; omega
  clear hm hk
  generalize markAt ts p = m at *
  have H := hid h
  have HP := hid hp
  clear h hp
  go_enter Tryd.func82, Tryd.ntmps82
  go_wp2_with (go_at_call 80; refine c.mono ?_; rintro e w2 ⟨rfl, b2⟩; obtain ⟨y0, y1, hg, hr⟩ := moved (H.out.step b2) HP.out; have B2 := hid b2; have HG := hid hg; have HR := hid hr; clear b2 c hg hr)
  exact bodyPost_end (by simp [results]) rfl ⟨rfl, grown_on (grown_below B2.out _) HG.out, HR.out⟩
/-- Behind a box: the place goes on by one, other memory is made, and the box is written. -/
theorem boxed_on {r mp : Nat} {v : Value} {ts : List Mark} {p : Nat} {w : World} (h : Rdr r mp v ts p w) (hp : p < ts.length) (c : Array Value) (t : TypeId) (w2 : World) (b : Below (w.alloc (.cells c t)).heap.size (w.alloc (.cells c t)) w2) :
    w2.cell? ⟨r, 1, none⟩ = some (.int .i64 (p : Int)) ∧ w2.frozen? ⟨r, 1, none⟩ = false ∧ ∀ W4, Below (w2.setCell ⟨r, 1, none⟩ (.int .i64 ((p : Int) + 1))).heap.size (w2.setCell ⟨r, 1, none⟩ (.int .i64 ((p : Int) + 1))) W4 →
      W4.heap[w.heap.size]? = some (.cells c t (0, 0)) ∧ ∀ d, w.grownBy (W4.setRow w.heap.size d) (some r) ∧ Rdr r mp v ts (p + 1) (W4.setRow w.heap.size d) := by
  have hb := (Below.refl w.heap.size w).alloc (Nat.le_refl _) (.cells c t)
  have b02 := bstep hb b
  have h2 := h.step b02
  obtain ⟨y0, y1, hg, hr⟩ := moved h2 hp
  have hlt := h.lt
  have hne : w.heap.size ≠ r := by omega
  have hsz : w.heap.size < w2.heap.size := by have := b.size; simp at this; omega
  refine ⟨y0, y1, fun W4 b4 => ?_⟩
  have hr4 := hr.step b4
  have e4 : W4.heap[w.heap.size]? = some (.cells c t (0, 0)) := by
    rw [b4.block _ (by simp [World.setCell]; exact hsz), Below.heap_setCell _ _ _ _ hne, b.block _ (by simp)]
    exact heap_alloc_new w _
  refine ⟨e4, fun d => ⟨?_, ?_⟩⟩
  · have g := grown_on (grown_on (grown_below b02 (some r)) hg) (grown_below b4 _)
    exact ⟨g.os, g.tape, g.output, by have := g.size; simpa [World.setRow] using this, fun k hk hkr => (setRow_other _ _ _ _ (by omega)).trans (g.block k hk hkr)⟩
  · refine ⟨(setRow_other _ _ _ _ (by omega)).trans hr4.cell, ?_, hr4.le, hr4.few, hr4.far, hr4.own⟩
    obtain ⟨a, cap, rfl, hc⟩ := h.toks
    refine hr4.toks.carry fun a' n c' ev hl => setRow_other _ _ _ _ ?_
    intro he
    injection ev with e1 e2 e3
    rcases hc with h0 | ⟨g, o, hg, hcc⟩
    · have := h.le; omega
    · rw [hg] at e1
      injection e1 with e1
      have hlt2 : g < w.heap.size := World.block_lt_of_cell? w ⟨g, o + 0 * 3, none⟩ (hcc 0 (by omega)).1
      rw [← e1] at he
      simp only at he
      omega
set_option maxRecDepth 100000 in
set_option maxHeartbeats 1000000 in
theorem name_bad (r mp : Nat) (v : Value) (ts : List Mark) (p : Nat) (w : World) (h : Rdr r mp v ts p w) (hT : TabR w) (hn : isName (markAt ts p).text = false) : Calls Tryd.prog 55 #[.pointer (some ⟨r, 0, none⟩)] w (Post r mp v ts w (.error (5, p))) := by
  have b0 := (Below.refl w.heap.size w).alloc (Nat.le_refl _) (.cells #[.int .u8 0, .int .i64 0, .string ⟨#[]⟩, .slice none 0 0] 25)
  have c := fun W hW => peek r mp v ts p W (h.step hW)
  have cn := fun W hW => name (markAt ts p).text W (hT.below hW)
  generalize markAt ts p = m at *
  have H := hid h
  have B0 := hid b0
  clear h hT b0
  go_enter Tryd.func55, Tryd.ntmps55
  go_wp2_with (go_at_call 80; refine (c _ B0.out).mono ?_; rintro e w2 ⟨rfl, b2⟩; have B2 := hid (bstep B0.out b2); clear b2 c)
  rename_i K hK
  refine (show K (Act.put _ (some 6) (Value.string m.text)) w2 from ?_)
  go_wp2_with (first
    | (go_at_call 71; refine (cn _ B2.out).mono ?_; rw [hn]; rintro e w3 ⟨rfl, b3⟩; have B3 := hid (bstep B2.out b3); clear b3 cn))
  exact ⟨rfl, grown_below B3.out _, rfl, H.out.step B3.out⟩
set_option maxRecDepth 100000 in
set_option maxHeartbeats 1000000 in
theorem name_ok (r mp : Nat) (v : Value) (ts : List Mark) (p : Nat) (w : World) (h : Rdr r mp v ts p w) (hp : p < ts.length) (hT : TabR w) (hn : isName (markAt ts p).text = true) : Calls Tryd.prog 55 #[.pointer (some ⟨r, 0, none⟩)] w (Post r mp v ts w (.ok (⟨3, 0, (markAt ts p).text, []⟩, p + 1))) := by
  have b0 := (Below.refl w.heap.size w).alloc (Nat.le_refl _) (.cells #[.int .u8 0, .int .i64 0, .string ⟨#[]⟩, .slice none 0 0] 25)
  have c := fun W hW => peek r mp v ts p W (h.step hW)
  have cn := fun W hW => name (markAt ts p).text W (hT.below hW)
  have hs : (markAt ts p).text.size ≤ 40 := by
    unfold isName at hn
    simp at hn
    omega
  have cc := fun W => clone (markAt ts p).text W (by omega)
  have K := hid (boxed_on h hp #[.int .u8 0, .int .i64 0, .string ⟨#[]⟩, .slice none 0 0] 25)
  have hfew : (p : Int) < 140737488355328 := by have := h.few; omega
  generalize markAt ts p = m at *
  have B0 := hid b0
  have HS := hid hs
  clear h hT b0 hp hs
  go_enter Tryd.func55, Tryd.ntmps55
  go_wp2_with (go_at_call 80; refine (c _ B0.out).mono ?_; rintro e w2 ⟨rfl, b2⟩; have B2 := hid b2; clear b2 c)
  rename_i K hK
  refine (show K (Act.put _ (some 6) (Value.string m.text)) w2 from ?_)
  go_wp2_with (first
    | (go_at_call 71; refine (cn _ (bstep B0.out B2.out)).mono ?_; rw [hn]; rintro e w3 ⟨rfl, b3⟩; obtain ⟨y0, y1, k4⟩ := K.out w3 (bstep B2.out b3); have K4 := hid k4; clear b3 cn K k4)
    | (go_at_call 38; refine (cc _).mono ?_; rintro e w4 ⟨rfl, b4⟩; obtain ⟨hbx, k5⟩ := K4.out w4 b4; have K5 := hid k5; clear b4 K4 cc k5)
    | (refine wpList_store_row rfl 25 _ _ rfl w.heap.size #[.int .u8 3, .int .i64 0, .string m.text, .slice none 0 0] rfl rfl 25 _ hbx info25 rfl (by simp [Value.oneCell']) ?_))
  refine bodyPost_ret (results_cell_row rfl _ _ w.heap.size 25 #[.int .u8 3, .int .i64 0, .string m.text, .slice none 0 0] (0, 0) _ rfl (setRow_heap _ _ _ _ _ _ hbx) Tryd.underlying25 rfl info25) rfl ⟨(K5.out _).1, _, rfl, ?_, (K5.out _).2⟩
  exact StP.leaf 3 0 _ (by omega) (by omega) (by have := HS.out; omega)
theorem numN_range (s : ByteArray) : -9223372036854775808 ≤ numN s ∧ numN s ≤ 9223372036854775807 := by
  unfold numN
  split
  · omega
  · cases e : mag 0 s.data.toList with
    | none => simp [outN]
    | some k =>
      have := mag_top _ 0 k (by omega) e
      simp only [outN]
      omega
theorem numE_nat (s : ByteArray) : ((numE s).toNat : Int) = numE s := by
  have : 0 ≤ numE s := by
    unfold numE
    split
    · omega
    · cases mag 0 s.data.toList <;> simp [outE]
  omega
set_option maxRecDepth 100000 in
set_option maxHeartbeats 1000000 in
theorem number_bad (r mp : Nat) (v : Value) (ts : List Mark) (p : Nat) (w : World) (h : Rdr r mp v ts p w) (tp : TypeId) (pv : Value) (hvar : w.var? Tryd.prog "strconv.ErrRange" = some #[.iface tp pv]) (hs : (markAt ts p).text.size ≤ 1048576) (hn : ¬ numE (markAt ts p).text = 0) : Calls Tryd.prog 58 #[.pointer (some ⟨r, 0, none⟩)] w (Post r mp v ts w (.error ((numE (markAt ts p).text).toNat, p))) := by
  have b0 := (Below.refl w.heap.size w).alloc (Nat.le_refl _) (.cells #[.int .u8 0, .int .i64 0, .string ⟨#[]⟩, .slice none 0 0] 25)
  have c := fun W hW => peek r mp v ts p W (h.step hW)
  have cn := fun W hW => number (markAt ts p).text W hs tp pv (varAt hvar hW)
  have en := hid (numE_nat (markAt ts p).text)
  generalize markAt ts p = m at *
  generalize numE m.text = E at *
  have H := hid h
  have B0 := hid b0
  clear h hvar hs b0
  go_enter Tryd.func58, Tryd.ntmps58
  go_wp2_with (go_at_call 80; refine (c _ B0.out).mono ?_; rintro e w2 ⟨rfl, b2⟩; have B2 := hid (bstep B0.out b2); clear b2 c)
  rename_i K hK
  refine (show K (Act.put _ (some 8) (Value.string m.text)) w2 from ?_)
  go_wp2_with (go_at_call 81; refine (cn _ B2.out).mono ?_; rintro e w3 ⟨rfl, b3⟩; have B3 := hid (bstep B2.out b3); clear b3 cn)
  refine ⟨rfl, grown_below B3.out _, ?_, H.out.step B3.out⟩
  rw [panicE, en.out]
set_option maxRecDepth 100000 in
set_option maxHeartbeats 1000000 in
theorem number_ok (r mp : Nat) (v : Value) (ts : List Mark) (p : Nat) (w : World) (h : Rdr r mp v ts p w) (hp : p < ts.length) (tp : TypeId) (pv : Value) (hvar : w.var? Tryd.prog "strconv.ErrRange" = some #[.iface tp pv]) (hs : (markAt ts p).text.size ≤ 1048576) (hn : numE (markAt ts p).text = 0) : Calls Tryd.prog 58 #[.pointer (some ⟨r, 0, none⟩)] w (Post r mp v ts w (.ok (⟨1, numN (markAt ts p).text, ByteArray.empty, []⟩, p + 1))) := by
  have b0 := (Below.refl w.heap.size w).alloc (Nat.le_refl _) (.cells #[.int .u8 0, .int .i64 0, .string ⟨#[]⟩, .slice none 0 0] 25)
  have c := fun W hW => peek r mp v ts p W (h.step hW)
  have cn := fun W hW => number (markAt ts p).text W hs tp pv (varAt hvar hW)
  have K := hid (boxed_on h hp #[.int .u8 0, .int .i64 0, .string ⟨#[]⟩, .slice none 0 0] 25)
  have hfew : (p : Int) < 140737488355328 := by have := h.few; omega
  generalize markAt ts p = m at *
  rw [hn] at cn
  have HN := hid (numN_range m.text)
  generalize numN m.text = N at *
  have B0 := hid b0
  clear h hvar hs b0 hp hn
  go_enter Tryd.func58, Tryd.ntmps58
  go_wp2_with (go_at_call 80; refine (c _ B0.out).mono ?_; rintro e w2 ⟨rfl, b2⟩; have B2 := hid b2; clear b2 c)
  rename_i K' hK
  refine (show K' (Act.put _ (some 8) (Value.string m.text)) w2 from ?_)
  go_wp2_with (first
    | (go_at_call 81; refine (cn _ (bstep B0.out B2.out)).mono ?_; rintro e w3 ⟨rfl, b3⟩; obtain ⟨y0, y1, k4⟩ := K.out w3 (bstep B2.out b3); obtain ⟨hbx, k5⟩ := k4 _ (Below.refl _ _); have K5 := hid k5; clear b3 cn K k4 k5)
    | (refine wpList_store_row rfl 25 _ _ rfl w.heap.size #[.int .u8 1, .int .i64 N, .string ⟨#[]⟩, .slice none 0 0] rfl rfl 25 _ hbx info25 rfl (by simp [Value.oneCell']) ?_))
  refine bodyPost_ret (results_cell_row rfl _ _ w.heap.size 25 #[.int .u8 1, .int .i64 N, .string ⟨#[]⟩, .slice none 0 0] (0, 0) _ rfl (setRow_heap _ _ _ _ _ _ hbx) Tryd.underlying25 rfl info25) rfl ⟨(K5.out _).1, _, rfl, ?_, (K5.out _).2⟩
  exact StP.leaf 1 N _ (by omega) HN.out (by decide)
end Go.Proofs.YtkieljleopbhoaaDoor.Lex
namespace Go.Proofs.YtkieljleopbhoaaDoor.Lex
open Go.ChangeShapes Go.WideShapes Go.ChangeAt Go.RowKit Go.Joins
theorem StP.form {ok : Nat → Prop} {w : World} {x : Ex} {s : Value} (h : StP ok w x s) : ∃ ao cap, s = .slice ao x.args.length cap := by
  obtain ⟨ao, cap, _, hs, _⟩ := h.out
  exact ⟨ao, cap, hs⟩
abbrev z25 : Value := .agg #[.int .u8 0, .int .i64 0, .string ⟨#[]⟩, .slice none 0 0]
theorem inf25 : ∃ ie, Tryd.prog.info? 25 = some ie ∧ ie.zero = some z25 ∧ ie.size = 4 := by
  have h : (Tryd.prog.info? 25).map (fun i => (i.zero, i.size)) = some (some z25, 4) := by kernel_rfl
  obtain ⟨ie, h1, h2⟩ := Option.map_eq_some_iff.1 h
  injection h2 with h2 h3
  exact ⟨ie, h1, h2, h3⟩
abbrev ex4 (x : Ex) (s : Value) : Array Value := #[.int .u8 (x.op : Int), .int .i64 x.n, .string x.name, s]
theorem fill1 (x : Ex) (ao : Option Addr) (n cap : Nat) : Instr.fill (fun i => some (i * 4, 4)) ((Array.range (1 * 4)).map (z25.cells[· % z25.cells.size]!)) [(0, exV x (.slice ao n cap))] = some (ex4 x (.slice ao n cap)) := by
  have e : ((Array.range (1 * 4)).map (z25.cells[· % z25.cells.size]!)) = #[.int .u8 0, .int .i64 0, .string ⟨#[]⟩, .slice none 0 0] := by kernel_rfl
  rw [e]
  simp [Instr.fill]
  exact ⟨⟨rfl, Nat.le_refl 4⟩, rfl⟩
set_option maxRecDepth 100000 in
set_option maxHeartbeats 1000000 in
theorem one_bad (r mp : Nat) (v : Value) (ts : List Mark) (p op n q : Nat) (w : World) (h : Rdr r mp v ts p w) (hp : p < ts.length)
    (cp : ∀ W, w.grownBy W (some r) → Rdr r mp v ts (p + 1) W → Calls Tryd.prog 65 #[.pointer (some ⟨r, 0, none⟩), .int .i64 6] W (Post r mp v ts W (.error (n, q)))) :
    Calls Tryd.prog 61 #[.pointer (some ⟨r, 0, none⟩), .int .u8 (op : Int)] w (Post r mp v ts w (.error (n, q))) := by
  have b0 := (Below.refl w.heap.size w).alloc (Nat.le_refl _) (.cells #[.int .u8 0, .int .i64 0, .string ⟨#[]⟩, .slice none 0 0] 25)
  obtain ⟨y0, y1, hg, hr⟩ := moved (h.step b0) hp
  have hfew : (p : Int) < 140737488355328 := by have := h.few; omega
  have HG := hid (grown_on (grown_below b0 (some r)) hg)
  have HR := hid hr
  clear h hp hg hr b0
  go_enter Tryd.func61, Tryd.ntmps61
  go_wp2_with (go_at_call 65; refine (cp _ HG.out HR.out).mono ?_; rintro e w2 ⟨g2, rfl, h2⟩; have G2 := hid g2; have H2 := hid h2; clear g2 h2 cp)
  exact ⟨rfl, grown_on HG.out G2.out, rfl, H2.out⟩
/-- Tokens lie ahead of what is made behind them. -/
theorem Rdr.setRow {r mp : Nat} {v : Value} {ts : List Mark} {p q : Nat} {w W : World} (h : Rdr r mp v ts p w) (h2 : Rdr r mp v ts q W) (d : Array Value) : Rdr r mp v ts q (W.setRow w.heap.size d) := by
  have hlt := h.lt
  refine ⟨(setRow_other _ _ _ _ (by omega)).trans h2.cell, ?_, h2.le, h2.few, h2.far, h2.own⟩
  obtain ⟨a, cap, rfl, hc⟩ := h.toks
  rcases hc with h0 | ⟨g, o, hg, hcc⟩
  · obtain ⟨a2, cap2, e2, _⟩ := h2.toks
    exact ⟨a2, cap2, e2, .inl h0⟩
  · by_cases h0 : ts.length = 0
    · obtain ⟨a2, cap2, e2, _⟩ := h2.toks
      exact ⟨a2, cap2, e2, .inl h0⟩
    · refine h2.toks.carry fun a' n c' ev hl => setRow_other _ _ _ _ ?_
      intro he
      injection ev with e1 e2 e3
      rw [hg] at e1
      injection e1 with e1
      have hlt2 : g < w.heap.size := World.block_lt_of_cell? w ⟨g, o + 0 * 3, none⟩ (hcc 0 (by omega)).1
      rw [← e1] at he
      simp only at he
      omega
theorem grown_setRow {w W : World} {r : Option Nat} (g : w.grownBy W r) (d : Array Value) : w.grownBy (W.setRow w.heap.size d) r :=
  ⟨g.os, g.tape, g.output, by have := g.size; simpa [World.setRow] using this, fun k hk hkr => (setRow_other _ _ _ _ (by omega)).trans (g.block k hk hkr)⟩
/-- A box stays where others are written. -/
theorem box_kept {w w2 : World} {r : Nat} {c : Array Value} {t : TypeId} {u : Value} (hr : r < w.heap.size) (g : ((w.alloc (.cells c t)).setCell ⟨r, 1, none⟩ u).grownBy w2 (some r)) : w2.heap[w.heap.size]? = some (.cells c t (0, 0)) := by
  rw [g.block _ (by simp [World.setCell]) (fun e => by injection e; omega), Below.heap_setCell _ _ _ _ (by show w.heap.size ≠ r; omega)]
  exact heap_alloc_new w _
/-- What has one part, in new memory. -/
theorem StP.one {ok : Nat → Prop} {W : World} {x : Ex} {s : Value} (op : Nat) (hop : op < 256) (g : Nat) (hg : ok g) (hst : StP ok W x s) (hc : W.heap[g]? = some (.cells (ex4 x s) 25 (0, 0))) : StP ok W ⟨op, 0, ByteArray.empty, [x]⟩ (.slice (some ⟨g, 0, none⟩) 1 1) := by
  refine StP.intro ⟨op, 0, ByteArray.empty, [x]⟩ (some ⟨g, 0, none⟩) 1 (fun _ => s) hop (by simp) (by show ByteArray.empty.size ≤ _; decide) (by simp) (by simp) (.inr ⟨g, 0, rfl, hg, fun i hi => ?_⟩) (fun i hi => ?_)
  · obtain rfl : i = 0 := by simpa using hi
    refine ⟨?_, ?_, ?_, ?_⟩ <;> (rw [cell_of_row _ _ _ _ 25 (0, 0) hc]; rfl)
  · obtain rfl : i = 0 := by simpa using hi
    exact hst
set_option maxRecDepth 100000 in
set_option maxHeartbeats 1000000 in
theorem one_ok (r mp : Nat) (v : Value) (ts : List Mark) (p op q : Nat) (x : Ex) (w : World) (h : Rdr r mp v ts p w) (hp : p < ts.length) (hop : op < 256)
    (cp : ∀ W, w.grownBy W (some r) → Rdr r mp v ts (p + 1) W → Calls Tryd.prog 65 #[.pointer (some ⟨r, 0, none⟩), .int .i64 6] W (Post r mp v ts W (.ok (x, q)))) :
    Calls Tryd.prog 61 #[.pointer (some ⟨r, 0, none⟩), .int .u8 (op : Int)] w (Post r mp v ts w (.ok (⟨op, 0, ByteArray.empty, [x]⟩, q))) := by
  have b0 := (Below.refl w.heap.size w).alloc (Nat.le_refl _) (.cells #[.int .u8 0, .int .i64 0, .string ⟨#[]⟩, .slice none 0 0] 25)
  obtain ⟨y0, y1, hg, hr⟩ := moved (h.step b0) hp
  have hfew : (p : Int) < 140737488355328 := by have := h.few; omega
  have HG := hid (grown_on (grown_below b0 (some r)) hg)
  have HR := hid hr
  have H := hid h
  have HOP := hid hop
  clear h hp hg hr b0 hop
  go_enter Tryd.func61, Tryd.ntmps61
  go_wp2_with (fail)
  refine (cp _ HG.out HR.out).mono ?_
  rintro e w2 ⟨g2, s, rfl, st, h2⟩
  obtain ⟨ao, cap, rfl⟩ := st.form
  have hbx := box_kept H.out.lt g2
  have b3 := (Below.refl w2.heap.size w2).alloc (Nat.le_refl _) (.cells (ex4 x (.slice ao x.args.length cap)) 25)
  have hbx3 := (b3.block _ (Array.getElem?_eq_some_iff.1 hbx).1).trans hbx
  have hlt2 := (Array.getElem?_eq_some_iff.1 hbx).1
  have G2 := hid (grown_on (grown_on HG.out g2) (grown_below b3 _))
  have H2 := hid (h2.step b3)
  have ST := hid st
  have B3 := hid b3
  have HL := hid hlt2
  clear g2 h2 st cp b3 hbx hlt2 y0 y1
  rename_i K hK
  refine hK _ _ ?_
  clear hK K
  obtain ⟨ie, hie, hz, hsz⟩ := inf25
  refine wpList_buildSlice rfl 23 25 1 _ rfl (ex4 x (.slice ao x.args.length cap)) ie z25 Tryd.underlying23 hie hz (by rw [hsz]; decide) (by rw [hsz]; decide) (by rw [hsz]; simp only [List.map_toArray, List.map_cons, List.map_nil]; exact fill1 x ao x.args.length cap) ?_
  clear hie hz hsz
  go_wp2_with (refine wpList_store_row rfl 25 _ _ rfl w.heap.size #[.int .u8 (op : Int), .int .i64 0, .string ⟨#[]⟩, .slice (some ⟨w2.heap.size, 0, none⟩) 1 1] rfl rfl 25 _ hbx3 info25 rfl (by simp [Value.oneCell']) ?_)
  refine bodyPost_ret (results_cell_row rfl _ _ w.heap.size 25 #[.int .u8 (op : Int), .int .i64 0, .string ⟨#[]⟩, .slice (some ⟨w2.heap.size, 0, none⟩) 1 1] (0, 0) _ rfl (setRow_heap _ _ _ _ _ _ hbx3) Tryd.underlying25 rfl info25) rfl ⟨grown_setRow G2.out _, _, rfl, ?_, H.out.setRow H2.out _⟩
  refine StP.one op HOP.out w2.heap.size (by have := HL.out; omega) ?_ ((setRow_other _ _ _ _ (by have := HL.out; omega)).trans (heap_alloc_new w2 _))
  refine StP.carryN (fun b hb hl => ?_) (fun b _ hb => ?_) _ x _ (Nat.le_refl _) ST.out
  · simp [World.setCell] at hb
    exact (setRow_other _ _ _ _ (by omega)).trans (B3.out.block b hl)
  · simp [World.setCell] at hb
    show w.heap.size ≤ b
    omega
end Go.Proofs.YtkieljleopbhoaaDoor.Lex
