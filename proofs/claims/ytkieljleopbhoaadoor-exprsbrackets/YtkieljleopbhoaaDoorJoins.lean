/-
  The table of operators of two, and the contract of joinOf.
-/
import Derived.Test.YtkieljleopbhoaaDoorEx
import Derived.Test.YtkieljleopbhoaaDoorRead
import Derived.Laws.Tables
import Derived.Laws.ResultCell
namespace Go.Proofs.YtkieljleopbhoaaDoor.Lex
open Go.ChangeShapes Go.WideShapes Go.ChangeAt Go.RowKit Go.Joins
/-- An operator of two: its number, its token, its rank, those that its places ask for. -/
structure J where
  op : Nat
  kind : Nat
  text : ByteArray
  rank : Nat
  first : Nat
  second : Nat
def JT : List J := [⟨18, 3, ⟨#[45, 62]⟩, 0, 1, 0⟩, ⟨16, 1, ⟨#[111, 114]⟩, 1, 1, 2⟩, ⟨15, 1, ⟨#[97, 110, 100]⟩, 2, 2, 3⟩, ⟨11, 3, ⟨#[61, 61]⟩, 3, 4, 4⟩, ⟨12, 3, ⟨#[33, 61]⟩, 3, 4, 4⟩, ⟨13, 3, ⟨#[60]⟩, 3, 4, 4⟩, ⟨14, 3, ⟨#[60, 61]⟩, 3, 4, 4⟩, ⟨6, 3, ⟨#[43]⟩, 4, 4, 5⟩, ⟨7, 3, ⟨#[45]⟩, 4, 4, 5⟩, ⟨8, 3, ⟨#[42]⟩, 5, 5, 6⟩, ⟨9, 3, ⟨#[47]⟩, 5, 5, 6⟩, ⟨10, 3, ⟨#[37]⟩, 5, 5, 6⟩]
def j0 : J := ⟨0, 0, ByteArray.empty, 0, 0, 0⟩
def jR (k : Nat) : J := JT.getD k j0
def jrow (r : J) : Array Value := #[.int .u8 (r.op : Int), .int .u8 (r.kind : Int), .string r.text, .int .i64 (r.rank : Int), .int .i64 (r.first : Int), .int .i64 (r.second : Int)]
def joinV : Array Value := #[.int .u8 18, .int .u8 3, .string ⟨#[45, 62]⟩, .int .i64 0, .int .i64 1, .int .i64 0, .int .u8 16, .int .u8 1, .string ⟨#[111, 114]⟩, .int .i64 1, .int .i64 1, .int .i64 2, .int .u8 15, .int .u8 1, .string ⟨#[97, 110, 100]⟩, .int .i64 2, .int .i64 2, .int .i64 3, .int .u8 11, .int .u8 3, .string ⟨#[61, 61]⟩, .int .i64 3, .int .i64 4, .int .i64 4, .int .u8 12, .int .u8 3, .string ⟨#[33, 61]⟩, .int .i64 3, .int .i64 4, .int .i64 4, .int .u8 13, .int .u8 3, .string ⟨#[60]⟩, .int .i64 3, .int .i64 4, .int .i64 4, .int .u8 14, .int .u8 3, .string ⟨#[60, 61]⟩, .int .i64 3, .int .i64 4, .int .i64 4, .int .u8 6, .int .u8 3, .string ⟨#[43]⟩, .int .i64 4, .int .i64 4, .int .i64 5, .int .u8 7, .int .u8 3, .string ⟨#[45]⟩, .int .i64 4, .int .i64 4, .int .i64 5, .int .u8 8, .int .u8 3, .string ⟨#[42]⟩, .int .i64 5, .int .i64 5, .int .i64 6, .int .u8 9, .int .u8 3, .string ⟨#[47]⟩, .int .i64 5, .int .i64 5, .int .i64 6, .int .u8 10, .int .u8 3, .string ⟨#[37]⟩, .int .i64 5, .int .i64 5, .int .i64 6]
/-- The table stands in its variable. -/
def TabJ (w : World) : Prop := ∃ t fz, w.heap[0]? = some (.cells joinV t fz)
theorem TabJ.below {w w' : World} (h : TabJ w) (hb : Below w.heap.size w w') : TabJ w' := by
  obtain ⟨t, fz, h⟩ := h
  exact ⟨t, fz, (hb.block 0 (Array.getElem?_eq_some_iff.1 h).1).trans h⟩
theorem j_index_0 (w : World) : (Instr.index 96 (.agg joinV) (.int .i64 0)).run Tryd.prog w = .ok (.agg #[.int .u8 18, .int .u8 3, .string ⟨#[45, 62]⟩, .int .i64 0, .int .i64 1, .int .i64 0]) w := by kernel_rfl
theorem j_index_1 (w : World) : (Instr.index 96 (.agg joinV) (.int .i64 1)).run Tryd.prog w = .ok (.agg #[.int .u8 16, .int .u8 1, .string ⟨#[111, 114]⟩, .int .i64 1, .int .i64 1, .int .i64 2]) w := by kernel_rfl
theorem j_index_2 (w : World) : (Instr.index 96 (.agg joinV) (.int .i64 2)).run Tryd.prog w = .ok (.agg #[.int .u8 15, .int .u8 1, .string ⟨#[97, 110, 100]⟩, .int .i64 2, .int .i64 2, .int .i64 3]) w := by kernel_rfl
theorem j_index_3 (w : World) : (Instr.index 96 (.agg joinV) (.int .i64 3)).run Tryd.prog w = .ok (.agg #[.int .u8 11, .int .u8 3, .string ⟨#[61, 61]⟩, .int .i64 3, .int .i64 4, .int .i64 4]) w := by kernel_rfl
theorem j_index_4 (w : World) : (Instr.index 96 (.agg joinV) (.int .i64 4)).run Tryd.prog w = .ok (.agg #[.int .u8 12, .int .u8 3, .string ⟨#[33, 61]⟩, .int .i64 3, .int .i64 4, .int .i64 4]) w := by kernel_rfl
theorem j_index_5 (w : World) : (Instr.index 96 (.agg joinV) (.int .i64 5)).run Tryd.prog w = .ok (.agg #[.int .u8 13, .int .u8 3, .string ⟨#[60]⟩, .int .i64 3, .int .i64 4, .int .i64 4]) w := by kernel_rfl
theorem j_index_6 (w : World) : (Instr.index 96 (.agg joinV) (.int .i64 6)).run Tryd.prog w = .ok (.agg #[.int .u8 14, .int .u8 3, .string ⟨#[60, 61]⟩, .int .i64 3, .int .i64 4, .int .i64 4]) w := by kernel_rfl
theorem j_index_7 (w : World) : (Instr.index 96 (.agg joinV) (.int .i64 7)).run Tryd.prog w = .ok (.agg #[.int .u8 6, .int .u8 3, .string ⟨#[43]⟩, .int .i64 4, .int .i64 4, .int .i64 5]) w := by kernel_rfl
theorem j_index_8 (w : World) : (Instr.index 96 (.agg joinV) (.int .i64 8)).run Tryd.prog w = .ok (.agg #[.int .u8 7, .int .u8 3, .string ⟨#[45]⟩, .int .i64 4, .int .i64 4, .int .i64 5]) w := by kernel_rfl
theorem j_index_9 (w : World) : (Instr.index 96 (.agg joinV) (.int .i64 9)).run Tryd.prog w = .ok (.agg #[.int .u8 8, .int .u8 3, .string ⟨#[42]⟩, .int .i64 5, .int .i64 5, .int .i64 6]) w := by kernel_rfl
theorem j_index_10 (w : World) : (Instr.index 96 (.agg joinV) (.int .i64 10)).run Tryd.prog w = .ok (.agg #[.int .u8 9, .int .u8 3, .string ⟨#[47]⟩, .int .i64 5, .int .i64 5, .int .i64 6]) w := by kernel_rfl
theorem j_index_11 (w : World) : (Instr.index 96 (.agg joinV) (.int .i64 11)).run Tryd.prog w = .ok (.agg #[.int .u8 10, .int .u8 3, .string ⟨#[37]⟩, .int .i64 5, .int .i64 5, .int .i64 6]) w := by kernel_rfl
theorem j_index (k : Nat) (hk : k < 12) (w : World) : (Instr.index 96 (.agg joinV) (.int .i64 (k : Int))).run Tryd.prog w = .ok (.agg (jrow (jR k))) w := by
  have h : k = 0 ∨ k = 1 ∨ k = 2 ∨ k = 3 ∨ k = 4 ∨ k = 5 ∨ k = 6 ∨ k = 7 ∨ k = 8 ∨ k = 9 ∨ k = 10 ∨ k = 11 := by omega
  rcases h with rfl | rfl | rfl | rfl | rfl | rfl | rfl | rfl | rfl | rfl | rfl | rfl
  · exact j_index_0 w
  · exact j_index_1 w
  · exact j_index_2 w
  · exact j_index_3 w
  · exact j_index_4 w
  · exact j_index_5 w
  · exact j_index_6 w
  · exact j_index_7 w
  · exact j_index_8 w
  · exact j_index_9 w
  · exact j_index_10 w
  · exact j_index_11 w
/-- The operator of a number. -/
def jOf (op : Nat) : Option J := JT.find? fun r => r.op == op
theorem jOf_some {op : Nat} (k : Nat) (hk : k < 12) (h : ∀ j, j < k → ((jR j).op == op) = false) (he : ((jR k).op == op) = true) : jOf op = some (jR k) := by
  unfold jOf
  rw [List.find?_eq_some_iff_getElem]
  have hget : ∀ j (hj : j < JT.length), JT[j]'hj = jR j := fun j hj => by unfold jR; rw [List.getD_eq_getElem?_getD, List.getElem?_eq_getElem hj]; rfl
  have hk' : k < JT.length := hk
  refine ⟨he, k, hk', hget k hk', fun j hj => ?_⟩
  have e := hget j (by omega)
  have hn := h j hj
  rw [← e] at hn
  rw [hn]
  rfl
theorem jOf_none {op : Nat} (h : ∀ j, j < 12 → ((jR j).op == op) = false) : jOf op = none := by
  unfold jOf
  rw [List.find?_eq_none]
  intro r hr
  obtain ⟨j, hj, e⟩ := List.getElem_of_mem hr
  have := h j hj
  unfold jR at this
  rw [List.getD_eq_getElem?_getD, List.getElem?_eq_getElem hj, e] at this
  simp only [Option.getD_some] at this
  rw [this]
  simp
theorem jR_op (k : Nat) : (jR k).op < 256 := by
  by_cases hk : k < 12
  · have h : k = 0 ∨ k = 1 ∨ k = 2 ∨ k = 3 ∨ k = 4 ∨ k = 5 ∨ k = 6 ∨ k = 7 ∨ k = 8 ∨ k = 9 ∨ k = 10 ∨ k = 11 := by omega
    rcases h with rfl | rfl | rfl | rfl | rfl | rfl | rfl | rfl | rfl | rfl | rfl | rfl <;> decide
  · have : jR k = j0 := by unfold jR; rw [List.getD_eq_getElem?_getD, List.getElem?_eq_none (by show 12 ≤ k; omega)]; rfl
    rw [this]; decide
/-- The row that is answered. -/
def jOut (op : Nat) : Array Value := jrow ((jOf op).getD j0)
theorem info83 : (Tryd.prog.info? 83).map (·.size) = some 6 := by kernel_rfl
theorem results_row_tmp {fn : Func} {p u : Tmp} {ty : TypeId} {P : Program} (h : fn.results = #[.cell p ty, .tmp u]) (tmps : Array Value) (w : World) (g : Nat) (cs : Array Value)
    (hp : tmps.getD p undef = .pointer (some ⟨g, 0, none⟩)) (hl : (loadVar ty ⟨g, 0, none⟩).run P w = .ok (.agg cs) w) :
    (results fn tmps).run P w = .ok (.tuple #[.agg cs, tmps.getD u undef]) w := by
  rw [results_cell_tmp h, hp]
  simp [asAddr, hl]
set_option maxRecDepth 100000 in
theorem joinOf (op : Nat) (w : World) (hT : TabJ w) : Calls Tryd.prog 43 #[.int .u8 (op : Int)] w fun e w' => e = .returned (.tuple #[.agg (jOut op), .bool (jOf op).isSome]) ∧ Below w.heap.size w w' := by
  obtain ⟨w1, hw1⟩ : ∃ w1, w1 = w.alloc (.cells (jrow j0) 83) := ⟨_, rfl⟩
  have hb1 : Below w.heap.size w w1 := by rw [hw1]; exact (Below.refl _ _).alloc (Nat.le_refl _) _
  have hR1 : w1.heap[w.heap.size]? = some (.cells (jrow j0) 83 (0, 0)) := by rw [hw1]; exact heap_alloc_new w _
  obtain ⟨t, fz, h0⟩ := hT.below hb1
  have HR := hid hR1
  have HB := hid hb1
  clear hT hR1 hb1
  go_enter Tryd.func43, Tryd.ntmps43
  go_wp2_with (refine wpList_load_row rfl 96 _ rfl 0 rfl t joinV fz _ (by first | exact h0 | (rw [hw1] at h0; exact h0)) Tryd.underlying96 rfl (by kernel_rfl) ?_)
  go_loopw [7] (fun i wr => ∃ k : Nat, k ≤ 12 ∧ i = .int .i64 (k : Int) ∧ Hid (∀ j, j < k → ((jR j).op == op) = false) ∧ Hid (Below w1.heap.size w1 wr)) (fun i _ => 12 - (intOf i).toNat)
  case atStart => exact ⟨0, by omega, rfl, fun j hj => by omega, by rw [hw1]; exact Below.refl _ _⟩
  case round =>
    obtain ⟨k, hk, rfl, hall, hB⟩ := hrel
    by_cases hlt : k < 12
    · have hlt' : (k : Int) < 12 := by omega
      have hx := fun W => j_index k hlt W
      unfold jrow at hx
      generalize hv : joinV = V at hx ⊢
      clear hv h0 hw1
      cases he : ((jR k).op == op)
      · have he' : (((jR k).op : Int) == (op : Int)) = false := by simp at he ⊢; omega
        have Hnew : Hid (∀ j, j < k + 1 → ((jR j).op == op) = false) := fun j hj => by
          by_cases e : j = k
          · rw [e]; exact he
          · exact hall.out j (by omega)
        clear hall he
        generalize (jR k).op = O at *
        go_wp2
        go_roundw
        case rel => exact ⟨k + 1, by omega, by go_num, Hnew, bstep hB.out ((Below.refl _ _).alloc (Nat.le_refl _) _)⟩
        case measure => simp [intOf]; omega
      · have he' : (((jR k).op : Int) == (op : Int)) = true := by simp at he ⊢; omega
        have Hr : Hid (jOf op = some (jR k)) := jOf_some k hlt hall.out he
        obtain ⟨C, hC⟩ : ∃ C, C = jrow (jR k) := ⟨_, rfl⟩
        have hRr : (wr.alloc (.cells (jrow (jR k)) 83)).heap[w.heap.size]? = some (.cells (jrow j0) 83 (0, 0)) := by
          have hb := bstep hB.out ((Below.refl wr.heap.size wr).alloc (Nat.le_refl _) (.cells (jrow (jR k)) 83))
          exact (hb.block _ (Array.getElem?_eq_some_iff.1 HR.out).1).trans HR.out
        unfold jrow at hRr
        clear hall he
        go_wp2_with (refine wpList_store_row rfl 83 _ _ rfl w.heap.size (jrow (jR k)) rfl rfl 83 _ hRr info83 rfl (by simp [Value.oneCell', jrow]) ?_)
        refine bodyPost_ret (results_row_tmp rfl _ _ w.heap.size (jrow (jR k)) rfl (run_loadVar_row _ _ 83 83 (jrow (jR k)) (0, 0) _ (setRow_heap _ _ _ _ _ _ hRr) Tryd.underlying83 rfl info83)) rfl ⟨?_, ?_⟩
        · rw [jOut, Hr.out]; rfl
        · exact below_row (bstep (bstep HB.out hB.out) ((Below.refl _ _).alloc (Nat.le_refl _) _)) (by have := HB.out.size; have := hB.out.size; simp; omega) (Nat.le_refl _) _
    · have hlt' : ¬ (k : Int) < 12 := by omega
      have Hr : Hid (jOf op = none) := jOf_none fun j hj => hall.out j (by omega)
      have hRr : wr.heap[w.heap.size]? = some (.cells (jrow j0) 83 (0, 0)) := (hB.out.block _ (Array.getElem?_eq_some_iff.1 HR.out).1).trans HR.out
      unfold jrow at hRr
      clear hall h0 hw1
      go_wp2_with (refine wpList_store_row rfl 83 _ _ rfl w.heap.size (jrow j0) rfl rfl 83 _ hRr info83 rfl (by simp [Value.oneCell', jrow]) ?_)
      refine bodyPost_ret (results_row_tmp rfl _ _ w.heap.size (jrow j0) rfl (run_loadVar_row _ _ 83 83 (jrow j0) (0, 0) _ (setRow_heap _ _ _ _ _ _ hRr) Tryd.underlying83 rfl info83)) rfl ⟨?_, ?_⟩
      · rw [jOut, Hr.out]; rfl
      · exact below_row (bstep HB.out hB.out) (by have := HB.out.size; have := hB.out.size; omega) (Nat.le_refl _) _
end Go.Proofs.YtkieljleopbhoaaDoor.Lex
