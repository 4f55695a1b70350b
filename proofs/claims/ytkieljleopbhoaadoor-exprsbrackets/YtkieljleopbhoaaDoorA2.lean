/-
  The table of operators of two, and the contract of joinOf.
  Whether a part has the fields of its operator: the contracts of partsOf, hasItsFields, and of the document's own.
  Whether it may be: how great it is, part by part; the contracts of fits and Check.
  As it is written: plain mathematics.
  The document's own: of how many parts an operator is, how great it is, whether it may be.
  Ranks, signs, digits: the contracts on both sides.
  How great it is: whatever number is told, the call returns.
  The twin of what is worked out: new memory, with a mark behind each row of parts.
  The contracts of TwinExprs and TwinExpr.
-/
import Derived.Test.YtkieljleopbhoaaDoorA1
import Derived.Laws.Tables
import Derived.Laws.ResultCell
import Derived.Lib.ItoaNum
import Derived.Lib.Small
import Derived.BigQuiet
import Derived.OwnWalk
namespace Go.Proofs.YtkieljleopbhoaaDoor.Lex
open Go.ChangeShapes Go.WideShapes Go.ChangeAt Go.RowKit Go.Joins
/-- An operator of two: its number, its token, its rank, those that its places ask for. -/
structure J where
  op : Nat
  kind : Nat
  text : ByteArray
  rank : Nat
  first : Nat
  second : Nat
def JT : List J := [⟨18, 3, ⟨#[45, 62]⟩, 0, 1, 0⟩, ⟨16, 1, ⟨#[111, 114]⟩, 1, 1, 2⟩, ⟨15, 1, ⟨#[97, 110, 100]⟩, 2, 2, 3⟩, ⟨11, 3, ⟨#[61, 61]⟩, 3, 4, 4⟩, ⟨12, 3, ⟨#[33, 61]⟩, 3, 4, 4⟩, ⟨13, 3, ⟨#[60]⟩, 3, 4, 4⟩, ⟨14, 3, ⟨#[60, 61]⟩, 3, 4, 4⟩, ⟨6, 3, ⟨#[43]⟩, 4, 4, 5⟩, ⟨7, 3, ⟨#[45]⟩, 4, 4, 5⟩, ⟨8, 3, ⟨#[42]⟩, 5, 5, 6⟩, ⟨9, 3, ⟨#[47]⟩, 5, 5, 6⟩, ⟨10, 3, ⟨#[37]⟩, 5, 5, 6⟩]
def j0 : J := ⟨0, 0, ByteArray.empty, 0, 0, 0⟩
def jR (k : Nat) : J := JT.getD k j0
def jrow (r : J) : Array Value := #[.int .u8 (r.op : Int), .int .u8 (r.kind : Int), .string r.text, .int .i64 (r.rank : Int), .int .i64 (r.first : Int), .int .i64 (r.second : Int)]
def joinV : Array Value := #[.int .u8 18, .int .u8 3, .string ⟨#[45, 62]⟩, .int .i64 0, .int .i64 1, .int .i64 0, .int .u8 16, .int .u8 1, .string ⟨#[111, 114]⟩, .int .i64 1, .int .i64 1, .int .i64 2, .int .u8 15, .int .u8 1, .string ⟨#[97, 110, 100]⟩, .int .i64 2, .int .i64 2, .int .i64 3, .int .u8 11, .int .u8 3, .string ⟨#[61, 61]⟩, .int .i64 3, .int .i64 4, .int .i64 4, .int .u8 12, .int .u8 3, .string ⟨#[33, 61]⟩, .int .i64 3, .int .i64 4, .int .i64 4, .int .u8 13, .int .u8 3, .string ⟨#[60]⟩, .int .i64 3, .int .i64 4, .int .i64 4, .int .u8 14, .int .u8 3, .string ⟨#[60, 61]⟩, .int .i64 3, .int .i64 4, .int .i64 4, .int .u8 6, .int .u8 3, .string ⟨#[43]⟩, .int .i64 4, .int .i64 4, .int .i64 5, .int .u8 7, .int .u8 3, .string ⟨#[45]⟩, .int .i64 4, .int .i64 4, .int .i64 5, .int .u8 8, .int .u8 3, .string ⟨#[42]⟩, .int .i64 5, .int .i64 5, .int .i64 6, .int .u8 9, .int .u8 3, .string ⟨#[47]⟩, .int .i64 5, .int .i64 5, .int .i64 6, .int .u8 10, .int .u8 3, .string ⟨#[37]⟩, .int .i64 5, .int .i64 5, .int .i64 6]
/-- The table stands in its variable. -/
def TabJ (w : World) : Prop := ∃ t fz, w.heap[0]? = some (.cells joinV t fz)
theorem TabJ.below {w w' : World} (h : TabJ w) (hb : Below w.heap.size w w') : TabJ w' := by
  obtain ⟨t, fz, h⟩ := h
  exact ⟨t, fz, (hb.block 0 (Array.getElem?_eq_some_iff.1 h).1).trans h⟩
theorem j_index_0 (w : World) : (Instr.index 96 (.agg joinV) (.int .i64 0)).run Tryd.prog w = .ok (.agg #[.int .u8 18, .int .u8 3, .string ⟨#[45, 62]⟩, .int .i64 0, .int .i64 1, .int .i64 0]) w := by kernel_rfl
theorem j_index_1 (w : World) : (Instr.index 96 (.agg joinV) (.int .i64 1)).run Tryd.prog w = .ok (.agg #[.int .u8 16, .int .u8 1, .string ⟨#[111, 114]⟩, .int .i64 1, .int .i64 1, .int .i64 2]) w := by kernel_rfl
theorem j_index_2 (w : World) : (Instr.index 96 (.agg joinV) (.int .i64 2)).run Tryd.prog w = .ok (.agg #[.int .u8 15, .int .u8 1, .string ⟨#[97, 110, 100]⟩, .int .i64 2, .int .i64 2, .int .i64 3]) w := by kernel_rfl
theorem j_index_3 (w : World) : (Instr.index 96 (.agg joinV) (.int .i64 3)).run Tryd.prog w = .ok (.agg #[.int .u8 11, .int .u8 3, .string ⟨#[61, 61]⟩, .int .i64 3, .int .i64 4, .int .i64 4]) w := by kernel_rfl
theorem j_index_4 (w : World) : (Instr.index 96 (.agg joinV) (.int .i64 4)).run Tryd.prog w = .ok (.agg #[.int .u8 12, .int .u8 3, .string ⟨#[33, 61]⟩, .int .i64 3, .int .i64 4, .int .i64 4]) w := by kernel_rfl
theorem j_index_5 (w : World) : (Instr.index 96 (.agg joinV) (.int .i64 5)).run Tryd.prog w = .ok (.agg #[.int .u8 13, .int .u8 3, .string ⟨#[60]⟩, .int .i64 3, .int .i64 4, .int .i64 4]) w := by kernel_rfl
theorem j_index_6 (w : World) : (Instr.index 96 (.agg joinV) (.int .i64 6)).run Tryd.prog w = .ok (.agg #[.int .u8 14, .int .u8 3, .string ⟨#[60, 61]⟩, .int .i64 3, .int .i64 4, .int .i64 4]) w := by kernel_rfl
theorem j_index_7 (w : World) : (Instr.index 96 (.agg joinV) (.int .i64 7)).run Tryd.prog w = .ok (.agg #[.int .u8 6, .int .u8 3, .string ⟨#[43]⟩, .int .i64 4, .int .i64 4, .int .i64 5]) w := by kernel_rfl
theorem j_index_8 (w : World) : (Instr.index 96 (.agg joinV) (.int .i64 8)).run Tryd.prog w = .ok (.agg #[.int .u8 7, .int .u8 3, .string ⟨#[45]⟩, .int .i64 4, .int .i64 4, .int .i64 5]) w := by kernel_rfl
theorem j_index_9 (w : World) : (Instr.index 96 (.agg joinV) (.int .i64 9)).run Tryd.prog w = .ok (.agg #[.int .u8 8, .int .u8 3, .string ⟨#[42]⟩, .int .i64 5, .int .i64 5, .int .i64 6]) w := by kernel_rfl
theorem j_index_10 (w : World) : (Instr.index 96 (.agg joinV) (.int .i64 10)).run Tryd.prog w = .ok (.agg #[.int .u8 9, .int .u8 3, .string ⟨#[47]⟩, .int .i64 5, .int .i64 5, .int .i64 6]) w := by kernel_rfl
theorem j_index_11 (w : World) : (Instr.index 96 (.agg joinV) (.int .i64 11)).run Tryd.prog w = .ok (.agg #[.int .u8 10, .int .u8 3, .string ⟨#[37]⟩, .int .i64 5, .int .i64 5, .int .i64 6]) w := by kernel_rfl
theorem j_index (k : Nat) (hk : k < 12) (w : World) : (Instr.index 96 (.agg joinV) (.int .i64 (k : Int))).run Tryd.prog w = .ok (.agg (jrow (jR k))) w := by
  have h : k = 0 ∨ k = 1 ∨ k = 2 ∨ k = 3 ∨ k = 4 ∨ k = 5 ∨ k = 6 ∨ k = 7 ∨ k = 8 ∨ k = 9 ∨ k = 10 ∨ k = 11 := by omega
  rcases h with rfl | rfl | rfl | rfl | rfl | rfl | rfl | rfl | rfl | rfl | rfl | rfl
  · exact j_index_0 w
  · exact j_index_1 w
  · exact j_index_2 w
  · exact j_index_3 w
  · exact j_index_4 w
  · exact j_index_5 w
  · exact j_index_6 w
  · exact j_index_7 w
  · exact j_index_8 w
  · exact j_index_9 w
  · exact j_index_10 w
  · exact j_index_11 w
/-- The operator of a number. -/
def jOf (op : Nat) : Option J := JT.find? fun r => r.op == op
theorem jOf_some {op : Nat} (k : Nat) (hk : k < 12) (h : ∀ j, j < k → ((jR j).op == op) = false) (he : ((jR k).op == op) = true) : jOf op = some (jR k) := by
  unfold jOf
  rw [List.find?_eq_some_iff_getElem]
  have hget : ∀ j (hj : j < JT.length), JT[j]'hj = jR j := fun j hj => by unfold jR; rw [List.getD_eq_getElem?_getD, List.getElem?_eq_getElem hj]; rfl
  have hk' : k < JT.length := hk
  refine ⟨he, k, hk', hget k hk', fun j hj => ?_⟩
  have e := hget j (by omega)
  have hn := h j hj
  rw [← e] at hn
  rw [hn]
  rfl
theorem jOf_none {op : Nat} (h : ∀ j, j < 12 → ((jR j).op == op) = false) : jOf op = none := by
  unfold jOf
  rw [List.find?_eq_none]
  intro r hr
  obtain ⟨j, hj, e⟩ := List.getElem_of_mem hr
  have := h j hj
  unfold jR at this
  rw [List.getD_eq_getElem?_getD, List.getElem?_eq_getElem hj, e] at this
  simp only [Option.getD_some] at this
  rw [this]
  simp
theorem jR_op (k : Nat) : (jR k).op < 256 := by
  by_cases hk : k < 12
  · have h : k = 0 ∨ k = 1 ∨ k = 2 ∨ k = 3 ∨ k = 4 ∨ k = 5 ∨ k = 6 ∨ k = 7 ∨ k = 8 ∨ k = 9 ∨ k = 10 ∨ k = 11 := by omega
    rcases h with rfl | rfl | rfl | rfl | rfl | rfl | rfl | rfl | rfl | rfl | rfl | rfl <;> decide
  · have : jR k = j0 := by unfold jR; rw [List.getD_eq_getElem?_getD, List.getElem?_eq_none (by show 12 ≤ k; omega)]; rfl
    rw [this]; decide
/-- The row that is answered. -/
def jOut (op : Nat) : Array Value := jrow ((jOf op).getD j0)
theorem info83 : (Tryd.prog.info? 83).map (·.size) = some 6 := by kernel_rfl
theorem results_row_tmp {fn : Func} {p u : Tmp} {ty : TypeId} {P : Program} (h : fn.results = #[.cell p ty, .tmp u]) (tmps : Array Value) (w : World) (g : Nat) (cs : Array Value)
    (hp : tmps.getD p undef = .pointer (some ⟨g, 0, none⟩)) (hl : (loadVar ty ⟨g, 0, none⟩).run P w = .ok (.agg cs) w) :
    (results fn tmps).run P w = .ok (.tuple #[.agg cs, tmps.getD u undef]) w := by
  rw [results_cell_tmp h, hp]
  simp [asAddr, hl]
set_option maxRecDepth 100000 in
theorem joinOf (op : Nat) (w : World) (hT : TabJ w) : Calls Tryd.prog 43 #[.int .u8 (op : Int)] w fun e w' => e = .returned (.tuple #[.agg (jOut op), .bool (jOf op).isSome]) ∧ Below w.heap.size w w' := by
  obtain ⟨w1, hw1⟩ : ∃ w1, w1 = w.alloc (.cells (jrow j0) 83) := ⟨_, rfl⟩
  have hb1 : Below w.heap.size w w1 := by rw [hw1]; exact (Below.refl _ _).alloc (Nat.le_refl _) _
  have hR1 : w1.heap[w.heap.size]? = some (.cells (jrow j0) 83 (0, 0)) := by rw [hw1]; exact heap_alloc_new w _
  obtain ⟨t, fz, h0⟩ := hT.below hb1
  have HR := hid hR1
  have HB := hid hb1
  clear hT hR1 hb1
  go_enter Tryd.func43, Tryd.ntmps43
  go_wp2_with (refine wpList_load_row rfl 96 _ rfl 0 rfl t joinV fz _ (by first | exact h0 | (rw [hw1] at h0; exact h0)) Tryd.underlying96 rfl (by kernel_rfl) ?_)
  go_loopw [7] (fun i wr => ∃ k : Nat, k ≤ 12 ∧ i = .int .i64 (k : Int) ∧ Hid (∀ j, j < k → ((jR j).op == op) = false) ∧ Hid (Below w1.heap.size w1 wr)) (fun i _ => 12 - (intOf i).toNat)
  case atStart => exact ⟨0, by omega, rfl, fun j hj => by omega, by rw [hw1]; exact Below.refl _ _⟩
  case round =>
    obtain ⟨k, hk, rfl, hall, hB⟩ := hrel
    by_cases hlt : k < 12
    · have hlt' : (k : Int) < 12 := by omega
      have hx := fun W => j_index k hlt W
      unfold jrow at hx
      generalize hv : joinV = V at hx ⊢
      clear hv h0 hw1
      cases he : ((jR k).op == op)
      · have he' : (((jR k).op : Int) == (op : Int)) = false := by simp at he ⊢; omega
        have Hnew : Hid (∀ j, j < k + 1 → ((jR j).op == op) = false) := fun j hj => by
          by_cases e : j = k
          · rw [e]; exact he
          · exact hall.out j (by omega)
        clear hall he
        generalize (jR k).op = O at *
        go_wp2
        go_roundw
        case rel => exact ⟨k + 1, by omega, by go_num, Hnew, bstep hB.out ((Below.refl _ _).alloc (Nat.le_refl _) _)⟩
        case measure => simp [intOf]; omega
      · have he' : (((jR k).op : Int) == (op : Int)) = true := by simp at he ⊢; omega
        have Hr : Hid (jOf op = some (jR k)) := jOf_some k hlt hall.out he
        obtain ⟨C, hC⟩ : ∃ C, C = jrow (jR k) := ⟨_, rfl⟩
        have hRr : (wr.alloc (.cells (jrow (jR k)) 83)).heap[w.heap.size]? = some (.cells (jrow j0) 83 (0, 0)) := by
          have hb := bstep hB.out ((Below.refl wr.heap.size wr).alloc (Nat.le_refl _) (.cells (jrow (jR k)) 83))
          exact (hb.block _ (Array.getElem?_eq_some_iff.1 HR.out).1).trans HR.out
        unfold jrow at hRr
        clear hall he
        go_wp2_with (refine wpList_store_row rfl 83 _ _ rfl w.heap.size (jrow (jR k)) rfl rfl 83 _ hRr info83 rfl (by simp [Value.oneCell', jrow]) ?_)
        refine bodyPost_ret (results_row_tmp rfl _ _ w.heap.size (jrow (jR k)) rfl (run_loadVar_row _ _ 83 83 (jrow (jR k)) (0, 0) _ (setRow_heap _ _ _ _ _ _ hRr) Tryd.underlying83 rfl info83)) rfl ⟨?_, ?_⟩
        · rw [jOut, Hr.out]; rfl
        · exact below_row (bstep (bstep HB.out hB.out) ((Below.refl _ _).alloc (Nat.le_refl _) _)) (by have := HB.out.size; have := hB.out.size; simp; omega) (Nat.le_refl _) _
    · have hlt' : ¬ (k : Int) < 12 := by omega
      have Hr : Hid (jOf op = none) := jOf_none fun j hj => hall.out j (by omega)
      have hRr : wr.heap[w.heap.size]? = some (.cells (jrow j0) 83 (0, 0)) := (hB.out.block _ (Array.getElem?_eq_some_iff.1 HR.out).1).trans HR.out
      unfold jrow at hRr
      clear hall h0 hw1
      go_wp2_with (refine wpList_store_row rfl 83 _ _ rfl w.heap.size (jrow j0) rfl rfl 83 _ hRr info83 rfl (by simp [Value.oneCell', jrow]) ?_)
      refine bodyPost_ret (results_row_tmp rfl _ _ w.heap.size (jrow j0) rfl (run_loadVar_row _ _ 83 83 (jrow j0) (0, 0) _ (setRow_heap _ _ _ _ _ _ hRr) Tryd.underlying83 rfl info83)) rfl ⟨?_, ?_⟩
      · rw [jOut, Hr.out]; rfl
      · exact below_row (bstep HB.out hB.out) (by have := HB.out.size; have := hB.out.size; omega) (Nat.le_refl _) _
end Go.Proofs.YtkieljleopbhoaaDoor.Lex
namespace Go.Proofs.YtkieljleopbhoaaDoor.Lex
open Go.ChangeShapes Go.WideShapes Go.ChangeAt Go.RowKit Go.Joins
/-- Of how many parts an operator is. -/
def parts (op : Nat) : Nat := if op = 4 ∨ op = 5 ∨ op = 19 then 1 else if op = 17 then 3 else if (jOf op).isSome then 2 else 0
/-- Has it the fields of its operator? -/
def fieldsOk (op : Nat) (n : Int) (nm : ByteArray) (len : Nat) : Bool :=
  if op = 1 then decide (0 ≤ n) && (decide (nm.size = 0) && decide (len = 0))
  else if op = 2 then (decide (n = 0) || decide (n = 1)) && (decide (nm.size = 0) && decide (len = 0))
  else if op = 3 then decide (n = 0) && (isName nm && decide (len = 0))
  else decide (0 < parts op) && (decide (n = 0) && (decide (nm.size = 0) && decide (len = parts op)))
theorem eqN {a : Nat} {b : Nat} (h : a = b) : ((a : Int) == (b : Int)) = true := by simp [h]
theorem neN {a : Nat} {b : Nat} (h : ¬ a = b) : ((a : Int) == (b : Int)) = false := by simp; omega
theorem ieq {a b : Int} (h : a = b) : (a == b) = true := by simp [h]
theorem ine {a b : Int} (h : ¬ a = b) : (a == b) = false := by simp [h]
set_option maxRecDepth 100000 in
theorem partsOf (op : Nat) (w : World) (hT : TabJ w) : Calls Tryd.prog 72 #[.int .u8 (op : Int)] w fun e w' => e = .returned (.int .i64 (parts op : Int)) ∧ Below w.heap.size w w' := by
  have c := joinOf op w hT
  by_cases h4 : op = 4
  · have e4 := eqN (b := 4) h4
    have hp : parts op = 1 := by unfold parts; rw [if_pos (.inl h4)]
    rw [hp]
    clear hp h4 c
    go_enter Tryd.func72, Tryd.ntmps72
    go_wp2
    go_ret
    exact ⟨rfl, Below.refl _ _⟩
  · have e4 := neN (b := 4) h4
    by_cases h5 : op = 5
    · have e5 := eqN (b := 5) h5
      have hp : parts op = 1 := by unfold parts; rw [if_pos (.inr (.inl h5))]
      rw [hp]
      clear hp h4 h5 c
      go_enter Tryd.func72, Tryd.ntmps72
      go_wp2
      go_ret
      exact ⟨rfl, Below.refl _ _⟩
    · have e5 := neN (b := 5) h5
      by_cases h19 : op = 19
      · have e19 := eqN (b := 19) h19
        have hp : parts op = 1 := by unfold parts; rw [if_pos (.inr (.inr h19))]
        rw [hp]
        clear hp h4 h5 h19 c
        go_enter Tryd.func72, Tryd.ntmps72
        go_wp2
        go_ret
        exact ⟨rfl, Below.refl _ _⟩
      · have e19 := neN (b := 19) h19
        by_cases h17 : op = 17
        · have e17 := eqN (b := 17) h17
          have hp : parts op = 3 := by unfold parts; rw [if_neg (by omega), if_pos h17]
          rw [hp]
          clear hp h4 h5 h19 h17 c
          go_enter Tryd.func72, Tryd.ntmps72
          go_wp2
          go_ret
          exact ⟨rfl, Below.refl _ _⟩
        · have e17 := neN (b := 17) h17
          have hp : parts op = if (jOf op).isSome then 2 else 0 := by unfold parts; rw [if_neg (by omega), if_neg h17]
          rw [hp]
          unfold jOut jrow at c
          generalize (jOf op).getD j0 = r at c
          clear hp h4 h5 h19 h17
          cases hj : (jOf op).isSome
          · rw [hj] at c
            go_enter Tryd.func72, Tryd.ntmps72
            go_wp2_with (go_at_call 43; refine c.mono ?_; rintro e w2 ⟨rfl, hb2⟩)
            go_ret
            exact ⟨rfl, bstep hb2 ((Below.refl _ _).alloc (Nat.le_refl _) _)⟩
          · rw [hj] at c
            go_enter Tryd.func72, Tryd.ntmps72
            go_wp2_with (go_at_call 43; refine c.mono ?_; rintro e w2 ⟨rfl, hb2⟩)
            go_ret
            exact ⟨rfl, bstep hb2 ((Below.refl _ _).alloc (Nat.le_refl _) _)⟩
set_option linter.unusedVariables false
set_option maxRecDepth 100000 in
set_option maxHeartbeats 1000000 in
theorem has_1a (op : Nat) (n : Int) (nm : ByteArray) (ao : Option Addr) (len cap : Nat) (w : World) (e1 : ((op : Int) == 1) = true) (h0 : ¬ 0 ≤ n) : Calls Tryd.prog 48 #[.agg #[.int .u8 (op : Int), .int .i64 n, .string nm, .slice ao len cap]] w fun e w' => e = .returned (.bool false) ∧ Below w.heap.size w w' := by
  go_enter Tryd.func48, Tryd.ntmps48
  go_wp2
  go_ret
  exact ⟨rfl, (Below.refl _ _).alloc (Nat.le_refl _) _⟩
set_option maxRecDepth 100000 in
set_option maxHeartbeats 1000000 in
theorem has_1b (op : Nat) (n : Int) (nm : ByteArray) (ao : Option Addr) (len cap : Nat) (w : World) (e1 : ((op : Int) == 1) = true) (h0 : 0 ≤ n) (he : nm.toList.isEmpty = false) : Calls Tryd.prog 48 #[.agg #[.int .u8 (op : Int), .int .i64 n, .string nm, .slice ao len cap]] w fun e w' => e = .returned (.bool false) ∧ Below w.heap.size w w' := by
  go_enter Tryd.func48, Tryd.ntmps48
  go_wp2
  go_ret
  exact ⟨rfl, (Below.refl _ _).alloc (Nat.le_refl _) _⟩
set_option maxRecDepth 100000 in
set_option maxHeartbeats 1000000 in
theorem has_1c (op : Nat) (n : Int) (nm : ByteArray) (ao : Option Addr) (len cap : Nat) (w : World) (e1 : ((op : Int) == 1) = true) (h0 : 0 ≤ n) (he : nm.toList.isEmpty = true) : Calls Tryd.prog 48 #[.agg #[.int .u8 (op : Int), .int .i64 n, .string nm, .slice ao len cap]] w fun e w' => e = .returned (.bool ((len : Int) == 0)) ∧ Below w.heap.size w w' := by
  go_enter Tryd.func48, Tryd.ntmps48
  go_wp2
  go_ret
  exact ⟨rfl, (Below.refl _ _).alloc (Nat.le_refl _) _⟩
set_option maxRecDepth 100000 in
set_option maxHeartbeats 1000000 in
theorem has_2a (op : Nat) (n : Int) (nm : ByteArray) (ao : Option Addr) (len cap : Nat) (w : World) (e1 : ((op : Int) == 1) = false) (e2 : ((op : Int) == 2) = true) (h0 : (n == 0) = false) (h1 : (n == 1) = false) : Calls Tryd.prog 48 #[.agg #[.int .u8 (op : Int), .int .i64 n, .string nm, .slice ao len cap]] w fun e w' => e = .returned (.bool false) ∧ Below w.heap.size w w' := by
  go_enter Tryd.func48, Tryd.ntmps48
  go_wp2
  go_ret
  exact ⟨rfl, (Below.refl _ _).alloc (Nat.le_refl _) _⟩
set_option maxRecDepth 100000 in
set_option maxHeartbeats 1000000 in
theorem has_2bn (op : Nat) (n : Int) (nm : ByteArray) (ao : Option Addr) (len cap : Nat) (w : World) (e1 : ((op : Int) == 1) = false) (e2 : ((op : Int) == 2) = true) (h0 : (n == 0) = true) (he : nm.toList.isEmpty = false) : Calls Tryd.prog 48 #[.agg #[.int .u8 (op : Int), .int .i64 n, .string nm, .slice ao len cap]] w fun e w' => e = .returned (.bool false) ∧ Below w.heap.size w w' := by
  go_enter Tryd.func48, Tryd.ntmps48
  go_wp2
  go_ret
  exact ⟨rfl, (Below.refl _ _).alloc (Nat.le_refl _) _⟩
set_option maxRecDepth 100000 in
set_option maxHeartbeats 1000000 in
theorem has_2be (op : Nat) (n : Int) (nm : ByteArray) (ao : Option Addr) (len cap : Nat) (w : World) (e1 : ((op : Int) == 1) = false) (e2 : ((op : Int) == 2) = true) (h0 : (n == 0) = true) (he : nm.toList.isEmpty = true) : Calls Tryd.prog 48 #[.agg #[.int .u8 (op : Int), .int .i64 n, .string nm, .slice ao len cap]] w fun e w' => e = .returned (.bool ((len : Int) == 0)) ∧ Below w.heap.size w w' := by
  go_enter Tryd.func48, Tryd.ntmps48
  go_wp2
  go_ret
  exact ⟨rfl, (Below.refl _ _).alloc (Nat.le_refl _) _⟩
set_option maxRecDepth 100000 in
set_option maxHeartbeats 1000000 in
theorem has_2cn (op : Nat) (n : Int) (nm : ByteArray) (ao : Option Addr) (len cap : Nat) (w : World) (e1 : ((op : Int) == 1) = false) (e2 : ((op : Int) == 2) = true) (h0 : (n == 0) = false) (h1 : (n == 1) = true) (he : nm.toList.isEmpty = false) : Calls Tryd.prog 48 #[.agg #[.int .u8 (op : Int), .int .i64 n, .string nm, .slice ao len cap]] w fun e w' => e = .returned (.bool false) ∧ Below w.heap.size w w' := by
  go_enter Tryd.func48, Tryd.ntmps48
  go_wp2
  go_ret
  exact ⟨rfl, (Below.refl _ _).alloc (Nat.le_refl _) _⟩
set_option maxRecDepth 100000 in
set_option maxHeartbeats 1000000 in
theorem has_2ce (op : Nat) (n : Int) (nm : ByteArray) (ao : Option Addr) (len cap : Nat) (w : World) (e1 : ((op : Int) == 1) = false) (e2 : ((op : Int) == 2) = true) (h0 : (n == 0) = false) (h1 : (n == 1) = true) (he : nm.toList.isEmpty = true) : Calls Tryd.prog 48 #[.agg #[.int .u8 (op : Int), .int .i64 n, .string nm, .slice ao len cap]] w fun e w' => e = .returned (.bool ((len : Int) == 0)) ∧ Below w.heap.size w w' := by
  go_enter Tryd.func48, Tryd.ntmps48
  go_wp2
  go_ret
  exact ⟨rfl, (Below.refl _ _).alloc (Nat.le_refl _) _⟩
set_option maxRecDepth 100000 in
set_option maxHeartbeats 1000000 in
theorem has_3a (op : Nat) (n : Int) (nm : ByteArray) (ao : Option Addr) (len cap : Nat) (w : World) (e1 : ((op : Int) == 1) = false) (e2 : ((op : Int) == 2) = false) (e3 : ((op : Int) == 3) = true) (h0 : (n == 0) = false) : Calls Tryd.prog 48 #[.agg #[.int .u8 (op : Int), .int .i64 n, .string nm, .slice ao len cap]] w fun e w' => e = .returned (.bool false) ∧ Below w.heap.size w w' := by
  go_enter Tryd.func48, Tryd.ntmps48
  go_wp2
  go_ret
  exact ⟨rfl, (Below.refl _ _).alloc (Nat.le_refl _) _⟩
set_option maxRecDepth 100000 in
set_option maxHeartbeats 1000000 in
theorem has_3b (op : Nat) (n : Int) (nm : ByteArray) (ao : Option Addr) (len cap : Nat) (w : World) (e1 : ((op : Int) == 1) = false) (e2 : ((op : Int) == 2) = false) (e3 : ((op : Int) == 3) = true) (h0 : (n == 0) = true) (c : ∀ W, TabR W → Calls Tryd.prog 71 #[.string nm] W fun e w' => e = .returned (.bool false) ∧ Below W.heap.size W w') (hR : Hid (TabR w)) : Calls Tryd.prog 48 #[.agg #[.int .u8 (op : Int), .int .i64 n, .string nm, .slice ao len cap]] w fun e w' => e = .returned (.bool false) ∧ Below w.heap.size w w' := by
  go_enter Tryd.func48, Tryd.ntmps48
  go_wp2_with (go_at_call 71; refine (c _ (hR.out.below ((Below.refl _ _).alloc (Nat.le_refl _) _))).mono ?_; rintro e w2 ⟨rfl, hb2⟩)
  go_ret
  exact ⟨rfl, bstep ((Below.refl _ _).alloc (Nat.le_refl _) _) hb2⟩
set_option maxRecDepth 100000 in
set_option maxHeartbeats 1000000 in
theorem has_3c (op : Nat) (n : Int) (nm : ByteArray) (ao : Option Addr) (len cap : Nat) (w : World) (e1 : ((op : Int) == 1) = false) (e2 : ((op : Int) == 2) = false) (e3 : ((op : Int) == 3) = true) (h0 : (n == 0) = true) (c : ∀ W, TabR W → Calls Tryd.prog 71 #[.string nm] W fun e w' => e = .returned (.bool true) ∧ Below W.heap.size W w') (hR : Hid (TabR w)) : Calls Tryd.prog 48 #[.agg #[.int .u8 (op : Int), .int .i64 n, .string nm, .slice ao len cap]] w fun e w' => e = .returned (.bool ((len : Int) == 0)) ∧ Below w.heap.size w w' := by
  go_enter Tryd.func48, Tryd.ntmps48
  go_wp2_with (go_at_call 71; refine (c _ (hR.out.below ((Below.refl _ _).alloc (Nat.le_refl _) _))).mono ?_; rintro e w2 ⟨rfl, hb2⟩; have bx := fun j v (h : (w.alloc (.cells #[.int .u8 (op : Int), .int .i64 n, .string nm, .slice ao len cap] 25)).cell? ⟨w.heap.size, j, none⟩ = some v) => cell_kept h hb2; have x3 := bx 3 (.slice ao len cap) (by rw [World.cell?_alloc_at _ _ _ _ rfl]; rfl); clear bx)
  go_ret
  exact ⟨rfl, bstep ((Below.refl _ _).alloc (Nat.le_refl _) _) hb2⟩
set_option maxRecDepth 100000 in
set_option maxHeartbeats 1000000 in
theorem has_4a (op : Nat) (n : Int) (nm : ByteArray) (ao : Option Addr) (len cap : Nat) (w : World) (e1 : ((op : Int) == 1) = false) (e2 : ((op : Int) == 2) = false) (e3 : ((op : Int) == 3) = false) (p : Nat) (c : ∀ W, TabJ W → Calls Tryd.prog 72 #[.int .u8 (op : Int)] W fun e w' => e = .returned (.int .i64 (p : Int)) ∧ Below W.heap.size W w') (hJ : Hid (TabJ w)) (hp : ¬ (0 : Int) < (p : Int)) : Calls Tryd.prog 48 #[.agg #[.int .u8 (op : Int), .int .i64 n, .string nm, .slice ao len cap]] w fun e w' => e = .returned (.bool false) ∧ Below w.heap.size w w' := by
  go_enter Tryd.func48, Tryd.ntmps48
  go_wp2_with (go_at_call 72; refine (c _ (hJ.out.below ((Below.refl _ _).alloc (Nat.le_refl _) _))).mono ?_; rintro e w2 ⟨rfl, hb2⟩)
  go_ret
  exact ⟨rfl, bstep ((Below.refl _ _).alloc (Nat.le_refl _) _) hb2⟩
set_option maxRecDepth 100000 in
set_option maxHeartbeats 1000000 in
theorem has_4b (op : Nat) (n : Int) (nm : ByteArray) (ao : Option Addr) (len cap : Nat) (w : World) (e1 : ((op : Int) == 1) = false) (e2 : ((op : Int) == 2) = false) (e3 : ((op : Int) == 3) = false) (p : Nat) (c : ∀ W, TabJ W → Calls Tryd.prog 72 #[.int .u8 (op : Int)] W fun e w' => e = .returned (.int .i64 (p : Int)) ∧ Below W.heap.size W w') (hJ : Hid (TabJ w)) (hp : (0 : Int) < (p : Int)) (h0 : (n == 0) = false) : Calls Tryd.prog 48 #[.agg #[.int .u8 (op : Int), .int .i64 n, .string nm, .slice ao len cap]] w fun e w' => e = .returned (.bool false) ∧ Below w.heap.size w w' := by
  go_enter Tryd.func48, Tryd.ntmps48
  go_wp2_with (go_at_call 72; refine (c _ (hJ.out.below ((Below.refl _ _).alloc (Nat.le_refl _) _))).mono ?_; rintro e w2 ⟨rfl, hb2⟩; have bx := fun j v (h : (w.alloc (.cells #[.int .u8 (op : Int), .int .i64 n, .string nm, .slice ao len cap] 25)).cell? ⟨w.heap.size, j, none⟩ = some v) => cell_kept h hb2; have x1 := bx 1 (.int .i64 n) (by rw [World.cell?_alloc_at _ _ _ _ rfl]; rfl); have x2 := bx 2 (.string nm) (by rw [World.cell?_alloc_at _ _ _ _ rfl]; rfl); have x3 := bx 3 (.slice ao len cap) (by rw [World.cell?_alloc_at _ _ _ _ rfl]; rfl); clear bx)
  go_ret
  exact ⟨rfl, bstep ((Below.refl _ _).alloc (Nat.le_refl _) _) hb2⟩
set_option maxRecDepth 100000 in
set_option maxHeartbeats 1000000 in
theorem has_4c (op : Nat) (n : Int) (nm : ByteArray) (ao : Option Addr) (len cap : Nat) (w : World) (e1 : ((op : Int) == 1) = false) (e2 : ((op : Int) == 2) = false) (e3 : ((op : Int) == 3) = false) (p : Nat) (c : ∀ W, TabJ W → Calls Tryd.prog 72 #[.int .u8 (op : Int)] W fun e w' => e = .returned (.int .i64 (p : Int)) ∧ Below W.heap.size W w') (hJ : Hid (TabJ w)) (hp : (0 : Int) < (p : Int)) (h0 : (n == 0) = true) (he : nm.toList.isEmpty = false) : Calls Tryd.prog 48 #[.agg #[.int .u8 (op : Int), .int .i64 n, .string nm, .slice ao len cap]] w fun e w' => e = .returned (.bool false) ∧ Below w.heap.size w w' := by
  go_enter Tryd.func48, Tryd.ntmps48
  go_wp2_with (go_at_call 72; refine (c _ (hJ.out.below ((Below.refl _ _).alloc (Nat.le_refl _) _))).mono ?_; rintro e w2 ⟨rfl, hb2⟩; have bx := fun j v (h : (w.alloc (.cells #[.int .u8 (op : Int), .int .i64 n, .string nm, .slice ao len cap] 25)).cell? ⟨w.heap.size, j, none⟩ = some v) => cell_kept h hb2; have x1 := bx 1 (.int .i64 n) (by rw [World.cell?_alloc_at _ _ _ _ rfl]; rfl); have x2 := bx 2 (.string nm) (by rw [World.cell?_alloc_at _ _ _ _ rfl]; rfl); have x3 := bx 3 (.slice ao len cap) (by rw [World.cell?_alloc_at _ _ _ _ rfl]; rfl); clear bx)
  go_ret
  exact ⟨rfl, bstep ((Below.refl _ _).alloc (Nat.le_refl _) _) hb2⟩
set_option maxRecDepth 100000 in
set_option maxHeartbeats 1000000 in
theorem has_4d (op : Nat) (n : Int) (nm : ByteArray) (ao : Option Addr) (len cap : Nat) (w : World) (e1 : ((op : Int) == 1) = false) (e2 : ((op : Int) == 2) = false) (e3 : ((op : Int) == 3) = false) (p : Nat) (c : ∀ W, TabJ W → Calls Tryd.prog 72 #[.int .u8 (op : Int)] W fun e w' => e = .returned (.int .i64 (p : Int)) ∧ Below W.heap.size W w') (hJ : Hid (TabJ w)) (hp : (0 : Int) < (p : Int)) (h0 : (n == 0) = true) (he : nm.toList.isEmpty = true) : Calls Tryd.prog 48 #[.agg #[.int .u8 (op : Int), .int .i64 n, .string nm, .slice ao len cap]] w fun e w' => e = .returned (.bool ((len : Int) == (p : Int))) ∧ Below w.heap.size w w' := by
  go_enter Tryd.func48, Tryd.ntmps48
  go_wp2_with (go_at_call 72; refine (c _ (hJ.out.below ((Below.refl _ _).alloc (Nat.le_refl _) _))).mono ?_; rintro e w2 ⟨rfl, hb2⟩; have bx := fun j v (h : (w.alloc (.cells #[.int .u8 (op : Int), .int .i64 n, .string nm, .slice ao len cap] 25)).cell? ⟨w.heap.size, j, none⟩ = some v) => cell_kept h hb2; have x1 := bx 1 (.int .i64 n) (by rw [World.cell?_alloc_at _ _ _ _ rfl]; rfl); have x2 := bx 2 (.string nm) (by rw [World.cell?_alloc_at _ _ _ _ rfl]; rfl); have x3 := bx 3 (.slice ao len cap) (by rw [World.cell?_alloc_at _ _ _ _ rfl]; rfl); clear bx)
  go_ret
  exact ⟨rfl, bstep ((Below.refl _ _).alloc (Nat.le_refl _) _) hb2⟩
theorem len_eq (a b : Nat) : ((a : Int) == (b : Int)) = decide (a = b) := by
  by_cases h : a = b
  · rw [eqN h, decide_eq_true h]
  · rw [neN h, decide_eq_false h]
theorem len_zero' (a : Nat) : ((a : Int) == 0) = decide (a = 0) := len_eq a 0
/-- hasItsFields. -/
theorem hasIts (op : Nat) (n : Int) (nm : ByteArray) (ao : Option Addr) (len cap : Nat) (w : World) (hR : TabR w) (hJ : TabJ w) :
    Calls Tryd.prog 48 #[.agg #[.int .u8 (op : Int), .int .i64 n, .string nm, .slice ao len cap]] w fun e w' => e = .returned (.bool (fieldsOk op n nm len)) ∧ Below w.heap.size w w' := by
  unfold fieldsOk
  by_cases h1 : op = 1
  · rw [if_pos h1]
    have e1 := eqN (b := 1) h1
    by_cases h0 : 0 ≤ n
    · rw [decide_eq_true h0, Bool.true_and]
      by_cases hm : nm.size = 0
      · rw [decide_eq_true hm, Bool.true_and, ← len_zero']; exact has_1c op n nm ao len cap w e1 h0 (empty_yes hm)
      · rw [decide_eq_false hm, Bool.false_and]; exact has_1b op n nm ao len cap w e1 h0 (empty_no hm)
    · rw [decide_eq_false h0, Bool.false_and]; exact has_1a op n nm ao len cap w e1 h0
  · rw [if_neg h1]
    have e1 := neN (b := 1) h1
    by_cases h2 : op = 2
    · rw [if_pos h2]
      have e2 := eqN (b := 2) h2
      by_cases h0 : n = 0
      · rw [decide_eq_true h0, Bool.true_or, Bool.true_and]
        by_cases hm : nm.size = 0
        · rw [decide_eq_true hm, Bool.true_and, ← len_zero']; exact has_2be op n nm ao len cap w e1 e2 (ieq h0) (empty_yes hm)
        · rw [decide_eq_false hm, Bool.false_and]; exact has_2bn op n nm ao len cap w e1 e2 (ieq h0) (empty_no hm)
      · rw [decide_eq_false h0, Bool.false_or]
        by_cases h01 : n = 1
        · rw [decide_eq_true h01, Bool.true_and]
          by_cases hm : nm.size = 0
          · rw [decide_eq_true hm, Bool.true_and, ← len_zero']; exact has_2ce op n nm ao len cap w e1 e2 (ine h0) (ieq h01) (empty_yes hm)
          · rw [decide_eq_false hm, Bool.false_and]; exact has_2cn op n nm ao len cap w e1 e2 (ine h0) (ieq h01) (empty_no hm)
        · rw [decide_eq_false h01, Bool.false_and]; exact has_2a op n nm ao len cap w e1 e2 (ine h0) (ine h01)
    · rw [if_neg h2]
      have e2 := neN (b := 2) h2
      by_cases h3 : op = 3
      · rw [if_pos h3]
        have e3 := eqN (b := 3) h3
        by_cases h0 : n = 0
        · rw [decide_eq_true h0, Bool.true_and]
          have c := fun W hT => name nm W hT
          cases hb : isName nm
          · rw [hb] at c; rw [Bool.false_and]; exact has_3b op n nm ao len cap w e1 e2 e3 (ieq h0) c hR
          · rw [hb] at c; rw [Bool.true_and, ← len_zero']; exact has_3c op n nm ao len cap w e1 e2 e3 (ieq h0) c hR
        · rw [decide_eq_false h0, Bool.false_and]; exact has_3a op n nm ao len cap w e1 e2 e3 (ine h0)
      · rw [if_neg h3]
        have e3 := neN (b := 3) h3
        have c := fun W hT => partsOf op W hT
        generalize parts op = p at c
        by_cases hp : 0 < p
        · have hp' : (0 : Int) < (p : Int) := by omega
          rw [decide_eq_true hp, Bool.true_and]
          by_cases h0 : n = 0
          · rw [decide_eq_true h0, Bool.true_and]
            by_cases hm : nm.size = 0
            · rw [decide_eq_true hm, Bool.true_and, ← len_eq]; exact has_4d op n nm ao len cap w e1 e2 e3 p c hJ hp' (ieq h0) (empty_yes hm)
            · rw [decide_eq_false hm, Bool.false_and]; exact has_4c op n nm ao len cap w e1 e2 e3 p c hJ hp' (ieq h0) (empty_no hm)
          · rw [decide_eq_false h0, Bool.false_and]; exact has_4b op n nm ao len cap w e1 e2 e3 p c hJ hp' (ine h0)
        · rw [decide_eq_false hp, Bool.false_and]; exact has_4a op n nm ao len cap w e1 e2 e3 p c hJ (by omega)
end Go.Proofs.YtkieljleopbhoaaDoor.Lex
namespace Go.Proofs.YtkieljleopbhoaaDoor.Lex
open Go.ChangeShapes Go.WideShapes Go.ChangeAt Go.RowKit Go.Joins
/-- How great parts are behind so many, where at most so many may be. -/
def szL (f : Nat → Ex → Option Nat) (most : Nat) : Nat → List Ex → Option Nat
  | n, [] => some n
  | n, a :: l => match f (most - n) a with
    | none => none
    | some k => szL f most (n + k) l
/-- How great it is, if it may be, so deep and so great at most. -/
def sz : Nat → Nat → Ex → Option Nat
  | 0, _, _ => none
  | d + 1, most, x => if most = 0 ∨ fieldsOk x.op x.n x.name x.args.length = false then none else szL (sz d) most 1 x.args
theorem szL_le {f : Nat → Ex → Option Nat} (hf : ∀ m a k, f m a = some k → 1 ≤ k ∧ k ≤ m) (most : Nat) : ∀ (l : List Ex) (n r : Nat), n ≤ most → szL f most n l = some r → n ≤ r ∧ r ≤ most
  | [], n, r, hn, h => by simp only [szL, Option.some.injEq] at h; omega
  | a :: l, n, r, hn, h => by
    simp only [szL] at h
    cases e : f (most - n) a with
    | none => rw [e] at h; cases h
    | some k =>
      rw [e] at h
      have := hf _ _ _ e
      have := szL_le hf most l (n + k) r (by omega) h
      omega
theorem sz_le : ∀ (d most : Nat) (x : Ex) (k : Nat), sz d most x = some k → 1 ≤ k ∧ k ≤ most
  | 0, most, x, k, h => by simp [sz] at h
  | d + 1, most, x, k, h => by
    rw [sz] at h
    split at h
    · cases h
    · next hn => exact szL_le (fun m a k => sz_le d m a k) most x.args 1 k (by omega) h
/-- May it be? -/
def chk (x : Ex) : Bool := (sz 32 200 x).isSome
theorem set_same {w : World} {b : Nat} {c : Array Value} {t : TypeId} {f : Nat × Nat} (h : w.heap[b]? = some (.cells c t f)) (i : Nat) (u : Value) :
    (w.setCell ⟨b, i, none⟩ u).heap[b]? = some (.cells (c.setIfInBounds i u) t f) := by
  obtain ⟨hlt, hk⟩ := Array.getElem?_eq_some_iff.1 h
  show (w.heap.modify b _)[b]? = _
  rw [Array.getElem?_eq_getElem (by rw [Array.size_modify]; exact hlt), Array.getElem_modify_self, hk]
  rfl
/-- A count in a cell of its own, beyond all that came in. -/
structure Lf (w0 w : World) (b : Nat) (M : Int) (W : World) : Prop where
  base : Below w0.heap.size w0 W
  below : Below b w W
  cell : W.heap[b]? = some (.cells #[.int .i64 M] 3 (0, 0))
theorem Lf.step {w0 w W W' : World} {b : Nat} {M : Int} (h : Lf w0 w b M W) (hb : Below W.heap.size W W') : Lf w0 w b M W' :=
  have hlt := (Array.getElem?_eq_some_iff.1 h.cell).1
  ⟨bstep h.base hb, h.below.trans (hb.mono (by omega)), (hb.block b hlt).trans h.cell⟩
theorem Lf.set {w0 w W : World} {b : Nat} {M : Int} (h : Lf w0 w b M W) (hb : w0.heap.size ≤ b) (M' : Int) : Lf w0 w b M' (W.setCell ⟨b, 0, none⟩ (.int .i64 M')) :=
  ⟨h.base.setCell (p := ⟨b, 0, none⟩) hb _, h.below.setCell (p := ⟨b, 0, none⟩) (Nat.le_refl _) _, set_same h.cell 0 _⟩
theorem Lf.at {w0 w W : World} {b : Nat} {M : Int} (h : Lf w0 w b M W) : W.cell? ⟨b, 0, none⟩ = some (.int .i64 M) ∧ W.frozen? ⟨b, 0, none⟩ = false :=
  ⟨by rw [cell_of_row _ _ _ _ 3 (0, 0) h.cell]; rfl, frozen_of_row _ _ _ _ _ h.cell⟩
/-- What fits answers. -/
def FitC (d : Nat) : Prop := ∀ (x : Ex) (w0 w : World) (s : Value) (b L : Nat), L ≤ 200 → St w0 x s → Below w0.heap.size w0 w → w0.heap.size ≤ b → w.heap[b]? = some (.cells #[.int .i64 (L : Int)] 3 (0, 0)) → TabR w0 → TabJ w0 →
  Calls Tryd.prog 27 #[exV x s, .int .i64 (d : Int), .pointer (some ⟨b, 0, none⟩)] w fun e w' => e = .returned (.bool (sz d L x).isSome) ∧ Below b w w' ∧ ∀ k, sz d L x = some k → Lf w0 w b ((L : Int) - (k : Int)) w'
/-- The cells of a value in a box. -/
theorem box_at (w : World) (c : Array Value) (t : TypeId) (j : Nat) (v : Value) (h : c[j]? = some v) : (w.alloc (.cells c t)).cell? ⟨w.heap.size, j, none⟩ = some v := by
  rw [World.cell?_alloc_at _ _ _ _ rfl]; exact h
set_option maxRecDepth 100000 in
set_option maxHeartbeats 1000000 in
theorem fits_zero : FitC 0 := by
  intro x w0 w s b L hL hS hB hb hc hR hJ
  obtain ⟨ao, cap, sl, rfl, _⟩ := hS.out
  have hsz : sz 0 L x = none := by simp [sz]
  have l0 : Lf w0 w b (L : Int) (w.alloc (.cells #[.int .u8 (x.op : Int), .int .i64 x.n, .string x.name, .slice ao x.args.length cap] 25)) := Lf.step ⟨hB, Below.refl _ _, hc⟩ ((Below.refl _ _).alloc (Nat.le_refl _) _)
  have l1 := l0.set hb ((L : Int) - 1)
  obtain ⟨y0, y1⟩ := l0.at
  rw [hsz]
  have H1 := hid l1.below
  clear l0 l1 hc hsz hS hR hJ hB
  go_enter Tryd.func27, Tryd.ntmps27
  go_wp2
  go_ret
  exact ⟨rfl, H1.out, fun k h => by cases h⟩
set_option maxRecDepth 100000 in
set_option maxHeartbeats 1000000 in
theorem fits_none (d : Nat) (hd : d + 1 ≤ 32) : ∀ (x : Ex) (w0 w : World) (s : Value) (b : Nat), St w0 x s → Below w0.heap.size w0 w → w0.heap.size ≤ b → w.heap[b]? = some (.cells #[.int .i64 ((0 : Nat) : Int)] 3 (0, 0)) →
    Calls Tryd.prog 27 #[exV x s, .int .i64 ((d + 1 : Nat) : Int), .pointer (some ⟨b, 0, none⟩)] w fun e w' => e = .returned (.bool false) ∧ Below b w w' := by
  intro x w0 w s b hS hB hb hc
  obtain ⟨ao, cap, sl, rfl, _⟩ := hS.out
  have l0 : Lf w0 w b ((0 : Nat) : Int) (w.alloc (.cells #[.int .u8 (x.op : Int), .int .i64 x.n, .string x.name, .slice ao x.args.length cap] 25)) := Lf.step ⟨hB, Below.refl _ _, hc⟩ ((Below.refl _ _).alloc (Nat.le_refl _) _)
  have l1 := l0.set hb (-1)
  obtain ⟨y0, y1⟩ := l0.at
  obtain ⟨y2, _⟩ := l1.at
  have H1 := hid l1.below
  have hd0 : (((d + 1 : Nat) : Int) == 0) = false := by simp; omega
  generalize hD : ((d + 1 : Nat) : Int) = D at *
  clear l0 l1 hc hS hB hD
  go_enter Tryd.func27, Tryd.ntmps27
  go_wp2
  go_ret
  exact ⟨rfl, H1.out⟩
set_option maxRecDepth 100000 in
set_option maxHeartbeats 1000000 in
theorem fits_bad (d : Nat) (hd : d + 1 ≤ 32) : ∀ (x : Ex) (w0 w : World) (s : Value) (b L : Nat), 1 ≤ L → L ≤ 200 → St w0 x s → Below w0.heap.size w0 w → w0.heap.size ≤ b → w.heap[b]? = some (.cells #[.int .i64 (L : Int)] 3 (0, 0)) → TabR w0 → TabJ w0 → fieldsOk x.op x.n x.name x.args.length = false →
    Calls Tryd.prog 27 #[exV x s, .int .i64 ((d + 1 : Nat) : Int), .pointer (some ⟨b, 0, none⟩)] w fun e w' => e = .returned (.bool false) ∧ Below b w w' := by
  intro x w0 w s b L h1 hL hS hB hb hc hR hJ hf
  obtain ⟨ao, cap, sl, rfl, _⟩ := hS.out
  have l0 : Lf w0 w b (L : Int) (w.alloc (.cells #[.int .u8 (x.op : Int), .int .i64 x.n, .string x.name, .slice ao x.args.length cap] 25)) := Lf.step ⟨hB, Below.refl _ _, hc⟩ ((Below.refl _ _).alloc (Nat.le_refl _) _)
  have l1 := l0.set hb ((L : Int) - 1)
  obtain ⟨y0, y1⟩ := l0.at
  obtain ⟨y2, _⟩ := l1.at
  have c := hasIts x.op x.n x.name ao x.args.length cap _ (hR.below l1.base) (hJ.below l1.base)
  rw [hf] at c
  have H1 := hid l1
  have hd0 : (((d + 1 : Nat) : Int) == 0) = false := by simp; omega
  have hL1 : ¬ (L : Int) - 1 < 0 := by omega
  have hne : w.heap.size ≠ b := by have := (Array.getElem?_eq_some_iff.1 hc).1; omega
  have xb : ∀ j v, (#[.int .u8 (x.op : Int), .int .i64 x.n, .string x.name, .slice ao x.args.length cap] : Array Value)[j]? = some v → ((w.alloc (.cells #[.int .u8 (x.op : Int), .int .i64 x.n, .string x.name, .slice ao x.args.length cap] 25)).setCell ⟨b, 0, none⟩ (.int .i64 ((L : Int) - 1))).cell? ⟨w.heap.size, j, none⟩ = some v := fun j v h => by
    rw [World.cell?_of_block (w := w.alloc (.cells #[.int .u8 (x.op : Int), .int .i64 x.n, .string x.name, .slice ao x.args.length cap] 25)) (Below.heap_setCell _ _ _ _ hne)]
    exact box_at w _ 25 j v h
  have x0 := xb 0 _ rfl
  have x1 := xb 1 _ rfl
  have x2 := xb 2 _ rfl
  have x3 := xb 3 _ rfl
  generalize hW : (w.alloc (.cells #[.int .u8 (x.op : Int), .int .i64 x.n, .string x.name, .slice ao x.args.length cap] 25)).setCell ⟨b, 0, none⟩ (.int .i64 ((L : Int) - 1)) = W1 at *
  generalize hD : ((d + 1 : Nat) : Int) = D at *
  clear l0 l1 hc hS hB hR hJ hD hf xb hne
  go_enter Tryd.func27, Tryd.ntmps27
  go_wp2_with (go_at_call 48; refine c.mono ?_; rintro e w3 ⟨rfl, hb3⟩)
  go_ret
  exact ⟨rfl, (H1.out.step hb3).below⟩
set_option maxRecDepth 100000 in
set_option maxHeartbeats 2000000 in
theorem fits_ok (d : Nat) (hd : d + 1 ≤ 32) (ih : FitC d) : ∀ (x : Ex) (w0 w : World) (s : Value) (b L : Nat), 1 ≤ L → L ≤ 200 → St w0 x s → Below w0.heap.size w0 w → w0.heap.size ≤ b → w.heap[b]? = some (.cells #[.int .i64 (L : Int)] 3 (0, 0)) → TabR w0 → TabJ w0 → fieldsOk x.op x.n x.name x.args.length = true →
    Calls Tryd.prog 27 #[exV x s, .int .i64 ((d + 1 : Nat) : Int), .pointer (some ⟨b, 0, none⟩)] w fun e w' => e = .returned (.bool (szL (sz d) L 1 x.args).isSome) ∧ Below b w w' ∧ ∀ k, szL (sz d) L 1 x.args = some k → Lf w0 w b ((L : Int) - (k : Int)) w' := by
  intro x w0 w s b L h1 hL hS hB hb hc hR hJ hf
  obtain ⟨ao, cap, sl, rfl, _, _, _, hlen, _, hcs, hss⟩ := hS.out
  have l0 : Lf w0 w b (L : Int) (w.alloc (.cells #[.int .u8 (x.op : Int), .int .i64 x.n, .string x.name, .slice ao x.args.length cap] 25)) := Lf.step ⟨hB, Below.refl _ _, hc⟩ ((Below.refl _ _).alloc (Nat.le_refl _) _)
  have l1 := l0.set hb ((L : Int) - 1)
  obtain ⟨y0, y1⟩ := l0.at
  obtain ⟨y2, _⟩ := l1.at
  have c := hasIts x.op x.n x.name ao x.args.length cap _ (hR.below l1.base) (hJ.below l1.base)
  rw [hf] at c
  have H1 := hid l1
  have hd0 : (((d + 1 : Nat) : Int) == 0) = false := by simp; omega
  have hD1 : ((d + 1 : Nat) : Int) - 1 = (d : Int) := by omega
  have hD2 : ((d + 1 : Nat) : Int) ≤ 32 ∧ 0 ≤ ((d + 1 : Nat) : Int) := by omega
  have hL1 : ¬ (L : Int) - 1 < 0 := by omega
  have hne : w.heap.size ≠ b := by have := (Array.getElem?_eq_some_iff.1 hc).1; omega
  have xb : ∀ j v, (#[.int .u8 (x.op : Int), .int .i64 x.n, .string x.name, .slice ao x.args.length cap] : Array Value)[j]? = some v → ((w.alloc (.cells #[.int .u8 (x.op : Int), .int .i64 x.n, .string x.name, .slice ao x.args.length cap] 25)).setCell ⟨b, 0, none⟩ (.int .i64 ((L : Int) - 1))).cell? ⟨w.heap.size, j, none⟩ = some v := fun j v h => by
    rw [World.cell?_of_block (w := w.alloc (.cells #[.int .u8 (x.op : Int), .int .i64 x.n, .string x.name, .slice ao x.args.length cap] 25)) (Below.heap_setCell _ _ _ _ hne)]
    exact box_at w _ 25 j v h
  have x0 := xb 0 _ rfl
  have x1 := xb 1 _ rfl
  have x2 := xb 2 _ rfl
  have x3 := xb 3 _ rfl
  generalize hW : (w.alloc (.cells #[.int .u8 (x.op : Int), .int .i64 x.n, .string x.name, .slice ao x.args.length cap] 25)).setCell ⟨b, 0, none⟩ (.int .i64 ((L : Int) - 1)) = W1 at *
  generalize hD : ((d + 1 : Nat) : Int) = D at *
  have HS := hid hss
  have HC := hid hcs
  have HI := hid ih
  have HR := hid hR
  have HJ := hid hJ
  obtain ⟨hD3, hD4⟩ := hD2
  clear l0 l1 hc hS hB hR hJ hD hf xb hne hss hcs ih
  go_enter Tryd.func27, Tryd.ntmps27
  go_wp2_with (go_at_call 48; refine c.mono ?_; rintro e w3 ⟨rfl, hb3⟩; have z3 := cell_kept x3 hb3; have L3 := hid (H1.out.step hb3); clear hb3 c x0 x1 x2 x3 y0 y1 y2)
  go_loopw [30] (fun i wr => ∃ k n : Nat, k ≤ x.args.length ∧ 1 ≤ n ∧ n ≤ L ∧ i = .int .i64 (k : Int) ∧ Hid (szL (sz d) L 1 x.args = szL (sz d) L n (x.args.drop k)) ∧ Hid (Lf w0 w b ((L : Int) - (n : Int)) wr)) (fun i _ => x.args.length - (intOf i).toNat)
  case atStart => exact ⟨0, 1, Nat.zero_le _, Nat.le_refl _, h1, rfl, by simp [Hid], L3⟩
  case round =>
    obtain ⟨k, n, hk, hn1, hnL, rfl, hE, hB⟩ := hrel
    by_cases hlt : k < x.args.length
    · have hlt' : (k : Int) < (x.args.length : Int) := by omega
      have hk0 : (0 : Int) ≤ (k : Int) := by omega
      obtain ⟨bb, o, rfl, hcc⟩ := HC.out.resolve_left (by omega)
      obtain ⟨a0, a1, a2, a3⟩ := hcc k hlt
      have v0 := cell_kept a0 hB.out.base
      have v1 := cell_kept a1 hB.out.base
      have v2 := cell_kept a2 hB.out.base
      have v3 := cell_kept a3 hB.out.base
      have hdr : x.args.drop k = x.args[k] :: x.args.drop (k + 1) := List.drop_eq_getElem_cons hlt
      have hE' := hE.out
      rw [hdr, szL] at hE'
      have HE := hid hE'
      have hst := HS.out k hlt
      clear a0 a1 a2 a3 hcc hdr hE' hE
      generalize x.args[k] = y at *
      obtain ⟨sv, hsv⟩ : ∃ sv, sl k = sv := ⟨_, rfl⟩
      rw [hsv] at v3 hst
      obtain ⟨ak, ck, _, rfl, _⟩ := hst.out
      clear hsv
      have lA : Lf w0 w b ((L : Int) - (n : Int)) (wr.alloc (.cells #[.int .u8 (y.op : Int), .int .i64 y.n, .string y.name, .slice ak y.args.length ck] 25)) := hB.out.step ((Below.refl _ _).alloc (Nat.le_refl _) _)
      have hlL : ((L - n : Nat) : Int) = (L : Int) - (n : Int) := by omega
      have cc := HI.out y w0 _ _ b (L - n) (by omega) hst lA.base hb (by rw [hlL]; exact lA.cell) HR.out HJ.out
      have LA := hid lA
      clear lA hst
      cases hz : sz d (L - n) y with
      | none =>
        rw [hz] at cc HE
        have hnone : Hid (szL (sz d) L 1 x.args = none) := HE.out
        go_wp2_with (go_at_call 27; refine cc.mono ?_; rintro e w4 ⟨rfl, hb4, _⟩)
        go_ret
        exact ⟨by rw [hnone.out]; rfl, LA.out.below.trans hb4, fun k h => by rw [hnone.out] at h; cases h⟩
      | some m =>
        rw [hz] at cc HE
        have hm := sz_le _ _ _ _ hz
        have HM : Hid ((((L - n : Nat) : Int) - (m : Int)) = (L : Int) - ((n + m : Nat) : Int)) := by unfold Hid; omega
        go_wp2_with (go_at_call 27; refine cc.mono ?_; rintro e w4 ⟨rfl, hb4, hl4⟩; have L4 := hid (hl4 m rfl); clear hl4)
        go_roundw
        case rel =>
          have l4 := L4.out
          rw [HM.out] at l4
          exact ⟨k + 1, n + m, by omega, by omega, by omega, by go_num, HE.out, ⟨l4.base, LA.out.below.trans l4.below, l4.cell⟩⟩
        case measure => simp [intOf]; omega
    · have hlt' : ¬ (k : Int) < (x.args.length : Int) := by omega
      have hdr : x.args.drop k = [] := List.drop_eq_nil_of_le (by omega)
      have hE' := hE.out
      rw [hdr, szL] at hE'
      have HE := hid hE'
      clear hE' hdr hE
      go_wp2
      go_ret
      exact ⟨by rw [HE.out]; rfl, hB.out.below, fun j h => by rw [HE.out] at h; injection h with h; subst h; exact hB.out⟩
/-- fits. -/
theorem fits_any : ∀ (d : Nat), d ≤ 32 → FitC d
  | 0, _ => fits_zero
  | d + 1, hd => by
    intro x w0 w s b L hL hS hB hb hc hR hJ
    have ih := fits_any d (by omega)
    by_cases h0 : L = 0
    · subst h0
      have e : sz (d + 1) 0 x = none := by rw [sz, if_pos (.inl rfl)]
      rw [e]
      exact (fits_none d hd x w0 w s b hS hB hb hc).mono fun e w' ⟨h1, h2⟩ => ⟨h1, h2, fun k h => by cases h⟩
    · cases hf : fieldsOk x.op x.n x.name x.args.length with
      | false =>
        have e : sz (d + 1) L x = none := by rw [sz, if_pos (.inr hf)]
        rw [e]
        exact (fits_bad d hd x w0 w s b L (by omega) hL hS hB hb hc hR hJ hf).mono fun e w' ⟨h1, h2⟩ => ⟨h1, h2, fun k h => by cases h⟩
      | true =>
        have e : sz (d + 1) L x = szL (sz d) L 1 x.args := by rw [sz, if_neg (by rw [hf]; simp [h0])]
        rw [e]
        exact fits_ok d hd ih x w0 w s b L (by omega) hL hS hB hb hc hR hJ hf
set_option maxRecDepth 100000 in
/-- Check. -/
theorem check (x : Ex) (w : World) (s : Value) (hS : St w x s) (hR : TabR w) (hJ : TabJ w) : Calls Tryd.prog 11 #[exV x s] w fun e w' => e = .returned (.bool (chk x)) ∧ Below w.heap.size w w' := by
  obtain ⟨ao, cap, sl, rfl, _⟩ := hS.out
  have b1 := (Below.refl w.heap.size w).alloc (Nat.le_refl _) (.cells #[.int .u8 (x.op : Int), .int .i64 x.n, .string x.name, .slice ao x.args.length cap] 25)
  have b2 := bstep b1 ((Below.refl _ _).alloc (Nat.le_refl _) (.cells #[.int .i64 200] 3))
  have c := fits_any 32 (Nat.le_refl _) x w _ _ (w.heap.size + 1) 200 (Nat.le_refl _) hS b2 (by omega) (by
    have h := heap_alloc_new (w.alloc (.cells #[.int .u8 (x.op : Int), .int .i64 x.n, .string x.name, .slice ao x.args.length cap] 25)) (.cells #[.int .i64 200] 3)
    have e : (w.alloc (.cells #[.int .u8 (x.op : Int), .int .i64 x.n, .string x.name, .slice ao x.args.length cap] 25)).heap.size = w.heap.size + 1 := by simp
    rw [e] at h
    exact h) hR hJ
  have H2 := hid b2
  clear hS hR hJ b1 b2
  go_enter Tryd.func11, Tryd.ntmps11
  go_wp2_with (go_at_call 27; refine c.mono ?_; rintro e w3 ⟨rfl, hb3, _⟩)
  go_ret
  exact ⟨rfl, H2.out.trans (hb3.mono (by omega))⟩
end Go.Proofs.YtkieljleopbhoaaDoor.Lex
namespace Go.Proofs.YtkieljleopbhoaaDoor.Lex
open Go.RowKit
/-- The rank of an operator. -/
def rkOf (op : Nat) : Nat := match jOf op with
  | some r => r.rank
  | none => if op = 17 then 0 else if op = 4 ∨ op = 5 ∨ op = 19 then 6 else 7
/-- In a place that asks for a rank. -/
def put (least rank : Nat) (s : List UInt8) : List UInt8 := if rank < least then 40 :: (s ++ [41]) else s
/-- Behind a minus. -/
def negW (s : List UInt8) : List UInt8 := if Lib.hasPrefix s [45] then 45 :: 32 :: s else 45 :: s
def yesNo (b : Bool) : List UInt8 := if b then [116, 114, 117, 101] else [102, 97, 108, 115, 101]
/-- As it is written. -/
def wr : Ex → List UInt8
  | .mk op n nm [] => if op = 1 then Lib.itoa n else if op = 2 then yesNo (n == 1) else nm.data.toList
  | .mk op _ _ [a] => if op = 4 then negW (put 6 (rkOf a.op) (wr a)) else if op = 5 then [110, 111, 116, 32] ++ put 6 (rkOf a.op) (wr a) else [112, 114, 101, 32] ++ put 6 (rkOf a.op) (wr a)
  | .mk op _ _ [a, b] => put ((jOf op).getD j0).first (rkOf a.op) (wr a) ++ [32] ++ ((jOf op).getD j0).text.data.toList ++ [32] ++ put ((jOf op).getD j0).second (rkOf b.op) (wr b)
  | .mk _ _ _ [a, b, c] => [105, 102, 32] ++ put 0 (rkOf a.op) (wr a) ++ [32, 116, 104, 101, 110, 32] ++ put 0 (rkOf b.op) (wr b) ++ [32, 101, 108, 115, 101, 32] ++ put 0 (rkOf c.op) (wr c)
  | .mk _ _ _ _ => []
theorem wr_leaf {x : Ex} (h : x.args = []) : wr x = if x.op = 1 then Lib.itoa x.n else if x.op = 2 then yesNo (x.n == 1) else x.name.data.toList := by
  obtain ⟨o, n, s, l⟩ := x; cases h; rw [wr]
theorem wr_one {x a : Ex} (h : x.args = [a]) : wr x = if x.op = 4 then negW (put 6 (rkOf a.op) (wr a)) else if x.op = 5 then [110, 111, 116, 32] ++ put 6 (rkOf a.op) (wr a) else [112, 114, 101, 32] ++ put 6 (rkOf a.op) (wr a) := by
  obtain ⟨o, n, s, l⟩ := x; cases h; rw [wr]
theorem wr_two {x a b : Ex} (h : x.args = [a, b]) : wr x = put ((jOf x.op).getD j0).first (rkOf a.op) (wr a) ++ [32] ++ ((jOf x.op).getD j0).text.data.toList ++ [32] ++ put ((jOf x.op).getD j0).second (rkOf b.op) (wr b) := by
  obtain ⟨o, n, s, l⟩ := x; cases h; rw [wr]
theorem wr_three {x a b c : Ex} (h : x.args = [a, b, c]) : wr x = [105, 102, 32] ++ put 0 (rkOf a.op) (wr a) ++ [32, 116, 104, 101, 110, 32] ++ put 0 (rkOf b.op) (wr b) ++ [32, 101, 108, 115, 101, 32] ++ put 0 (rkOf c.op) (wr c) := by
  obtain ⟨o, n, s, l⟩ := x; cases h; rw [wr]
theorem sz_parts {d M k : Nat} {x : Ex} (h : sz (d + 1) M x = some k) : 1 ≤ M ∧ fieldsOk x.op x.n x.name x.args.length = true ∧ szL (sz d) M 1 x.args = some k := by
  rw [sz] at h
  split at h
  · cases h
  · next hn => exact ⟨by omega, by cases e : fieldsOk x.op x.n x.name x.args.length with | true => rfl | false => exact (hn (.inr e)).elim, h⟩
theorem szL_nil {f : Nat → Ex → Option Nat} {M n k : Nat} (h : szL f M n [] = some k) : k = n := by simp only [szL, Option.some.injEq] at h; exact h.symm
theorem szL_cons {f : Nat → Ex → Option Nat} {M n k : Nat} {a : Ex} {l : List Ex} (h : szL f M n (a :: l) = some k) : ∃ ka, f (M - n) a = some ka ∧ szL f M (n + ka) l = some k := by
  simp only [szL] at h
  cases e : f (M - n) a with
  | none => rw [e] at h; cases h
  | some ka => rw [e] at h; exact ⟨ka, rfl, h⟩
/-- What it is, if its fields are fine. -/
theorem fields_cases {op : Nat} {n : Int} {nm : ByteArray} {len : Nat} (h : fieldsOk op n nm len = true) :
    (op = 1 ∧ 0 ≤ n ∧ len = 0) ∨ (op = 2 ∧ (n = 0 ∨ n = 1) ∧ len = 0) ∨ (op = 3 ∧ isName nm = true ∧ len = 0) ∨ ((op = 4 ∨ op = 5 ∨ op = 19) ∧ len = 1) ∨ (op = 17 ∧ len = 3) ∨ ((∃ r, jOf op = some r) ∧ len = 2) := by
  unfold fieldsOk at h
  by_cases h1 : op = 1
  · rw [if_pos h1] at h; simp only [Bool.and_eq_true, decide_eq_true_eq] at h; exact .inl ⟨h1, h.1, h.2.2⟩
  · rw [if_neg h1] at h
    by_cases h2 : op = 2
    · rw [if_pos h2] at h; simp only [Bool.and_eq_true, Bool.or_eq_true, decide_eq_true_eq] at h; exact .inr (.inl ⟨h2, h.1, h.2.2⟩)
    · rw [if_neg h2] at h
      by_cases h3 : op = 3
      · rw [if_pos h3] at h; simp only [Bool.and_eq_true, decide_eq_true_eq] at h; exact .inr (.inr (.inl ⟨h3, h.2.1, h.2.2⟩))
      · rw [if_neg h3] at h
        simp only [Bool.and_eq_true, decide_eq_true_eq] at h
        obtain ⟨hp, _, _, hl⟩ := h
        unfold parts at hp hl
        by_cases h4 : op = 4 ∨ op = 5 ∨ op = 19
        · rw [if_pos h4] at hl; exact .inr (.inr (.inr (.inl ⟨h4, hl⟩)))
        · rw [if_neg h4] at hl hp
          by_cases h5 : op = 17
          · rw [if_pos h5] at hl; exact .inr (.inr (.inr (.inr (.inl ⟨h5, hl⟩))))
          · rw [if_neg h5] at hl hp
            cases hj : jOf op with
            | none => rw [hj] at hp; simp at hp
            | some r => rw [hj] at hl; exact .inr (.inr (.inr (.inr (.inr ⟨⟨r, rfl⟩, hl⟩))))
theorem len0 {l : List Ex} (h : l.length = 0) : l = [] := List.eq_nil_of_length_eq_zero h
theorem len1 {l : List Ex} (h : l.length = 1) : ∃ a, l = [a] := by match l, h with | [a], _ => exact ⟨a, rfl⟩
theorem len2 {l : List Ex} (h : l.length = 2) : ∃ a b, l = [a, b] := by match l, h with | [a, b], _ => exact ⟨a, b, rfl⟩
theorem len3 {l : List Ex} (h : l.length = 3) : ∃ a b c, l = [a, b, c] := by match l, h with | [a, b, c], _ => exact ⟨a, b, c, rfl⟩
theorem put_len (a b : Nat) (s : List UInt8) : (put a b s).length ≤ s.length + 2 := by unfold put; split <;> simp
theorem neg_len (s : List UInt8) : (negW s).length ≤ s.length + 2 := by unfold negW; split <;> simp
theorem yes_len (b : Bool) : (yesNo b).length ≤ 5 := by cases b <;> decide
theorem dec_len : ∀ (k u : Nat), u < 10 ^ (k + 1) → (Lib.decDigits u).length ≤ k + 1
  | 0, u, h => by rw [Lib.decDigits, dif_pos (by omega)]; simp
  | k + 1, u, h => by
    rw [Lib.decDigits]
    split
    · simp
    · have := dec_len k (u / 10) (by rw [Nat.div_lt_iff_lt_mul (by omega)]; rw [Nat.pow_succ] at h; exact h)
      simp; omega
theorem itoa_len {n : Int} (h0 : 0 ≤ n) (h1 : n ≤ 9223372036854775807) : (Lib.itoa n).length ≤ 19 := by
  unfold Lib.itoa
  rw [if_neg (by omega)]
  exact dec_len 18 n.toNat (by have : (10 : Nat) ^ (18 + 1) = 10000000000000000000 := by decide
                               omega)
theorem j_len {op : Nat} {r : J} (h : jOf op = some r) : r.text.data.toList.length ≤ 3 ∧ r.first ≤ 7 ∧ r.second ≤ 7 ∧ r.text.size ≤ 3 := by
  have : ∀ r ∈ JT, r.text.data.toList.length ≤ 3 ∧ r.first ≤ 7 ∧ r.second ≤ 7 ∧ r.text.size ≤ 3 := by decide
  exact this r (List.mem_of_find?_eq_some h)
theorem name_len {s : ByteArray} (h : isName s = true) : s.size ≤ 40 := by
  unfold isName at h
  simp only [Bool.and_eq_true, decide_eq_true_eq] at h
  exact h.2.1
theorem St.part {w : World} {x : Ex} {s : Value} (h : St w x s) (i : Nat) (hi : i < x.args.length) : ∃ t, St w x.args[i] t := by
  obtain ⟨_, _, sl, _, _, _, _, _, _, _, hs⟩ := h.out
  exact ⟨_, hs i hi⟩
theorem St.arg0 {w : World} {x a : Ex} {s : Value} {l : List Ex} (h : St w x s) (he : x.args = a :: l) : ∃ t, St w a t := by
  obtain ⟨t, ht⟩ := h.part 0 (by rw [he]; simp)
  exact ⟨t, by simpa [he] using ht⟩
theorem St.arg1 {w : World} {x a b : Ex} {s : Value} {l : List Ex} (h : St w x s) (he : x.args = a :: b :: l) : ∃ t, St w b t := by
  obtain ⟨t, ht⟩ := h.part 1 (by rw [he]; simp)
  exact ⟨t, by simpa [he] using ht⟩
theorem St.arg2 {w : World} {x a b c : Ex} {s : Value} {l : List Ex} (h : St w x s) (he : x.args = a :: b :: c :: l) : ∃ t, St w c t := by
  obtain ⟨t, ht⟩ := h.part 2 (by rw [he]; simp)
  exact ⟨t, by simpa [he] using ht⟩
/-- How long it is. -/
theorem wr_len : ∀ (d M : Nat) (x : Ex) (k : Nat) (w : World) (s : Value), sz d M x = some k → St w x s → (wr x).length + 2 ≤ 64 * k
  | 0, M, x, k, w, s, h, _ => by simp [sz] at h
  | d + 1, M, x, k, w, s, h, hS => by
    obtain ⟨hM, hf, hl⟩ := sz_parts h
    obtain ⟨_, _, _, _, _, hn, _⟩ := hS.out
    rcases fields_cases hf with ⟨h1, h2, h3⟩ | ⟨h1, h2, h3⟩ | ⟨h1, h2, h3⟩ | ⟨h1, h3⟩ | ⟨h1, h3⟩ | ⟨⟨r, hr⟩, h3⟩
    · have e := len0 h3
      rw [e] at hl
      have := szL_nil hl
      have := itoa_len h2 hn.2
      rw [wr_leaf e, if_pos h1]; omega
    · have e := len0 h3
      rw [e] at hl
      have := szL_nil hl
      have := yes_len (x.n == 1)
      rw [wr_leaf e, if_neg (by omega), if_pos h1]; omega
    · have e := len0 h3
      rw [e] at hl
      have := szL_nil hl
      have := name_len h2
      rw [wr_leaf e, if_neg (by omega), if_neg (by omega), ← Lib.size_eq]; omega
    · obtain ⟨a, e⟩ := len1 h3
      rw [e] at hl
      obtain ⟨ka, ha, hl⟩ := szL_cons hl
      have := szL_nil hl
      obtain ⟨t, ht⟩ := hS.arg0 e
      have := wr_len d _ a ka w t ha ht
      have := put_len 6 (rkOf a.op) (wr a)
      have := neg_len (put 6 (rkOf a.op) (wr a))
      rw [wr_one e]
      split
      · omega
      · split <;> simp only [List.length_append, List.length_cons, List.length_nil] <;> omega
    · obtain ⟨a, b, c, e⟩ := len3 h3
      rw [e] at hl
      obtain ⟨ka, ha, hl⟩ := szL_cons hl
      obtain ⟨kb, hb, hl⟩ := szL_cons hl
      obtain ⟨kc, hc, hl⟩ := szL_cons hl
      have := szL_nil hl
      obtain ⟨ta, hta⟩ := hS.arg0 e
      obtain ⟨tb, htb⟩ := hS.arg1 e
      obtain ⟨tc, htc⟩ := hS.arg2 e
      have := wr_len d _ a ka w ta ha hta
      have := wr_len d _ b kb w tb hb htb
      have := wr_len d _ c kc w tc hc htc
      have := put_len 0 (rkOf a.op) (wr a)
      have := put_len 0 (rkOf b.op) (wr b)
      have := put_len 0 (rkOf c.op) (wr c)
      rw [wr_three e]
      simp only [List.length_append, List.length_cons, List.length_nil]
      omega
    · obtain ⟨a, b, e⟩ := len2 h3
      rw [e] at hl
      obtain ⟨ka, ha, hl⟩ := szL_cons hl
      obtain ⟨kb, hb, hl⟩ := szL_cons hl
      have := szL_nil hl
      obtain ⟨ta, hta⟩ := hS.arg0 e
      obtain ⟨tb, htb⟩ := hS.arg1 e
      have := wr_len d _ a ka w ta ha hta
      have := wr_len d _ b kb w tb hb htb
      obtain ⟨hj, _⟩ := j_len hr
      rw [wr_two e, hr]
      have := put_len ((some r).getD j0).first (rkOf a.op) (wr a)
      have := put_len ((some r).getD j0).second (rkOf b.op) (wr b)
      simp only [List.length_append, List.length_cons, List.length_nil, Option.getD_some] at *
      omega
end Go.Proofs.YtkieljleopbhoaaDoor.Lex
namespace Go.Proofs.YtkieljleopbhoaaDoor.Lex
open Go.ChangeShapes Go.WideShapes Go.ChangeAt Go.RowKit Go.Joins
/-- Of how many parts; below 0: none. -/
def manyI (op : Nat) : Int := if op = 1 ∨ op = 2 ∨ op = 3 then 0 else if 0 < parts op then (parts op : Int) else -1
theorem many_1 (w : World) : Calls Tryd.prog 49 #[.int .u8 (1 : Int)] w fun e w' => e = .returned (.int .i64 (manyI 1)) ∧ w' = w := by
  have h : manyI 1 = 0 := by decide
  rw [h]
  go_enter Tryd.func49, Tryd.ntmps49
  go_wp2
  go_ret
  exact ⟨rfl, rfl⟩
theorem many_2 (w : World) : Calls Tryd.prog 49 #[.int .u8 (2 : Int)] w fun e w' => e = .returned (.int .i64 (manyI 2)) ∧ w' = w := by
  have h : manyI 2 = 0 := by decide
  rw [h]
  go_enter Tryd.func49, Tryd.ntmps49
  go_wp2
  go_ret
  exact ⟨rfl, rfl⟩
theorem many_3 (w : World) : Calls Tryd.prog 49 #[.int .u8 (3 : Int)] w fun e w' => e = .returned (.int .i64 (manyI 3)) ∧ w' = w := by
  have h : manyI 3 = 0 := by decide
  rw [h]
  go_enter Tryd.func49, Tryd.ntmps49
  go_wp2
  go_ret
  exact ⟨rfl, rfl⟩
theorem many_4 (w : World) : Calls Tryd.prog 49 #[.int .u8 (4 : Int)] w fun e w' => e = .returned (.int .i64 (manyI 4)) ∧ w' = w := by
  have h : manyI 4 = 1 := by decide
  rw [h]
  go_enter Tryd.func49, Tryd.ntmps49
  go_wp2
  go_ret
  exact ⟨rfl, rfl⟩
theorem many_5 (w : World) : Calls Tryd.prog 49 #[.int .u8 (5 : Int)] w fun e w' => e = .returned (.int .i64 (manyI 5)) ∧ w' = w := by
  have h : manyI 5 = 1 := by decide
  rw [h]
  go_enter Tryd.func49, Tryd.ntmps49
  go_wp2
  go_ret
  exact ⟨rfl, rfl⟩
theorem many_6 (w : World) : Calls Tryd.prog 49 #[.int .u8 (6 : Int)] w fun e w' => e = .returned (.int .i64 (manyI 6)) ∧ w' = w := by
  have h : manyI 6 = 2 := by decide
  rw [h]
  go_enter Tryd.func49, Tryd.ntmps49
  go_wp2
  go_ret
  exact ⟨rfl, rfl⟩
theorem many_7 (w : World) : Calls Tryd.prog 49 #[.int .u8 (7 : Int)] w fun e w' => e = .returned (.int .i64 (manyI 7)) ∧ w' = w := by
  have h : manyI 7 = 2 := by decide
  rw [h]
  go_enter Tryd.func49, Tryd.ntmps49
  go_wp2
  go_ret
  exact ⟨rfl, rfl⟩
theorem many_8 (w : World) : Calls Tryd.prog 49 #[.int .u8 (8 : Int)] w fun e w' => e = .returned (.int .i64 (manyI 8)) ∧ w' = w := by
  have h : manyI 8 = 2 := by decide
  rw [h]
  go_enter Tryd.func49, Tryd.ntmps49
  go_wp2
  go_ret
  exact ⟨rfl, rfl⟩
theorem many_9 (w : World) : Calls Tryd.prog 49 #[.int .u8 (9 : Int)] w fun e w' => e = .returned (.int .i64 (manyI 9)) ∧ w' = w := by
  have h : manyI 9 = 2 := by decide
  rw [h]
  go_enter Tryd.func49, Tryd.ntmps49
  go_wp2
  go_ret
  exact ⟨rfl, rfl⟩
theorem many_10 (w : World) : Calls Tryd.prog 49 #[.int .u8 (10 : Int)] w fun e w' => e = .returned (.int .i64 (manyI 10)) ∧ w' = w := by
  have h : manyI 10 = 2 := by decide
  rw [h]
  go_enter Tryd.func49, Tryd.ntmps49
  go_wp2
  go_ret
  exact ⟨rfl, rfl⟩
theorem many_11 (w : World) : Calls Tryd.prog 49 #[.int .u8 (11 : Int)] w fun e w' => e = .returned (.int .i64 (manyI 11)) ∧ w' = w := by
  have h : manyI 11 = 2 := by decide
  rw [h]
  go_enter Tryd.func49, Tryd.ntmps49
  go_wp2
  go_ret
  exact ⟨rfl, rfl⟩
theorem many_12 (w : World) : Calls Tryd.prog 49 #[.int .u8 (12 : Int)] w fun e w' => e = .returned (.int .i64 (manyI 12)) ∧ w' = w := by
  have h : manyI 12 = 2 := by decide
  rw [h]
  go_enter Tryd.func49, Tryd.ntmps49
  go_wp2
  go_ret
  exact ⟨rfl, rfl⟩
theorem many_13 (w : World) : Calls Tryd.prog 49 #[.int .u8 (13 : Int)] w fun e w' => e = .returned (.int .i64 (manyI 13)) ∧ w' = w := by
  have h : manyI 13 = 2 := by decide
  rw [h]
  go_enter Tryd.func49, Tryd.ntmps49
  go_wp2
  go_ret
  exact ⟨rfl, rfl⟩
theorem many_14 (w : World) : Calls Tryd.prog 49 #[.int .u8 (14 : Int)] w fun e w' => e = .returned (.int .i64 (manyI 14)) ∧ w' = w := by
  have h : manyI 14 = 2 := by decide
  rw [h]
  go_enter Tryd.func49, Tryd.ntmps49
  go_wp2
  go_ret
  exact ⟨rfl, rfl⟩
theorem many_15 (w : World) : Calls Tryd.prog 49 #[.int .u8 (15 : Int)] w fun e w' => e = .returned (.int .i64 (manyI 15)) ∧ w' = w := by
  have h : manyI 15 = 2 := by decide
  rw [h]
  go_enter Tryd.func49, Tryd.ntmps49
  go_wp2
  go_ret
  exact ⟨rfl, rfl⟩
theorem many_16 (w : World) : Calls Tryd.prog 49 #[.int .u8 (16 : Int)] w fun e w' => e = .returned (.int .i64 (manyI 16)) ∧ w' = w := by
  have h : manyI 16 = 2 := by decide
  rw [h]
  go_enter Tryd.func49, Tryd.ntmps49
  go_wp2
  go_ret
  exact ⟨rfl, rfl⟩
theorem many_17 (w : World) : Calls Tryd.prog 49 #[.int .u8 (17 : Int)] w fun e w' => e = .returned (.int .i64 (manyI 17)) ∧ w' = w := by
  have h : manyI 17 = 3 := by decide
  rw [h]
  go_enter Tryd.func49, Tryd.ntmps49
  go_wp2
  go_ret
  exact ⟨rfl, rfl⟩
theorem many_18 (w : World) : Calls Tryd.prog 49 #[.int .u8 (18 : Int)] w fun e w' => e = .returned (.int .i64 (manyI 18)) ∧ w' = w := by
  have h : manyI 18 = 2 := by decide
  rw [h]
  go_enter Tryd.func49, Tryd.ntmps49
  go_wp2
  go_ret
  exact ⟨rfl, rfl⟩
theorem many_19 (w : World) : Calls Tryd.prog 49 #[.int .u8 (19 : Int)] w fun e w' => e = .returned (.int .i64 (manyI 19)) ∧ w' = w := by
  have h : manyI 19 = 1 := by decide
  rw [h]
  go_enter Tryd.func49, Tryd.ntmps49
  go_wp2
  go_ret
  exact ⟨rfl, rfl⟩
theorem jOf_far {op : Nat} (h : 20 ≤ op) : jOf op = none := by
  unfold jOf JT
  rw [List.find?_eq_none]
  intro r hr
  simp only [List.mem_cons, List.not_mem_nil, or_false] at hr
  rcases hr with rfl | rfl | rfl | rfl | rfl | rfl | rfl | rfl | rfl | rfl | rfl | rfl <;> simp <;> omega
theorem many_far {op : Nat} (h : op = 0 ∨ 20 ≤ op) : manyI op = -1 := by
  rcases h with rfl | h
  · decide
  · have hp : parts op = 0 := by unfold parts; rw [if_neg (by omega), if_neg (by omega), jOf_far h]; rfl
    unfold manyI
    rw [if_neg (by omega), hp]
    rfl
theorem many_any (op : Nat) (w : World) : Calls Tryd.prog 49 #[.int .u8 (op : Int)] w fun e w' => e = .returned (.int .i64 (manyI op)) ∧ w' = w := by
  by_cases hop : op = 0 ∨ 20 ≤ op
  · rw [many_far hop]
    have e1 := neN (a := op) (b := 1) (by omega)
    have e2 := neN (a := op) (b := 2) (by omega)
    have e3 := neN (a := op) (b := 3) (by omega)
    have e4 := neN (a := op) (b := 4) (by omega)
    have e5 := neN (a := op) (b := 5) (by omega)
    have e6 := neN (a := op) (b := 6) (by omega)
    have e7 := neN (a := op) (b := 7) (by omega)
    have e8 := neN (a := op) (b := 8) (by omega)
    have e9 := neN (a := op) (b := 9) (by omega)
    have e10 := neN (a := op) (b := 10) (by omega)
    have e11 := neN (a := op) (b := 11) (by omega)
    have e12 := neN (a := op) (b := 12) (by omega)
    have e13 := neN (a := op) (b := 13) (by omega)
    have e14 := neN (a := op) (b := 14) (by omega)
    have e15 := neN (a := op) (b := 15) (by omega)
    have e16 := neN (a := op) (b := 16) (by omega)
    have e17 := neN (a := op) (b := 17) (by omega)
    have e18 := neN (a := op) (b := 18) (by omega)
    have e19 := neN (a := op) (b := 19) (by omega)
    clear hop
    go_enter Tryd.func49, Tryd.ntmps49
    go_wp2
    go_ret
    exact ⟨rfl, rfl⟩
  · have h : op = 1 ∨ op = 2 ∨ op = 3 ∨ op = 4 ∨ op = 5 ∨ op = 6 ∨ op = 7 ∨ op = 8 ∨ op = 9 ∨ op = 10 ∨ op = 11 ∨ op = 12 ∨ op = 13 ∨ op = 14 ∨ op = 15 ∨ op = 16 ∨ op = 17 ∨ op = 18 ∨ op = 19 := by omega
    clear hop
    rcases h with rfl | rfl | rfl | rfl | rfl | rfl | rfl | rfl | rfl | rfl | rfl | rfl | rfl | rfl | rfl | rfl | rfl | rfl | rfl
    · exact many_1 w
    · exact many_2 w
    · exact many_3 w
    · exact many_4 w
    · exact many_5 w
    · exact many_6 w
    · exact many_7 w
    · exact many_8 w
    · exact many_9 w
    · exact many_10 w
    · exact many_11 w
    · exact many_12 w
    · exact many_13 w
    · exact many_14 w
    · exact many_15 w
    · exact many_16 w
    · exact many_17 w
    · exact many_18 w
    · exact many_19 w
/-- The fields but for the parts. -/
def fldOk (op : Nat) (n : Int) (nm : ByteArray) : Bool :=
  if op = 1 then decide (0 ≤ n) && decide (nm.size = 0)
  else if op = 2 then (decide (n = 0) || decide (n = 1)) && decide (nm.size = 0)
  else if op = 3 then decide (n = 0) && isName nm
  else decide (n = 0) && decide (nm.size = 0)
theorem fields_split (op : Nat) (n : Int) (nm : ByteArray) (len : Nat) : fieldsOk op n nm len = (decide (manyI op = (len : Int)) && fldOk op n nm) := by
  have hz : decide ((0 : Int) = (len : Int)) = decide (len = 0) := by
    by_cases h : len = 0
    · rw [decide_eq_true h, decide_eq_true (by omega)]
    · rw [decide_eq_false h, decide_eq_false (by omega)]
  unfold fieldsOk fldOk
  by_cases h1 : op = 1
  · rw [if_pos h1, if_pos h1, manyI, if_pos (.inl h1), hz]
    cases decide (0 ≤ n) <;> cases decide (nm.size = 0) <;> cases decide (len = 0) <;> rfl
  · rw [if_neg h1, if_neg h1]
    by_cases h2 : op = 2
    · rw [if_pos h2, if_pos h2, manyI, if_pos (.inr (.inl h2)), hz]
      cases (decide (n = 0) || decide (n = 1)) <;> cases decide (nm.size = 0) <;> cases decide (len = 0) <;> rfl
    · rw [if_neg h2, if_neg h2]
      by_cases h3 : op = 3
      · rw [if_pos h3, if_pos h3, manyI, if_pos (.inr (.inr h3)), hz]
        cases decide (n = 0) <;> cases isName nm <;> cases decide (len = 0) <;> rfl
      · rw [if_neg h3, if_neg h3, manyI, if_neg (by omega)]
        by_cases hp : 0 < parts op
        · rw [if_pos hp, decide_eq_true hp]
          have : decide ((parts op : Int) = (len : Int)) = decide (len = parts op) := by
            by_cases h : len = parts op
            · rw [decide_eq_true h, decide_eq_true (by omega)]
            · rw [decide_eq_false h, decide_eq_false (by omega)]
          rw [this]
          cases decide (n = 0) <;> cases decide (nm.size = 0) <;> cases decide (len = parts op) <;> rfl
        · have hl : decide ((-1 : Int) = (len : Int)) = false := decide_eq_false (by omega)
          rw [if_neg hp, decide_eq_false hp, hl]
          rfl
end Go.Proofs.YtkieljleopbhoaaDoor.Lex
namespace Go.Proofs.YtkieljleopbhoaaDoor.Lex
open Go.ChangeShapes Go.WideShapes Go.ChangeAt Go.RowKit Go.Joins
set_option maxRecDepth 100000 in
theorem rankOf (op : Nat) (w : World) (hT : TabJ w) : Calls Tryd.prog 70 #[.int .u8 (op : Int)] w fun e w' => e = .returned (.int .i64 (rkOf op : Int)) ∧ Below w.heap.size w w' := by
  have c := joinOf op w hT
  unfold jOut jrow at c
  cases hj : jOf op with
  | some r =>
    have hp : rkOf op = r.rank := by unfold rkOf; rw [hj]
    rw [hp]
    rw [hj] at c
    simp only [Option.getD_some, Option.isSome_some] at c
    clear hp hj
    go_enter Tryd.func70, Tryd.ntmps70
    go_wp2_with (go_at_call 43; refine c.mono ?_; rintro e w2 ⟨rfl, hb2⟩)
    go_ret
    exact ⟨rfl, bstep hb2 ((Below.refl _ _).alloc (Nat.le_refl _) _)⟩
  | none =>
    have hp : rkOf op = if op = 17 then 0 else if op = 4 ∨ op = 5 ∨ op = 19 then 6 else 7 := by unfold rkOf; rw [hj]
    rw [hp]
    rw [hj] at c
    simp only [Option.getD_none, Option.isSome_none] at c
    clear hp hj
    by_cases h17 : op = 17
    · have e17 := eqN (b := 17) h17
      rw [if_pos h17]
      clear h17
      go_enter Tryd.func70, Tryd.ntmps70
      go_wp2_with (go_at_call 43; refine c.mono ?_; rintro e w2 ⟨rfl, hb2⟩)
      go_ret
      exact ⟨rfl, bstep hb2 ((Below.refl _ _).alloc (Nat.le_refl _) _)⟩
    · have e17 := neN (b := 17) h17
      rw [if_neg h17]
      by_cases h4 : op = 4
      · have e4 := eqN (b := 4) h4
        rw [if_pos (.inl h4)]
        clear h17 h4
        go_enter Tryd.func70, Tryd.ntmps70
        go_wp2_with (go_at_call 43; refine c.mono ?_; rintro e w2 ⟨rfl, hb2⟩)
        go_ret
        exact ⟨rfl, bstep hb2 ((Below.refl _ _).alloc (Nat.le_refl _) _)⟩
      · have e4 := neN (b := 4) h4
        by_cases h5 : op = 5
        · have e5 := eqN (b := 5) h5
          rw [if_pos (.inr (.inl h5))]
          clear h17 h4 h5
          go_enter Tryd.func70, Tryd.ntmps70
          go_wp2_with (go_at_call 43; refine c.mono ?_; rintro e w2 ⟨rfl, hb2⟩)
          go_ret
          exact ⟨rfl, bstep hb2 ((Below.refl _ _).alloc (Nat.le_refl _) _)⟩
        · have e5 := neN (b := 5) h5
          by_cases h19 : op = 19
          · have e19 := eqN (b := 19) h19
            rw [if_pos (.inr (.inr h19))]
            clear h17 h4 h5 h19
            go_enter Tryd.func70, Tryd.ntmps70
            go_wp2_with (go_at_call 43; refine c.mono ?_; rintro e w2 ⟨rfl, hb2⟩)
            go_ret
            exact ⟨rfl, bstep hb2 ((Below.refl _ _).alloc (Nat.le_refl _) _)⟩
          · have e19 := neN (b := 19) h19
            rw [if_neg (by omega)]
            clear h17 h4 h5 h19
            go_enter Tryd.func70, Tryd.ntmps70
            go_wp2_with (go_at_call 43; refine c.mono ?_; rintro e w2 ⟨rfl, hb2⟩)
            go_ret
            exact ⟨rfl, bstep hb2 ((Below.refl _ _).alloc (Nat.le_refl _) _)⟩
theorem rank_1 (w : World) : Calls Tryd.prog 44 #[.int .u8 (1 : Int)] w fun e w' => e = .returned (.int .i64 (rkOf 1 : Int)) ∧ w' = w := by
  have h : rkOf 1 = 7 := by decide
  rw [h]
  go_enter Tryd.func44, Tryd.ntmps44
  go_wp2
  go_ret
  exact ⟨rfl, rfl⟩
theorem rank_2 (w : World) : Calls Tryd.prog 44 #[.int .u8 (2 : Int)] w fun e w' => e = .returned (.int .i64 (rkOf 2 : Int)) ∧ w' = w := by
  have h : rkOf 2 = 7 := by decide
  rw [h]
  go_enter Tryd.func44, Tryd.ntmps44
  go_wp2
  go_ret
  exact ⟨rfl, rfl⟩
theorem rank_3 (w : World) : Calls Tryd.prog 44 #[.int .u8 (3 : Int)] w fun e w' => e = .returned (.int .i64 (rkOf 3 : Int)) ∧ w' = w := by
  have h : rkOf 3 = 7 := by decide
  rw [h]
  go_enter Tryd.func44, Tryd.ntmps44
  go_wp2
  go_ret
  exact ⟨rfl, rfl⟩
theorem rank_4 (w : World) : Calls Tryd.prog 44 #[.int .u8 (4 : Int)] w fun e w' => e = .returned (.int .i64 (rkOf 4 : Int)) ∧ w' = w := by
  have h : rkOf 4 = 6 := by decide
  rw [h]
  go_enter Tryd.func44, Tryd.ntmps44
  go_wp2
  go_ret
  exact ⟨rfl, rfl⟩
theorem rank_5 (w : World) : Calls Tryd.prog 44 #[.int .u8 (5 : Int)] w fun e w' => e = .returned (.int .i64 (rkOf 5 : Int)) ∧ w' = w := by
  have h : rkOf 5 = 6 := by decide
  rw [h]
  go_enter Tryd.func44, Tryd.ntmps44
  go_wp2
  go_ret
  exact ⟨rfl, rfl⟩
theorem rank_6 (w : World) : Calls Tryd.prog 44 #[.int .u8 (6 : Int)] w fun e w' => e = .returned (.int .i64 (rkOf 6 : Int)) ∧ w' = w := by
  have h : rkOf 6 = 4 := by decide
  rw [h]
  go_enter Tryd.func44, Tryd.ntmps44
  go_wp2
  go_ret
  exact ⟨rfl, rfl⟩
theorem rank_7 (w : World) : Calls Tryd.prog 44 #[.int .u8 (7 : Int)] w fun e w' => e = .returned (.int .i64 (rkOf 7 : Int)) ∧ w' = w := by
  have h : rkOf 7 = 4 := by decide
  rw [h]
  go_enter Tryd.func44, Tryd.ntmps44
  go_wp2
  go_ret
  exact ⟨rfl, rfl⟩
theorem rank_8 (w : World) : Calls Tryd.prog 44 #[.int .u8 (8 : Int)] w fun e w' => e = .returned (.int .i64 (rkOf 8 : Int)) ∧ w' = w := by
  have h : rkOf 8 = 5 := by decide
  rw [h]
  go_enter Tryd.func44, Tryd.ntmps44
  go_wp2
  go_ret
  exact ⟨rfl, rfl⟩
theorem rank_9 (w : World) : Calls Tryd.prog 44 #[.int .u8 (9 : Int)] w fun e w' => e = .returned (.int .i64 (rkOf 9 : Int)) ∧ w' = w := by
  have h : rkOf 9 = 5 := by decide
  rw [h]
  go_enter Tryd.func44, Tryd.ntmps44
  go_wp2
  go_ret
  exact ⟨rfl, rfl⟩
theorem rank_10 (w : World) : Calls Tryd.prog 44 #[.int .u8 (10 : Int)] w fun e w' => e = .returned (.int .i64 (rkOf 10 : Int)) ∧ w' = w := by
  have h : rkOf 10 = 5 := by decide
  rw [h]
  go_enter Tryd.func44, Tryd.ntmps44
  go_wp2
  go_ret
  exact ⟨rfl, rfl⟩
theorem rank_11 (w : World) : Calls Tryd.prog 44 #[.int .u8 (11 : Int)] w fun e w' => e = .returned (.int .i64 (rkOf 11 : Int)) ∧ w' = w := by
  have h : rkOf 11 = 3 := by decide
  rw [h]
  go_enter Tryd.func44, Tryd.ntmps44
  go_wp2
  go_ret
  exact ⟨rfl, rfl⟩
theorem rank_12 (w : World) : Calls Tryd.prog 44 #[.int .u8 (12 : Int)] w fun e w' => e = .returned (.int .i64 (rkOf 12 : Int)) ∧ w' = w := by
  have h : rkOf 12 = 3 := by decide
  rw [h]
  go_enter Tryd.func44, Tryd.ntmps44
  go_wp2
  go_ret
  exact ⟨rfl, rfl⟩
theorem rank_13 (w : World) : Calls Tryd.prog 44 #[.int .u8 (13 : Int)] w fun e w' => e = .returned (.int .i64 (rkOf 13 : Int)) ∧ w' = w := by
  have h : rkOf 13 = 3 := by decide
  rw [h]
  go_enter Tryd.func44, Tryd.ntmps44
  go_wp2
  go_ret
  exact ⟨rfl, rfl⟩
theorem rank_14 (w : World) : Calls Tryd.prog 44 #[.int .u8 (14 : Int)] w fun e w' => e = .returned (.int .i64 (rkOf 14 : Int)) ∧ w' = w := by
  have h : rkOf 14 = 3 := by decide
  rw [h]
  go_enter Tryd.func44, Tryd.ntmps44
  go_wp2
  go_ret
  exact ⟨rfl, rfl⟩
theorem rank_15 (w : World) : Calls Tryd.prog 44 #[.int .u8 (15 : Int)] w fun e w' => e = .returned (.int .i64 (rkOf 15 : Int)) ∧ w' = w := by
  have h : rkOf 15 = 2 := by decide
  rw [h]
  go_enter Tryd.func44, Tryd.ntmps44
  go_wp2
  go_ret
  exact ⟨rfl, rfl⟩
theorem rank_16 (w : World) : Calls Tryd.prog 44 #[.int .u8 (16 : Int)] w fun e w' => e = .returned (.int .i64 (rkOf 16 : Int)) ∧ w' = w := by
  have h : rkOf 16 = 1 := by decide
  rw [h]
  go_enter Tryd.func44, Tryd.ntmps44
  go_wp2
  go_ret
  exact ⟨rfl, rfl⟩
theorem rank_17 (w : World) : Calls Tryd.prog 44 #[.int .u8 (17 : Int)] w fun e w' => e = .returned (.int .i64 (rkOf 17 : Int)) ∧ w' = w := by
  have h : rkOf 17 = 0 := by decide
  rw [h]
  go_enter Tryd.func44, Tryd.ntmps44
  go_wp2
  go_ret
  exact ⟨rfl, rfl⟩
theorem rank_18 (w : World) : Calls Tryd.prog 44 #[.int .u8 (18 : Int)] w fun e w' => e = .returned (.int .i64 (rkOf 18 : Int)) ∧ w' = w := by
  have h : rkOf 18 = 0 := by decide
  rw [h]
  go_enter Tryd.func44, Tryd.ntmps44
  go_wp2
  go_ret
  exact ⟨rfl, rfl⟩
theorem rank_19 (w : World) : Calls Tryd.prog 44 #[.int .u8 (19 : Int)] w fun e w' => e = .returned (.int .i64 (rkOf 19 : Int)) ∧ w' = w := by
  have h : rkOf 19 = 6 := by decide
  rw [h]
  go_enter Tryd.func44, Tryd.ntmps44
  go_wp2
  go_ret
  exact ⟨rfl, rfl⟩
theorem rk_far {op : Nat} (h : op = 0 ∨ 20 ≤ op) : rkOf op = 7 := by
  rcases h with rfl | h
  · decide
  · unfold rkOf
    rw [jOf_far h]
    simp only
    rw [if_neg (by omega), if_neg (by omega)]
theorem rank_any (op : Nat) (w : World) : Calls Tryd.prog 44 #[.int .u8 (op : Int)] w fun e w' => e = .returned (.int .i64 (rkOf op : Int)) ∧ w' = w := by
  by_cases hop : op = 0 ∨ 20 ≤ op
  · rw [rk_far hop]
    have e1 := neN (a := op) (b := 1) (by omega)
    have e2 := neN (a := op) (b := 2) (by omega)
    have e3 := neN (a := op) (b := 3) (by omega)
    have e4 := neN (a := op) (b := 4) (by omega)
    have e5 := neN (a := op) (b := 5) (by omega)
    have e6 := neN (a := op) (b := 6) (by omega)
    have e7 := neN (a := op) (b := 7) (by omega)
    have e8 := neN (a := op) (b := 8) (by omega)
    have e9 := neN (a := op) (b := 9) (by omega)
    have e10 := neN (a := op) (b := 10) (by omega)
    have e11 := neN (a := op) (b := 11) (by omega)
    have e12 := neN (a := op) (b := 12) (by omega)
    have e13 := neN (a := op) (b := 13) (by omega)
    have e14 := neN (a := op) (b := 14) (by omega)
    have e15 := neN (a := op) (b := 15) (by omega)
    have e16 := neN (a := op) (b := 16) (by omega)
    have e17 := neN (a := op) (b := 17) (by omega)
    have e18 := neN (a := op) (b := 18) (by omega)
    have e19 := neN (a := op) (b := 19) (by omega)
    clear hop
    go_enter Tryd.func44, Tryd.ntmps44
    go_wp2
    go_ret
    exact ⟨rfl, rfl⟩
  · have h : op = 1 ∨ op = 2 ∨ op = 3 ∨ op = 4 ∨ op = 5 ∨ op = 6 ∨ op = 7 ∨ op = 8 ∨ op = 9 ∨ op = 10 ∨ op = 11 ∨ op = 12 ∨ op = 13 ∨ op = 14 ∨ op = 15 ∨ op = 16 ∨ op = 17 ∨ op = 18 ∨ op = 19 := by omega
    clear hop
    rcases h with rfl | rfl | rfl | rfl | rfl | rfl | rfl | rfl | rfl | rfl | rfl | rfl | rfl | rfl | rfl | rfl | rfl | rfl | rfl
    · exact rank_1 w
    · exact rank_2 w
    · exact rank_3 w
    · exact rank_4 w
    · exact rank_5 w
    · exact rank_6 w
    · exact rank_7 w
    · exact rank_8 w
    · exact rank_9 w
    · exact rank_10 w
    · exact rank_11 w
    · exact rank_12 w
    · exact rank_13 w
    · exact rank_14 w
    · exact rank_15 w
    · exact rank_16 w
    · exact rank_17 w
    · exact rank_18 w
    · exact rank_19 w
/-- negated. -/
theorem negated (s : ByteArray) (w : World) (hs : s.size ≤ 65536) : Calls Tryd.prog 41 #[.string s] w fun e w' => e = .returned (.string ⟨(negW s.data.toList).toArray⟩) ∧ w' = w := by
  have c := Tryd.strings_HasPrefix s ⟨#[45]⟩ w
  unfold negW
  cases hp : Lib.hasPrefix s.data.toList [45]
  · rw [hp] at c
    go_enter Tryd.func41, Tryd.ntmps41
    go_wp2_with (go_at_call 69; refine c.mono ?_; rintro e w2 ⟨rfl, rfl⟩)
    go_ret
    refine ⟨?_, rfl⟩
    congr 2
  · rw [hp] at c
    go_enter Tryd.func41, Tryd.ntmps41
    go_wp2_with (go_at_call 69; refine c.mono ?_; rintro e w2 ⟨rfl, rfl⟩)
    go_ret
    refine ⟨?_, rfl⟩
    congr 2
theorem wrap_id {x : Int} (h1 : -9223372036854775808 ≤ x) (h2 : x ≤ 9223372036854775807) : IntKind.i64.wrap x = x := by
  simp only [IntKind.wrap, IntKind.signed, IntKind.bits]
  simp
  omega
def tenS : ByteArray := ⟨#[48, 49, 50, 51, 52, 53, 54, 55, 56, 57]⟩
theorem ten_ext (r : Nat) (h : r < 10) : (⟨#[48, 49, 50, 51, 52, 53, 54, 55, 56, 57]⟩ : ByteArray).extract r (r + 1) = ⟨#[UInt8.ofNat (48 + r)]⟩ := by
  have h : r = 0 ∨ r = 1 ∨ r = 2 ∨ r = 3 ∨ r = 4 ∨ r = 5 ∨ r = 6 ∨ r = 7 ∨ r = 8 ∨ r = 9 := by omega
  rcases h with rfl | rfl | rfl | rfl | rfl | rfl | rfl | rfl | rfl | rfl <;> decide
set_option maxRecDepth 100000 in
set_option maxHeartbeats 1000000 in
/-- The document's own digits. -/
theorem digits : ∀ (m u : Nat), u ≤ m → u ≤ 9223372036854775807 → ∀ (w : World), Calls Tryd.prog 45 #[.int .i64 (u : Int)] w fun e w' => e = .returned (.string ⟨(Lib.decDigits u).toArray⟩) ∧ ∃ n, w' = w.drewN n := by
  intro m
  induction m with
  | zero =>
    intro u hu _ w
    obtain rfl : u = 0 := by omega
    have h0 := ten_ext 0 (by omega)
    rw [Lib.decDigits, dif_pos (by omega)]
    go_enter Tryd.func45, Tryd.ntmps45
    go_wp2
    go_ret
    exact ⟨by first | rfl | (rw [h0]), 0, rfl⟩
  | succ m ih =>
    intro u hu hmax w
    have hneg : ¬ (u : Int) < 0 := by omega
    have hgt : (-10 : Int) < (u : Int) := by omega
    by_cases h10 : u < 10
    · have h10' : (u : Int) < 10 := by omega
      have h0 := ten_ext u h10
      rw [Lib.decDigits, dif_pos h10]
      go_enter Tryd.func45, Tryd.ntmps45
      go_wp2
      go_ret
      exact ⟨by first | rfl | (rw [h0]; rfl), 0, rfl⟩
    · have h10' : ¬ (u : Int) < 10 := by omega
      have h0 := ten_ext (u % 10) (by omega)
      have c := ih (u / 10) (by omega) (by omega)
      have hl := dec_len 18 (u / 10) (by have : (10 : Nat) ^ (18 + 1) = 10000000000000000000 := by decide
                                         omega)
      have hd : Int.tdiv (u : Int) 10 = ((u / 10 : Nat) : Int) := by rw [Int.tdiv_eq_ediv_of_nonneg (by omega)]; omega
      have hr : Int.tmod (u : Int) 10 = ((u % 10 : Nat) : Int) := by rw [Int.tmod_eq_emod_of_nonneg (by omega)]; omega
      have hr9 : u % 10 < 10 := by omega
      rw [Lib.decDigits, dif_neg h10]
      go_enter Tryd.func45, Tryd.ntmps45
      go_wp2
      have hw1 : IntKind.i64.wrap ((u / 10 : Nat) : Int) = ((u / 10 : Nat) : Int) := wrap_id (by omega) (by omega)
      have hw2 : IntKind.i64.wrap ((u % 10 : Nat) : Int) = ((u % 10 : Nat) : Int) := wrap_id (by omega) (by omega)
      have hw3 : IntKind.i64.wrap (((u % 10 : Nat) : Int) + 1) = ((u % 10 : Nat) : Int) + 1 := wrap_id (by omega) (by omega)
      generalize hD : Lib.decDigits (u / 10) = D at *
      have hDs : (⟨D.toArray⟩ : ByteArray).size ≤ 19 := by rw [Lib.size_eq]; simpa using hl
      go_quiet ((go_at_call 45; exact Calls.quiet_of (c _)))
      go_wp2
      go_ret
      refine ⟨?_, nq, rfl⟩
      have e : (⟨D.toArray⟩ : ByteArray) ++ (⟨#[48 + UInt8.ofNat (u % 10)]⟩ : ByteArray) = ⟨(D ++ [UInt8.ofNat (48 + u % 10)]).toArray⟩ := by
        apply ByteArray.ext
        rw [ByteArray.data_append]
        simp [UInt8.ofNat_add]
      subst hD
      exact congrArg (fun s => Ending.returned (.string s)) e
def opsV : Array Value := #[.int .u8 18, .int .u8 16, .int .u8 15, .int .u8 11, .int .u8 12, .int .u8 13, .int .u8 14, .int .u8 6, .int .u8 7, .int .u8 8, .int .u8 9, .int .u8 10]
def sgnV : Array Value := #[.string ⟨#[45, 62]⟩, .string ⟨#[111, 114]⟩, .string ⟨#[97, 110, 100]⟩, .string ⟨#[61, 61]⟩, .string ⟨#[33, 61]⟩, .string ⟨#[60]⟩, .string ⟨#[60, 61]⟩, .string ⟨#[43]⟩, .string ⟨#[45]⟩, .string ⟨#[42]⟩, .string ⟨#[47]⟩, .string ⟨#[37]⟩]
theorem ops_at (k : Nat) (hk : k < 12) : opsV[k]? = some (.int .u8 ((jR k).op : Int)) ∧ sgnV[k]? = some (.string (jR k).text) := by
  have h : k = 0 ∨ k = 1 ∨ k = 2 ∨ k = 3 ∨ k = 4 ∨ k = 5 ∨ k = 6 ∨ k = 7 ∨ k = 8 ∨ k = 9 ∨ k = 10 ∨ k = 11 := by omega
  rcases h with rfl | rfl | rfl | rfl | rfl | rfl | rfl | rfl | rfl | rfl | rfl | rfl <;> exact ⟨rfl, rfl⟩
/-- The document's own sign of an operator of two. -/
theorem sign_of (op : Nat) (r : J) (hr : jOf op = some r) (w : World) : Calls Tryd.prog 47 #[.int .u8 (op : Int)] w fun e w' => e = .returned (.string r.text) ∧ Below w.heap.size w w' := by
  have e1 : (w.alloc (.cells opsV 22)).heap.size = w.heap.size + 1 := by simp
  have HB : Hid (Below w.heap.size w ((w.alloc (.cells opsV 22)).alloc (.cells sgnV 9))) := bstep ((Below.refl _ _).alloc (Nat.le_refl _) _) ((Below.refl _ _).alloc (Nat.le_refl _) _)
  have c1 : ∀ k, k < 12 → ((w.alloc (.cells opsV 22)).alloc (.cells sgnV 9)).cell? ⟨w.heap.size, k, none⟩ = some (.int .u8 ((jR k).op : Int)) := fun k hk => by
    have h0 : (w.alloc (.cells opsV 22)).cell? ⟨w.heap.size, k, none⟩ = some (.int .u8 ((jR k).op : Int)) := by rw [World.cell?_alloc_at _ _ _ _ rfl]; exact (ops_at k hk).1
    exact cell_kept h0 ((Below.refl _ _).alloc (Nat.le_refl _) _)
  have c2 : ∀ k, k < 12 → ((w.alloc (.cells opsV 22)).alloc (.cells sgnV 9)).cell? ⟨w.heap.size + 1, k, none⟩ = some (.string (jR k).text) := fun k hk => by
    have h0 : ((w.alloc (.cells opsV 22)).alloc (.cells sgnV 9)).cell? ⟨(w.alloc (.cells opsV 22)).heap.size, k, none⟩ = some (.string (jR k).text) := by rw [World.cell?_alloc_at _ _ _ _ rfl]; exact (ops_at k hk).2
    rwa [e1] at h0
  unfold opsV sgnV at c1 c2 HB
  have C1 := hid c1
  have C2 := hid c2
  clear c1 c2 e1
  go_enter Tryd.func47, Tryd.ntmps47
  go_wp2
  go_loop [5] (fun i => ∃ k : Nat, k ≤ 12 ∧ i = .int .i64 (k : Int) ∧ Hid (∀ j, j < k → ((jR j).op == op) = false)) (fun i => 12 - (intOf i).toNat)
  case atStart => exact ⟨0, by omega, rfl, fun j hj => by omega⟩
  case round =>
    obtain ⟨k, hk, rfl, hall⟩ := hrel
    by_cases hlt : k < 12
    · have hlt' : (k : Int) < 12 := by omega
      have hk0 : (0 : Int) ≤ (k : Int) := by omega
      have x1 := C1.out k hlt
      have x2 := C2.out k hlt
      cases he : ((jR k).op == op)
      · have he' : (((jR k).op : Int) == (op : Int)) = false := by simp at he ⊢; omega
        have Hnew : Hid (∀ j, j < k + 1 → ((jR j).op == op) = false) := fun j hj => by
          by_cases e : j = k
          · rw [e]; exact he
          · exact hall.out j (by omega)
        clear hall he x2
        generalize (jR k).op = O at *
        go_wp2
        go_round
        case rel => exact ⟨k + 1, by omega, by go_num, Hnew⟩
        case measure => simp [intOf]; omega
      · have he' : (((jR k).op : Int) == (op : Int)) = true := by simp at he ⊢; omega
        have Hr : Hid (jR k = r) := Option.some.inj ((jOf_some k hlt hall.out he).symm.trans hr)
        clear hall he
        go_wp2
        go_ret
        exact ⟨by rw [Hr.out]; rfl, HB.out⟩
    · have hno : jOf op = none := jOf_none fun j hj => hall.out j (by omega)
      rw [hno] at hr
      cases hr
end Go.Proofs.YtkieljleopbhoaaDoor.Lex
namespace Go.Proofs.YtkieljleopbhoaaDoor.Lex
open Go.ChangeShapes Go.WideShapes Go.ChangeAt Go.RowKit Go.Joins
/-- ExprSize returns some number. -/
def SizeC (x : Ex) : Prop := ∀ (w : World) (s : Value), St w x s → Calls Tryd.prog 7 #[exV x s] w fun e w' => (∃ m : Int, e = .returned (.int .i64 m)) ∧ Below w.heap.size w w'
set_option maxRecDepth 100000 in
set_option maxHeartbeats 1000000 in
theorem sizes (x : Ex) (ih : ∀ i (h : i < x.args.length), SizeC x.args[i]) (w : World) (s : Value) (hS : St w x s) :
    Calls Tryd.prog 23 #[s] w fun e w' => (∃ m : Int, e = .returned (.int .i64 m)) ∧ Below w.heap.size w w' := by
  obtain ⟨ao, cap, sl, rfl, _, _, _, hlen, _, hc, hs⟩ := hS.out
  have HS := hid hs
  have HC := hid hc
  have HI := hid ih
  clear hs hc ih hS
  go_enter Tryd.func23, Tryd.ntmps23
  go_wp2
  go_loopw [3, 4] (fun n i wr => ∃ (z : Int) (k : Nat), k ≤ x.args.length ∧ n = .int .i64 z ∧ i = .int .i64 (k : Int) ∧ Hid (Below w.heap.size w wr)) (fun _ i _ => x.args.length - (intOf i).toNat)
  case atStart => exact ⟨_, 0, Nat.zero_le _, rfl, rfl, Below.refl _ _⟩
  case round =>
    obtain ⟨z, k, hk, rfl, rfl, hB⟩ := hrel
    by_cases hlt : k < x.args.length
    · have hlt' : (k : Int) < (x.args.length : Int) := by omega
      have hk0 : (0 : Int) ≤ (k : Int) := by omega
      by_cases hz : z ≤ 1048576
      · obtain ⟨b, o, rfl, hc⟩ := HC.out.resolve_left (by omega)
        obtain ⟨h0, h1, h2, h3⟩ := hc k hlt
        have y0 := cell_kept h0 hB.out
        have y1 := cell_kept h1 hB.out
        have y2 := cell_kept h2 hB.out
        have y3 := cell_kept h3 hB.out
        have c := HI.out k hlt wr (sl k) ((HS.out k hlt).keep hB.out)
        clear h0 h1 h2 h3 hc
        generalize x.args[k] = y at *
        go_wp2_with (go_at_call 7; refine c.mono ?_; rintro e w2 ⟨⟨m, rfl⟩, hb2⟩)
        go_roundw
        case rel => exact ⟨_, k + 1, by omega, rfl, by go_num, bstep hB.out hb2⟩
        case measure => simp [intOf]; omega
      · go_wp2
        go_ret
        exact ⟨⟨_, rfl⟩, hB.out⟩
    · have hlt' : ¬ (k : Int) < (x.args.length : Int) := by omega
      go_wp2
      go_ret
      exact ⟨⟨_, rfl⟩, hB.out⟩
set_option maxRecDepth 100000 in
theorem size_of (x : Ex) (ih : ∀ i (h : i < x.args.length), SizeC x.args[i]) : SizeC x := by
  intro w s hS
  have hs := fun W h => sizes x ih W s h
  obtain ⟨ao, cap, sl, rfl, hop, hn, hnm, hlen, hcap, hc, _⟩ := hS.out
  have HS := hid hS
  clear ih hc hS
  by_cases hle : (1 : Int) + (x.name.size : Int) ≤ 1048576
  · go_enter Tryd.func7, Tryd.ntmps7
    go_wp2_with (go_at_call 23; refine (hs _ (HS.out.keep ((Below.refl _ _).alloc (Nat.le_refl _) _))).mono ?_; rintro e w2 ⟨⟨m, rfl⟩, hb2⟩)
    go_ret
    exact ⟨⟨_, rfl⟩, bstep ((Below.refl _ _).alloc (Nat.le_refl _) _) hb2⟩
  · go_enter Tryd.func7, Tryd.ntmps7
    go_wp2
    go_ret
    exact ⟨⟨_, rfl⟩, (Below.refl _ _).alloc (Nat.le_refl _) _⟩
/-- ExprSize returns some number. -/
theorem size_any : ∀ (m : Nat) (x : Ex), SizeOf.sizeOf x ≤ m → SizeC x := by
  intro m
  induction m with
  | zero => intro x h; obtain ⟨o, n, s, l⟩ := x; simp at h
  | succ m ih => intro x h; exact size_of x fun i hi => ih _ (by have := x.part_lt i hi; omega)
end Go.Proofs.YtkieljleopbhoaaDoor.Lex
namespace Go.Proofs.YtkieljleopbhoaaDoor.Lex
open Go.ChangeShapes Go.WideShapes Go.ChangeAt Go.RowKit Go.Joins
def spare : ByteArray := ⟨#[115, 112, 97, 114, 101]⟩
/-- A twin in memory, in blocks from some one on, looked at so deep. -/
def TwN (w : World) (lo : Nat) : Nat → Ex → Value → Prop
  | 0, _, _ => False
  | k + 1, x, s => ∃ (b cap : Nat) (sl : Nat → Value), s = .slice (some ⟨b, 0, none⟩) x.args.length cap ∧ lo ≤ b ∧ x.op < 256 ∧ (-9223372036854775808 ≤ x.n ∧ x.n ≤ 9223372036854775807) ∧ x.name.size ≤ 140737488355328 ∧ x.args.length ≤ 2513169434843 ∧ x.args.length < cap ∧
    (∀ i (h : i < x.args.length), w.cell? ⟨b, i * 4, none⟩ = some (.int .u8 (x.args[i].op : Int)) ∧ w.cell? ⟨b, i * 4 + 1, none⟩ = some (.int .i64 x.args[i].n) ∧ w.cell? ⟨b, i * 4 + 2, none⟩ = some (.string x.args[i].name) ∧ w.cell? ⟨b, i * 4 + 3, none⟩ = some (sl i)) ∧
    (w.cell? ⟨b, x.args.length * 4, none⟩ = some (.int .u8 0) ∧ w.cell? ⟨b, x.args.length * 4 + 1, none⟩ = some (.int .i64 0) ∧ w.cell? ⟨b, x.args.length * 4 + 2, none⟩ = some (.string spare) ∧ w.cell? ⟨b, x.args.length * 4 + 3, none⟩ = some (.slice none 0 0)) ∧ ∀ i (h : i < x.args.length), TwN w lo k x.args[i] (sl i)
theorem TwN.up {w : World} {lo : Nat} : ∀ (k' k : Nat) (x : Ex) (s : Value), TwN w lo k x s → SizeOf.sizeOf x ≤ k' → TwN w lo k' x s
  | 0, k, x, s, _, hs => by have := x.pos; omega
  | k' + 1, 0, x, s, h, _ => h.elim
  | k' + 1, k + 1, x, s, h, hs => by
    obtain ⟨b, cap, sl, h1, h2, h3, h4, h5, h6, h7, h8, h9, h10⟩ := h
    exact ⟨b, cap, sl, h1, h2, h3, h4, h5, h6, h7, h8, h9, fun i hi => TwN.up k' k _ _ (h10 i hi) (by have := x.part_lt i hi; omega)⟩
/-- A twin in memory, in blocks from some one on. -/
def Tw (w : World) (lo : Nat) (x : Ex) (s : Value) : Prop := TwN w lo (SizeOf.sizeOf x) x s
theorem Tw.intro {w : World} {lo : Nat} (x : Ex) (b cap : Nat) (sl : Nat → Value) (hlo : lo ≤ b) (hop : x.op < 256) (hn : -9223372036854775808 ≤ x.n ∧ x.n ≤ 9223372036854775807) (hnm : x.name.size ≤ 140737488355328) (hlen : x.args.length ≤ 2513169434843) (hcap : x.args.length < cap)
      (hc : ∀ i (h : i < x.args.length), w.cell? ⟨b, i * 4, none⟩ = some (.int .u8 (x.args[i].op : Int)) ∧ w.cell? ⟨b, i * 4 + 1, none⟩ = some (.int .i64 x.args[i].n) ∧ w.cell? ⟨b, i * 4 + 2, none⟩ = some (.string x.args[i].name) ∧ w.cell? ⟨b, i * 4 + 3, none⟩ = some (sl i))
      (hsp : w.cell? ⟨b, x.args.length * 4, none⟩ = some (.int .u8 0) ∧ w.cell? ⟨b, x.args.length * 4 + 1, none⟩ = some (.int .i64 0) ∧ w.cell? ⟨b, x.args.length * 4 + 2, none⟩ = some (.string spare) ∧ w.cell? ⟨b, x.args.length * 4 + 3, none⟩ = some (.slice none 0 0))
      (hs : ∀ i (h : i < x.args.length), Tw w lo x.args[i] (sl i)) : Tw w lo x (.slice (some ⟨b, 0, none⟩) x.args.length cap) := by
  unfold Tw
  obtain ⟨m, hm⟩ : ∃ m, SizeOf.sizeOf x = m + 1 := ⟨SizeOf.sizeOf x - 1, by have := x.pos; omega⟩
  rw [hm]
  exact ⟨b, cap, sl, rfl, hlo, hop, hn, hnm, hlen, hcap, hc, hsp, fun i hi => TwN.up m _ _ _ (hs i hi) (by have := x.part_lt i hi; omega)⟩
theorem Tw.full {w : World} {lo : Nat} {x : Ex} {s : Value} (h : Tw w lo x s) : ∃ (b cap : Nat) (sl : Nat → Value), s = .slice (some ⟨b, 0, none⟩) x.args.length cap ∧ lo ≤ b ∧ x.op < 256 ∧ (-9223372036854775808 ≤ x.n ∧ x.n ≤ 9223372036854775807) ∧ x.name.size ≤ 140737488355328 ∧ x.args.length ≤ 2513169434843 ∧ x.args.length < cap ∧
    (∀ i (h : i < x.args.length), w.cell? ⟨b, i * 4, none⟩ = some (.int .u8 (x.args[i].op : Int)) ∧ w.cell? ⟨b, i * 4 + 1, none⟩ = some (.int .i64 x.args[i].n) ∧ w.cell? ⟨b, i * 4 + 2, none⟩ = some (.string x.args[i].name) ∧ w.cell? ⟨b, i * 4 + 3, none⟩ = some (sl i)) ∧
    (w.cell? ⟨b, x.args.length * 4, none⟩ = some (.int .u8 0) ∧ w.cell? ⟨b, x.args.length * 4 + 1, none⟩ = some (.int .i64 0) ∧ w.cell? ⟨b, x.args.length * 4 + 2, none⟩ = some (.string spare) ∧ w.cell? ⟨b, x.args.length * 4 + 3, none⟩ = some (.slice none 0 0)) ∧ ∀ i (h : i < x.args.length), Tw w lo x.args[i] (sl i) := by
  unfold Tw at h
  obtain ⟨m, hm⟩ : ∃ m, SizeOf.sizeOf x = m + 1 := ⟨SizeOf.sizeOf x - 1, by have := x.pos; omega⟩
  rw [hm] at h
  obtain ⟨b, cap, sl, h1, h2, h3, h4, h5, h6, h7, h8, h9, h10⟩ := h
  exact ⟨b, cap, sl, h1, h2, h3, h4, h5, h6, h7, h8, h9, fun i hi => TwN.up _ m _ _ (h10 i hi) (Nat.le_refl _)⟩
theorem Tw.carryN {w w' : World} {lo lo' : Nat} (hb : ∀ b, lo ≤ b → b < w.heap.size → w'.heap[b]? = w.heap[b]?) (hl : lo' ≤ lo) : ∀ (m : Nat) (x : Ex) (s : Value), SizeOf.sizeOf x ≤ m → Tw w lo x s → Tw w' lo' x s
  | 0, x, s, hm, _ => by have := x.pos; omega
  | m + 1, x, s, hm, h => by
    obtain ⟨b, cap, sl, rfl, hlo, hop, hn, hnm, hlen, hcap, hc, hsp, hs⟩ := h.full
    have hk : ∀ {o v}, w.cell? ⟨b, o, none⟩ = some v → w'.cell? ⟨b, o, none⟩ = some v := fun {o v} h => by
      have hlt := World.block_lt_of_cell? w _ h
      rw [World.cell?_of_block (w := w) (a := ⟨b, o, none⟩) (hb b hlo hlt)]
      exact h
    refine Tw.intro x b cap sl (by omega) hop hn hnm hlen hcap (fun i hi => ?_) ⟨hk hsp.1, hk hsp.2.1, hk hsp.2.2.1, hk hsp.2.2.2⟩ (fun i hi => Tw.carryN hb hl m _ _ (by have := x.part_lt i hi; omega) (hs i hi))
    obtain ⟨h0, h1, h2, h3⟩ := hc i hi
    exact ⟨hk h0, hk h1, hk h2, hk h3⟩
theorem Tw.carry {w w' : World} {lo : Nat} {x : Ex} {s : Value} (h : Tw w lo x s) (hb : ∀ b, lo ≤ b → b < w.heap.size → w'.heap[b]? = w.heap[b]?) : Tw w' lo x s := Tw.carryN hb (Nat.le_refl _) _ x s (Nat.le_refl _) h
theorem Tw.keep {w w' : World} {lo : Nat} {x : Ex} {s : Value} (h : Tw w lo x s) (hb : Below w.heap.size w w') : Tw w' lo x s := h.carry fun b _ hlt => hb.block b hlt
theorem Tw.grown {w w' : World} {lo g : Nat} {x : Ex} {s : Value} (h : Tw w lo x s) (hg : w.grownBy w' (some g)) (hlt : g < lo) : Tw w' lo x s := h.carry fun b hb hl => hg.block b hl (fun e => by cases e; omega)
theorem Tw.low {w : World} {lo lo' : Nat} {x : Ex} {s : Value} (h : Tw w lo x s) (hl : lo' ≤ lo) : Tw w lo' x s := Tw.carryN (fun _ _ _ => rfl) hl _ x s (Nat.le_refl _) h
theorem Tw.stN {w : World} {lo : Nat} : ∀ (m : Nat) (x : Ex) (s : Value), SizeOf.sizeOf x ≤ m → Tw w lo x s → St w x s
  | 0, x, s, hm, _ => by have := x.pos; omega
  | m + 1, x, s, hm, h => by
    obtain ⟨b, cap, sl, rfl, hlo, hop, hn, hnm, hlen, hcap, hc, hsp, hs⟩ := h.full
    exact St.intro x _ cap sl hop hn hnm hlen (by omega) (.inr ⟨b, 0, rfl, fun i hi => by simpa using hc i hi⟩) (fun i hi => Tw.stN m _ _ (by have := x.part_lt i hi; omega) (hs i hi))
theorem Tw.st {w : World} {lo : Nat} {x : Ex} {s : Value} (h : Tw w lo x s) : St w x s := Tw.stN _ x s (Nat.le_refl _) h
/-- The cells of parts, each with where its own lie. -/
def pairV (p : Ex × Value) : List Value := [.int .u8 (p.1.op : Int), .int .i64 p.1.n, .string p.1.name, p.2]
def pairsV (ps : List (Ex × Value)) : List Value := ps.flatMap pairV
theorem pairsV_len (ps : List (Ex × Value)) : (pairsV ps).length = ps.length * 4 := by
  induction ps with
  | nil => rfl
  | cons p ps ih => simp only [pairsV, List.flatMap_cons, List.length_append, List.length_cons] at ih ⊢; rw [ih]; simp [pairV]; omega
theorem pairsV_app (ps qs : List (Ex × Value)) : pairsV (ps ++ qs) = pairsV ps ++ pairsV qs := by simp [pairsV]
theorem pairsV_at (ps : List (Ex × Value)) (rest : List Value) : ∀ (i : Nat) (h : i < ps.length), (pairsV ps ++ rest)[i * 4]? = some (.int .u8 (ps[i].1.op : Int)) ∧ (pairsV ps ++ rest)[i * 4 + 1]? = some (.int .i64 ps[i].1.n) ∧ (pairsV ps ++ rest)[i * 4 + 2]? = some (.string ps[i].1.name) ∧ (pairsV ps ++ rest)[i * 4 + 3]? = some ps[i].2 := by
  induction ps with
  | nil => intro i h; cases h
  | cons p ps ih =>
    intro i h
    have e : pairsV (p :: ps) ++ rest = pairV p ++ (pairsV ps ++ rest) := by simp [pairsV]
    rw [e]
    cases i with
    | zero => exact ⟨rfl, rfl, rfl, rfl⟩
    | succ i =>
      have h' : i < ps.length := by simpa using h
      have hs : ∀ j, (pairV p ++ (pairsV ps ++ rest))[(i + 1) * 4 + j]? = (pairsV ps ++ rest)[i * 4 + j]? := fun j => by
        rw [List.getElem?_append_right (by simp [pairV]; omega)]
        congr 1
        simp [pairV]; omega
      have := ih i h'
      refine ⟨?_, ?_, ?_, ?_⟩
      · rw [← Nat.add_zero ((i + 1) * 4), hs 0]; exact this.1
      · rw [hs 1]; exact this.2.1
      · rw [hs 2]; exact this.2.2.1
      · rw [hs 3]; exact this.2.2.2
def TwinC (x : Ex) : Prop := ∀ (w : World) (s : Value), St w x s → Calls Tryd.prog 8 #[exV x s] w fun e w' => ∃ s', e = .returned (exV x s') ∧ Tw w' w.heap.size x s' ∧ Below w.heap.size w w'
theorem info25' : (Tryd.prog.info? 25).map (fun i => (i.zero, i.size, i.bytes)) = some (some (.agg #[.int .u8 0, .int .i64 0, .string ByteArray.empty, .slice none 0 0]), 4, 56) := by kernel_rfl
/-- While the twin's row is made. -/
structure Mk (w : World) (x : Ex) (k : Nat) (ps : List (Ex × Value)) (W : World) : Prop where
  below : Below w.heap.size w W
  row : W.ownsRow w.heap.size 25 4 (.slice (some ⟨w.heap.size, 0, none⟩) k (x.args.length + 1)) k (pairsV ps)
  len : ps.length = k
  fst : ps.map (·.1) = x.args.take k
  parts : ∀ p ∈ ps, Tw W (w.heap.size + 1) p.1 p.2
  size : w.heap.size < W.heap.size
theorem Mk.step {w W W' : World} {x : Ex} {k : Nat} {ps : List (Ex × Value)} (h : Mk w x k ps W) (hb : Below W.heap.size W W') : Mk w x k ps W' :=
  ⟨bstep h.below hb, by
    have hr := h.row
    refine ⟨hr.1, ?_⟩
    rcases hr.2 with hn | ⟨g, cap, cur, e, hg0, hg, rest⟩
    · exact .inl hn
    · exact .inr ⟨g, cap, cur, e, hg0, (hb.block g (Array.getElem?_eq_some_iff.1 hg).1).trans hg, rest⟩, h.len, h.fst, fun p hp => (h.parts p hp).keep hb, Nat.lt_of_lt_of_le h.size hb.size⟩
theorem Mk.grow {w W W' : World} {x y : Ex} {k : Nat} {ps : List (Ex × Value)} {s : Value} (h : Mk w x k ps W) (hk : k < x.args.length) (hy : x.args[k] = y) (hT : Tw W (w.heap.size + 1) y s)
    (hr : W'.ownsRow w.heap.size 25 4 (.slice (some ⟨w.heap.size, 0, none⟩) (k + 1) (x.args.length + 1)) (k + 1) (pairsV ps ++ pairV (y, s))) (hg : W.grownBy W' (some w.heap.size)) : Mk w x (k + 1) (ps ++ [(y, s)]) W' where
  below := h.below.grown hg h.below.size (fun j hj => by cases hj; exact Nat.le_refl _)
  row := by rw [pairsV_app]; simpa [pairsV] using hr
  len := by simp [h.len]
  fst := by rw [List.map_append, h.fst, List.take_succ_eq_append_getElem hk, hy]; rfl
  parts := fun p hp => by
    rcases List.mem_append.1 hp with hp | hp
    · exact (h.parts p hp).grown hg (by omega)
    · rw [List.mem_singleton.1 hp]; exact hT.grown hg (by omega)
  size := Nat.lt_of_lt_of_le h.size hg.size
theorem four_next (w : World) (a b c d : Value) : ∀ j u, [a, b, c, d][j]? = some u → (w.alloc (.cells #[a, b, c, d] 25)).cell? ((⟨w.heap.size, 0, none⟩ : Addr).add j) = some u := by
  intro j u hj
  have hadd : (⟨w.heap.size, 0, none⟩ : Addr).add j = ⟨w.heap.size, j, none⟩ := by unfold Addr.add; split <;> simp_all
  rw [hadd, World.cell?_alloc_at _ _ _ _ rfl]
  simpa using hj
end Go.Proofs.YtkieljleopbhoaaDoor.Lex
namespace Go.Proofs.YtkieljleopbhoaaDoor.Lex
open Go.ChangeShapes Go.WideShapes Go.ChangeAt Go.RowKit Go.Joins
theorem Mk.done {w W W' : World} {x : Ex} {ps : List (Ex × Value)} (h : Mk w x x.args.length ps W) (hop : x.op < 256) (hn : -9223372036854775808 ≤ x.n ∧ x.n ≤ 9223372036854775807) (hnm : x.name.size ≤ 140737488355328) (hlen : x.args.length ≤ 2513169434843)
    (hr : W'.ownsRow w.heap.size 25 4 (.slice (some ⟨w.heap.size, 0, none⟩) (x.args.length + 1) (x.args.length + 1)) (x.args.length + 1) (pairsV ps ++ [.int .u8 0, .int .i64 0, .string spare, .slice none 0 0])) (hg : W.grownBy W' (some w.heap.size)) :
    Tw W' w.heap.size x (.slice (some ⟨w.heap.size, 0, none⟩) x.args.length (x.args.length + 1)) := by
  have hl := h.len
  have hf : ps.map (·.1) = x.args := by rw [h.fst, List.take_length]
  have hfst : ∀ i (hi : i < ps.length), ps[i].1 = x.args[i]'(by omega) := fun i hi => by
    have : (ps.map (·.1))[i]'(by simpa using hi) = x.args[i]'(by omega) := by simp only [hf]
    simpa using this
  refine Tw.intro x w.heap.size (x.args.length + 1) (fun i => (ps[i]?.map (·.2)).getD (.slice none 0 0)) (Nat.le_refl _) hop hn hnm hlen (by omega) (fun i hi => ?_) ?_ (fun i hi => ?_)
  · obtain ⟨q0, q1, q2, q3⟩ := pairsV_at ps [.int .u8 0, .int .i64 0, .string spare, .slice none 0 0] i (by omega)
    rw [hfst i (by omega)] at q0 q1 q2
    refine ⟨?_, ?_, ?_, ?_⟩
    · rw [hr.cellAt _ (by omega)]; exact q0
    · rw [hr.cellAt _ (by omega)]; exact q1
    · rw [hr.cellAt _ (by omega)]; exact q2
    · rw [hr.cellAt _ (by omega), q3, List.getElem?_eq_getElem (by omega)]; rfl
  · have hs : ∀ j, j < 4 → (pairsV ps ++ [.int .u8 0, .int .i64 0, .string spare, .slice none 0 0])[x.args.length * 4 + j]? = ([.int .u8 0, .int .i64 0, .string spare, .slice none 0 0] : List Value)[j]? := fun j hj => by
      rw [List.getElem?_append_right (by rw [pairsV_len]; omega), pairsV_len, hl]
      congr 1
      omega
    refine ⟨?_, ?_, ?_, ?_⟩
    · rw [hr.cellAt _ (by omega), ← Nat.add_zero (x.args.length * 4), hs 0 (by omega)]; rfl
    · rw [hr.cellAt _ (by omega), hs 1 (by omega)]; rfl
    · rw [hr.cellAt _ (by omega), hs 2 (by omega)]; rfl
    · rw [hr.cellAt _ (by omega), hs 3 (by omega)]; rfl
  · have hip : i < ps.length := by omega
    have := (h.parts ps[i] (List.getElem_mem hip)).grown hg (by omega)
    rw [hfst i hip] at this
    rw [List.getElem?_eq_getElem hip]
    exact this.low (by omega)
theorem Mk.start {w w1 : World} (x : Ex) (hown : w1.ownsRow w.heap.size 25 4 (.slice (some ⟨w.heap.size, 0, none⟩) 0 (x.args.length + 1)) 0 []) (hg : w.grownBy w1 none) : Mk w x 0 [] w1 where
  below := (Below.refl _ _).grown hg (Nat.le_refl _) (fun k hk => by cases hk)
  row := hown
  len := rfl
  fst := rfl
  parts := fun p hp => by cases hp
  size := by
    rcases hown.2 with ⟨h, _⟩ | ⟨g, c, cur, e, _, hh, _⟩
    · cases h
    · injection e with e1 _ _
      injection e1 with e1
      injection e1 with e1 _ _
      subst e1
      exact (Array.getElem?_eq_some_iff.1 hh).1
set_option maxRecDepth 100000 in
set_option maxHeartbeats 2000000 in
theorem twins (x : Ex) (ih : ∀ i (h : i < x.args.length), TwinC x.args[i]) (w : World) (s : Value) (hS : St w x s) :
    Calls Tryd.prog 24 #[s] w fun e w' => ∃ s', e = .returned s' ∧ Tw w' w.heap.size x s' ∧ Below w.heap.size w w' := by
  obtain ⟨ao, cap, sl, rfl, hop, hn, hnm, hlen, _, hc, hs⟩ := hS.out
  have HS := hid hs
  have HC := hid hc
  have HI := hid ih
  have HN := hid hn
  obtain ⟨i0, hi, hi0, hi1, hi2⟩ := info_parts info25'
  clear hs hc ih hS hn
  go_enter Tryd.func24, Tryd.ntmps24
  go_wp2_with (at_make; refine wpList_make_own w rfl (.const (.int .i64 0)) (.tmp 7) 23 rfl w.heap.size 25 i0 _ 4 Tryd.underlying23 hi hi0 hi1 .i64 .i64 _ (x.args.length + 1) rfl rfl (by omega) (by rw [hi2]; omega) (by unfold maxLen; omega) (Nat.le_refl _) ?_; intro w1 hown1 hgrow1; have M1 := hid (Mk.start x hown1 hgrow1); clear hown1 hgrow1)
  go_loopw [3, 4] (fun v i wr => ∃ (k : Nat) (ps : List (Ex × Value)), k ≤ x.args.length ∧ v = .slice (some ⟨w.heap.size, 0, none⟩) k (x.args.length + 1) ∧ i = .int .i64 (k : Int) ∧ Hid (Mk w x k ps wr)) (fun _ i _ => x.args.length - (intOf i).toNat)
  case atStart => exact ⟨0, [], Nat.zero_le _, rfl, rfl, M1⟩
  case round =>
    obtain ⟨k, ps, hk, rfl, rfl, hM⟩ := hrel
    by_cases hlt : k < x.args.length
    · have hlt' : (k : Int) < (x.args.length : Int) := by omega
      have hk0 : (0 : Int) ≤ (k : Int) := by omega
      obtain ⟨bb, o, rfl, hcc⟩ := HC.out.resolve_left (by omega)
      obtain ⟨a0, a1, a2, a3⟩ := hcc k hlt
      have v0 := cell_kept a0 hM.out.below
      have v1 := cell_kept a1 hM.out.below
      have v2 := cell_kept a2 hM.out.below
      have v3 := cell_kept a3 hM.out.below
      have c := HI.out k hlt wr (sl k) ((HS.out k hlt).keep hM.out.below)
      obtain ⟨y, hy⟩ : ∃ y, x.args[k] = y := ⟨_, rfl⟩
      rw [hy] at v0 v1 v2 c
      have HY := hid hy
      clear a0 a1 a2 a3 hcc hy
      go_wp2_with (first
        | (go_at_call 8; refine c.mono ?_; rintro e w2 ⟨s2, rfl, ht2, hb2⟩; obtain ⟨b2, c2, _, rfl, _⟩ := ht2.st.out; have T2 := hid (ht2.keep ((Below.refl _ _).alloc (Nat.le_refl _) (.cells #[.int .u8 (y.op : Int), .int .i64 y.n, .string y.name, .slice b2 y.args.length c2] 25))); have M2 := hid ((hM.out.step hb2).step ((Below.refl _ _).alloc (Nat.le_refl _) (.cells #[.int .u8 (y.op : Int), .int .i64 y.n, .string y.name, .slice b2 y.args.length c2] 25))); have N2 := hid (four_next w2 (.int .u8 (y.op : Int)) (.int .i64 y.n) (.string y.name) (.slice b2 y.args.length c2)); have SZ := hid hM.out.size; clear c ht2 hb2)
        | (at_builtin; refine wpList_append_fits _ rfl (.tmp 15) (.tmp 21) 23 rfl w.heap.size 25 i0 4 Tryd.underlying23 hi hi1 w.heap.size k (x.args.length + 1) (pairsV ps) rfl M2.out.row ⟨w2.heap.size, 0, none⟩ 1 1 (pairV (y, .slice b2 y.args.length c2)) rfl rfl N2.out (by simp [pairV, Value.oneCell']) (by omega) ?_; intro w4 hown4 hgrow4; have M4 := hid (M2.out.grow hlt HY.out (T2.out.low (by have := SZ.out; omega)) hown4 hgrow4); clear hown4 hgrow4))
      go_roundw
      case rel => exact ⟨k + 1, _, by omega, rfl, by go_num, M4⟩
      case measure => simp [intOf]; omega
    · have hlt' : ¬ (k : Int) < (x.args.length : Int) := by omega
      obtain rfl : k = x.args.length := by omega
      have M2 := hid (hM.out.step ((Below.refl _ _).alloc (Nat.le_refl _) (.cells #[.int .u8 0, .int .i64 0, .string spare, .slice none 0 0] 25)))
      have N2 := hid (four_next wr (.int .u8 0) (.int .i64 0) (.string spare) (.slice none 0 0))
      go_wp2_with (at_builtin; refine wpList_append_fits _ rfl (.tmp 23) (.tmp 25) 23 rfl w.heap.size 25 i0 4 Tryd.underlying23 hi hi1 w.heap.size x.args.length (x.args.length + 1) (pairsV ps) rfl M2.out.row ⟨wr.heap.size, 0, none⟩ 1 1 [.int .u8 0, .int .i64 0, .string spare, .slice none 0 0] rfl rfl N2.out (by simp [Value.oneCell']) (by omega) ?_; intro w4 hown4 hgrow4; have T4 := hid (M2.out.done hop HN.out hnm hlen hown4 hgrow4); have B4 := hid (M2.out.below.grown hgrow4 M2.out.below.size (fun j hj => by cases hj; exact Nat.le_refl _)); clear hown4 hgrow4)
      go_ret
      exact ⟨_, rfl, T4.out, B4.out⟩
end Go.Proofs.YtkieljleopbhoaaDoor.Lex
