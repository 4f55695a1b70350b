/-
  Contracts of TwinValues (a copy in new memory, a mark behind it), LeftValues (the copy is as it was made) and Beyond.
-/
import Derived.Test.YtkniacdfhajogaaDo
import Derived.OwnWalk
import Derived.Laws.OwnMore
import Derived.Deep.QuietTactic
import Derived.BigQuiet
namespace Go.Proofs.Ytkniacdfhajogaa.Val
open Go.ChangeShapes Go.WideShapes Go.ChangeAt Go.RowKit Go.Joins
set_option maxHeartbeats 1000000
/-- The cells of values in a row. -/
def cellsOf : List Vl → List Value
  | [] => []
  | v :: l => .int .u8 (v.ty : Int) :: .int .i64 v.n :: cellsOf l
theorem cellsOf_snoc : ∀ (l : List Vl) (v : Vl), cellsOf (l ++ [v]) = cellsOf l ++ [.int .u8 (v.ty : Int), .int .i64 v.n]
  | [], _ => rfl
  | x :: l, v => by simp only [List.cons_append, cellsOf, cellsOf_snoc l v]
theorem cellsOf_at : ∀ (l : List Vl) (i : Nat) (h : i < l.length), (cellsOf l)[i * 2]? = some (.int .u8 (l[i].ty : Int)) ∧ (cellsOf l)[i * 2 + 1]? = some (.int .i64 l[i].n)
  | v :: l, 0, _ => ⟨rfl, rfl⟩
  | v :: l, i + 1, h => by
    have := cellsOf_at l i (by simpa using h)
    rw [Nat.succ_mul]
    exact this
theorem info28' : (Try.prog.info? 28).map (fun i => (i.zero, i.size, i.bytes)) = some (some (.agg #[.int .u8 0, .int .i64 0]), 2, 16) := by kernel_rfl
theorem add_off (b o n : Nat) : (⟨b, o, none⟩ : Addr).add n = ⟨b, o + n, none⟩ := by unfold Addr.add; split <;> simp_all
theorem news_at (wr : World) (v : Vl) : ∀ j u, [Value.int .u8 (v.ty : Int), Value.int .i64 v.n][j]? = some u → (wr.alloc (.cells (vC v) 28)).cell? ((⟨wr.heap.size, 0, none⟩ : Addr).add j) = some u := by
  intro j u h
  have X := heap_alloc_new wr (.cells (vC v) 28)
  rw [add_off, Nat.zero_add, cell_of_row _ _ _ _ 28 (0, 0) X]
  match j, h with
  | 0, h => exact h
  | 1, h => exact h
set_option maxRecDepth 100000 in
theorem twin_values (l : List Vl) (s : Value) (w : World) (hl : l.length ≤ 1048576) (hS : VSl w l s) :
    Calls Try.prog 5 #[s] w fun e w' => e = .returned (.slice (some ⟨w.heap.size, 0, none⟩) l.length (l.length + 1)) ∧ VAt w' w.heap.size 0 (l ++ [⟨0, -77⟩]) ∧ Below w.heap.size w w' := by
  obtain ⟨ao, cap, rfl, _, hv⟩ := hS
  have HV := hid hv
  obtain ⟨i0, hi, hi0, hi1, hi2⟩ := info_parts info28'
  clear hv
  go_enter Try.func5, Try.ntmps5
  go_wp2_with (at_make; refine wpList_make_own w rfl (.const (.int .i64 0)) (.tmp 7) 23 rfl w.heap.size 28 i0 _ 2 Try.underlying23 hi hi0 hi1 .i64 .i64 _ (l.length + 1) rfl rfl (by omega) (by rw [hi2]; omega) (by unfold maxLen; omega) (Nat.le_refl _) ?_; intro w1 hown1 hgrow1; have O1 := hid hown1; have B1 := hid ((Below.refl w.heap.size w).grown hgrow1 (Nat.le_refl _) (fun k h => by cases h)); clear hown1 hgrow1)
  go_loopw [3, 4] (fun v i wr => ∃ (k : Nat), k ≤ l.length ∧ v = .slice (some ⟨w.heap.size, 0, none⟩) k (l.length + 1) ∧ i = .int .i64 (k : Int) ∧ Hid (wr.ownsRow w.heap.size 28 2 (.slice (some ⟨w.heap.size, 0, none⟩) k (l.length + 1)) k (cellsOf (l.take k))) ∧ Hid (Below w.heap.size w wr)) (fun _ i _ => l.length - (intOf i).toNat)
  case atStart => exact ⟨0, Nat.zero_le _, rfl, rfl, O1, B1⟩
  case round =>
    obtain ⟨k, hk, rfl, rfl, hO, hB⟩ := hrel
    by_cases hlt : k < l.length
    · have hlt' : (k : Int) < (l.length : Int) := by omega
      have hk0 : (0 : Int) ≤ (k : Int) := by omega
      obtain ⟨bb, o, rfl, hcc⟩ := HV.out.resolve_left (by omega)
      obtain ⟨v0, v1⟩ := (hcc.keep hB.out) k hlt
      have HT : Hid (cellsOf (l.take (k + 1)) = cellsOf (l.take k) ++ [.int .u8 (l[k].ty : Int), .int .i64 l[k].n]) := hid (by rw [List.take_succ_eq_append_getElem hlt, cellsOf_snoc])
      clear hcc
      generalize l[k] = y at *
      generalize cellsOf (l.take k) = es at *
      have O2 := hid (hO.out.alloc (.cells (vC y) 28))
      have B2 := hid (hB.out.alloc hB.out.size (.cells (vC y) 28))
      have N2 := hid (news_at wr y)
      go_wp2_with (at_builtin; refine wpList_append_fits _ rfl (.tmp 15) (.tmp 20) 23 rfl w.heap.size 28 i0 2 Try.underlying23 hi hi1 w.heap.size k (l.length + 1) es rfl O2.out ⟨wr.heap.size, 0, none⟩ 1 1 [.int .u8 (y.ty : Int), .int .i64 y.n] rfl rfl N2.out (by simp [Value.oneCell']) (by omega) ?_; intro w4 hown4 hgrow4; have O4 := hid hown4; have B4 := hid (B2.out.grown hgrow4 B2.out.size (fun j hj => by cases hj; exact Nat.le_refl _)); clear hown4 hgrow4)
      go_roundw
      case rel => exact ⟨k + 1, by omega, rfl, by go_num, hid (by rw [HT.out]; exact O4.out), B4⟩
      case measure => simp [intOf]; omega
    · have hlt' : ¬ (k : Int) < (l.length : Int) := by omega
      obtain rfl : k = l.length := by omega
      rw [List.take_length] at hO
      have O2 := hid (hO.out.alloc (.cells (vC ⟨0, -77⟩) 28))
      have B2 := hid (hB.out.alloc hB.out.size (.cells (vC ⟨0, -77⟩) 28))
      have N2 := hid (news_at wr ⟨0, -77⟩)
      have HC : Hid (cellsOf (l ++ [⟨0, -77⟩]) = cellsOf l ++ [.int .u8 0, .int .i64 (-77)]) := hid (cellsOf_snoc l ⟨0, -77⟩)
      generalize hes : cellsOf l = es at *
      clear hes
      go_wp2_with (at_builtin; refine wpList_append_fits _ rfl (.tmp 22) (.tmp 24) 23 rfl w.heap.size 28 i0 2 Try.underlying23 hi hi1 w.heap.size l.length (l.length + 1) es rfl O2.out ⟨wr.heap.size, 0, none⟩ 1 1 [.int .u8 0, .int .i64 (-77)] rfl rfl N2.out (by simp [Value.oneCell']) (by omega) ?_; intro w4 hown4 hgrow4; have O4 := hid hown4; have B4 := hid (B2.out.grown hgrow4 B2.out.size (fun j hj => by cases hj; exact Nat.le_refl _)); clear hown4 hgrow4)
      go_ret
      refine ⟨rfl, fun i hi' => ?_, B4.out⟩
      have hi2' : i < l.length + 1 := by simpa using hi'
      have h1 := O4.out.cellAt (i * 2) (by omega)
      have h2 := O4.out.cellAt (i * 2 + 1) (by omega)
      rw [← HC.out] at h1 h2
      rw [Nat.zero_add, h1, h2]
      exact cellsOf_at _ i hi'
end Go.Proofs.Ytkniacdfhajogaa.Val
