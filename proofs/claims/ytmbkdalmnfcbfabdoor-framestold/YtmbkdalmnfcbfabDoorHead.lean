/-
  The table of widths; isStation; the parts of a frame ahead of its Payload, as they are read.
-/
import Derived.Test.YtmbkdalmnfcbfabDoorPen
import Derived.Test.YtmbkdalmnfcbfabDoorFrame
import Derived.Test.YtmbkdalmnfcbfabDoorSum
import Derived.Deep.RegionHeld3
import Derived.Laws.ResultCell
import Derived.Laws.Rows
namespace Go.Proofs.YtmbkdalmnfcbfabDoor.Bits
open Go.ChangeShapes Go.WideShapes Go.ChangeAt Go.RowKit Go.Shelf
/-- The package's table of widths stands as it is laid. -/
def Wid (w : World) : Prop := ∀ i, i < 6 → w.cell? ⟨0, i, none⟩ = some (.int .i64 (K5 i : Int))
theorem Wid.below {w w' : World} (h : Wid w) (hb : Below w.heap.size w w') : Wid w' := fun i hi =>
  (hb.cell (World.block_lt_of_cell? w _ (h i hi))).trans (h i hi)
theorem Wid.pos {w : World} (h : Wid w) : 0 < w.heap.size := World.block_lt_of_cell? w _ (h 0 (by decide))
theorem isStation (n : Int) (w : World) : Calls Tryd.prog 21 #[.int .i64 n] w fun e w' => e = .returned (.bool (decide (1 ≤ n ∧ n ≤ 8))) ∧ w' = w := by
  by_cases h1 : 1 ≤ n
  · go_enter Tryd.func21, Tryd.ntmps21
    go_wp2
    go_ret
    exact ⟨by simp [h1], rfl⟩
  · go_enter Tryd.func21, Tryd.ntmps21
    go_wp2
    go_ret
    have e : decide (1 ≤ n) = false := decide_eq_false (by omega)
    exact ⟨by simp [e], rfl⟩
/-- Where the parts begin. -/
def off5 (i : Nat) : Nat := [0, 4, 36, 44, 60, 72].getD i 0
def H5 (B : List Int) (i : Nat) : Nat := val (part B (off5 i) (K5 i))
def headRow (B : List Int) (j : Nat) : Array Value := ((List.range 6).map fun i => Value.int .u64 (if i < j then (H5 B i : Int) else 0)).toArray
theorem headRow_set (B : List Int) (j : Nat) (hj : j < 6) : (headRow B j).setIfInBounds j (.int .u64 (H5 B j : Int)) = headRow B (j + 1) := by
  rcases j with _ | _ | _ | _ | _ | _ | j
  all_goals first | rfl | omega
theorem off5_succ (j : Nat) (hj : j < 5) : off5 j + K5 j = off5 (j + 1) := by
  rcases j with _ | _ | _ | _ | _ | j
  all_goals first | rfl | omega
theorem off5_le (j : Nat) (hj : j < 5) : off5 (j + 1) ≤ 72 := by
  rcases j with _ | _ | _ | _ | _ | j
  all_goals first | decide | omega
theorem K5_le (j : Nat) : K5 j ≤ 32 := by
  rcases j with _ | _ | _ | _ | _ | _ | j
  all_goals first | decide | simp [K5]
theorem get_ok_c (s : Option Addr) (len cap : Nat) (B : List Int) (at_ k : Nat) (w : World) (hE : Elems w s len B) (hk : k ≤ 64) (hr : at_ + k ≤ 8 * len) (i j : Int) (hi : i = at_) (hj : j = k) :
    Calls Tryd.prog 10 #[.slice s len cap, .int .i64 i, .int .i64 j] w fun e w' => e = .returned (.tuple #[.int .u64 (val (part B at_ k) : Int), .int .i64 0]) ∧ Below w.heap.size w w' := by
  subst hi hj
  exact get_ok s len cap B at_ k w hE hk hr
theorem row6 {w : World} {b : Nat} {x0 x1 x2 x3 x4 x5 : Value} (h : w.heap[b]? = some (.cells #[x0, x1, x2, x3, x4, x5] 55 (0, 0))) :
    w.cell? ⟨b, 0, none⟩ = some x0 ∧ w.cell? ⟨b, 1, none⟩ = some x1 ∧ w.cell? ⟨b, 2, none⟩ = some x2 ∧ w.cell? ⟨b, 3, none⟩ = some x3 ∧ w.cell? ⟨b, 4, none⟩ = some x4 ∧ w.cell? ⟨b, 5, none⟩ = some x5 := by
  refine ⟨?_, ?_, ?_, ?_, ?_, ?_⟩ <;> rw [cell_of_row w b _ _ 55 (0, 0) h] <;> rfl
theorem row_kept {w w' : World} {b : Nat} {o : Obj} (h : w.heap[b]? = some o) (hb : Below w.heap.size w w') : w'.heap[b]? = some o :=
  (hb.block b (Array.getElem?_eq_some_iff.1 h).1).trans h
theorem row_at {w : World} {b i : Nat} {c : Array Value} {t : TypeId} (h : w.heap[b]? = some (.cells c t (0, 0))) (hi : i < c.size) : ∃ old, w.cell? ⟨b, i, none⟩ = some old ∧ w.frozen? ⟨b, i, none⟩ = false :=
  ⟨c[i], by rw [cell_of_row w b i c t (0, 0) h]; simp [hi], frozen_of_row _ _ _ _ _ h⟩
theorem set6 {w : World} {b : Nat} {c : Array Value} {t : TypeId} (h : w.heap[b]? = some (.cells c t (0, 0))) (hc : c.size = 6) (x0 x1 x2 x3 x4 x5 : Value) :
    ((((((w.setCell ⟨b, 0, none⟩ x0).setCell ⟨b, 1, none⟩ x1).setCell ⟨b, 2, none⟩ x2).setCell ⟨b, 3, none⟩ x3).setCell ⟨b, 4, none⟩ x4).setCell ⟨b, 5, none⟩ x5).heap[b]? = some (.cells #[x0, x1, x2, x3, x4, x5] t (0, 0)) := by
  rw [heap_set_same (heap_set_same (heap_set_same (heap_set_same (heap_set_same (heap_set_same h 0 x0) 1 x1) 2 x2) 3 x3) 4 x4) 5 x5]
  obtain ⟨l⟩ := c
  match l, hc with
  | [_, _, _, _, _, _], _ => rfl
theorem below_set {B b : Nat} {a w : World} (h : Below B a w) (hb : B ≤ b) (i : Nat) (u : Value) : Below B a (w.setCell ⟨b, i, none⟩ u) := h.setCell (p := ⟨b, i, none⟩) hb u
theorem below_set6 {B b : Nat} {a w : World} (h : Below B a w) (hb : B ≤ b) (x0 x1 x2 x3 x4 x5 : Value) :
    Below B a ((((((w.setCell ⟨b, 0, none⟩ x0).setCell ⟨b, 1, none⟩ x1).setCell ⟨b, 2, none⟩ x2).setCell ⟨b, 3, none⟩ x3).setCell ⟨b, 4, none⟩ x4).setCell ⟨b, 5, none⟩ x5) :=
  below_set (below_set (below_set (below_set (below_set (below_set h hb 0 x0) hb 1 x1) hb 2 x2) hb 3 x3) hb 4 x4) hb 5 x5
set_option maxRecDepth 100000 in
/-- head: the five numbers, and a nought. -/
theorem head (s : Option Addr) (len cap : Nat) (B : List Int) (w : World) (hE : Elems w s len B) (hW : Wid w) (h9 : 9 ≤ len) :
    Calls Tryd.prog 20 #[.slice s len cap] w fun e w' => e = .returned (.agg #[.int .u64 (H5 B 0 : Int), .int .u64 (H5 B 1 : Int), .int .u64 (H5 B 2 : Int), .int .u64 (H5 B 3 : Int), .int .u64 (H5 B 4 : Int), .int .u64 0]) ∧ Below w.heap.size w w' := by
  go_enter Tryd.func20, Tryd.ntmps20
  go_wp2
  go_loopw [4, 6] (fun t i wr => ∃ j : Nat, j ≤ 5 ∧ i = .int .i64 j ∧ t = .int .i64 (off5 j : Int) ∧ wr.heap[w.heap.size + 1]? = some (.cells (headRow B j) 55 (0, 0)) ∧ (∃ c : Array Value, wr.heap[w.heap.size]? = some (.cells c 55 (0, 0)) ∧ c.size = 6) ∧ Below w.heap.size w wr) (fun _ i _ => 5 - (intOf i).toNat)
  case atStart =>
    refine ⟨0, by decide, rfl, rfl, ?_, ⟨_, (Below.heap_alloc _ _ _ (by simp)).trans (World.alloc_heap_new w _), rfl⟩, ((Below.refl _ _).alloc (Nat.le_refl _) _).alloc (by simp) _⟩
    have := World.alloc_heap_new (w.alloc (.cells #[.int .u64 0, .int .u64 0, .int .u64 0, .int .u64 0, .int .u64 0, .int .u64 0] 55)) (.cells #[.int .u64 0, .int .u64 0, .int .u64 0, .int .u64 0, .int .u64 0, .int .u64 0] 55)
    rw [World.size_alloc] at this
    exact this
  case round =>
    obtain ⟨j, hj, rfl, rfl, hN, hR, hb⟩ := hrel
    by_cases hlt : j < 5
    · have hwj := (hW.below hb) j (by omega)
      have hs := off5_succ j hlt
      have hle := off5_le j hlt
      have hk := K5_le j
      have hE1 := hE.below hb
      have hset : (headRow B j).setIfInBounds j (.int .u64 (val (part B (off5 j) (K5 j)) : Int)) = headRow B (j + 1) := headRow_set B j (by omega)
      have hrs : (headRow B j).size = 6 := by simp [headRow]
      rw [← hs] at hle
      have hs' : Hid (off5 j + K5 j = off5 (j + 1)) := hs
      have HN : Hid (wr.heap[w.heap.size + 1]? = some (.cells (headRow B j) 55 (0, 0))) := hN
      have HR : Hid (∃ c : Array Value, wr.heap[w.heap.size]? = some (.cells c 55 (0, 0)) ∧ c.size = 6) := hR
      have Hset : Hid ((headRow B j).setIfInBounds j (.int .u64 (val (part B (off5 j) (K5 j)) : Int)) = headRow B (j + 1)) := hset
      have hj0 : (0 : Int) ≤ (j : Int) := by omega
      have hj5 : (j : Int) < 5 := by omega
      have hj6 : (j : Int) < 6 := by omega
      clear hN hR hset hs
      generalize off5 j = t at hle Hset hs'
      generalize K5 j = k at hle Hset hs' hk hwj
      go_wp2_with (first
        | (go_at_call 10; refine (get_ok_c s len cap B t k wr hE1 (by omega) (by omega) t k rfl rfl).mono ?_; rintro e w6 ⟨rfl, hk6⟩; have HN6 : Hid (w6.heap[w.heap.size + 1]? = some (.cells (headRow B j) 55 (0, 0))) := row_kept HN.out hk6; obtain ⟨old, hold, hfr⟩ := row_at (i := j) HN6.out (by omega); have hb6 := bstep hb hk6; have hw6 := (hk6.cell (World.block_lt_of_cell? wr _ hwj)).trans hwj; have hwr : wr.heap.size ≤ w6.heap.size := hk6.size; have hR6 : Hid (∃ c : Array Value, w6.heap[w.heap.size]? = some (.cells c 55 (0, 0)) ∧ c.size = 6) := HR.out.imp fun c h => ⟨row_kept h.1 hk6, h.2⟩))
      go_roundw
      case rel =>
        refine ⟨j + 1, by omega, by go_num, ?_, ?_, ?_, hb6.setCell (by simp) _⟩
        · rw [← hs'.out]; go_num
        · rw [heap_set_same HN6.out, Hset.out]
        · exact hR6.out.imp fun c h => ⟨by rw [heap_set_other _ (by omega)]; exact h.1, h.2⟩
      case measure => simp [intOf]; omega
    · have hj5 : 5 = j := by omega
      subst hj5
      obtain ⟨c, hc, hcs⟩ := hR
      obtain ⟨h0, h1, h2, h3, h4, h5⟩ := row6 (x0 := .int .u64 (H5 B 0 : Int)) (x1 := .int .u64 (H5 B 1 : Int)) (x2 := .int .u64 (H5 B 2 : Int)) (x3 := .int .u64 (H5 B 3 : Int)) (x4 := .int .u64 (H5 B 4 : Int)) (x5 := .int .u64 0) hN
      obtain ⟨c0, hc0, hf0⟩ := row_at (i := 0) hc (by omega)
      obtain ⟨c1, hc1, hf1⟩ := row_at (i := 1) hc (by omega)
      obtain ⟨c2, hc2, hf2⟩ := row_at (i := 2) hc (by omega)
      obtain ⟨c3, hc3, hf3⟩ := row_at (i := 3) hc (by omega)
      obtain ⟨c4, hc4, hf4⟩ := row_at (i := 4) hc (by omega)
      obtain ⟨c5, hc5, hf5⟩ := row_at (i := 5) hc (by omega)
      have HC : Hid (wr.heap[w.heap.size]? = some (.cells c 55 (0, 0))) := hc
      clear hN hc
      go_wp2
      refine bodyPost_ret (results_cell_row rfl _ _ w.heap.size 55 #[.int .u64 (H5 B 0 : Int), .int .u64 (H5 B 1 : Int), .int .u64 (H5 B 2 : Int), .int .u64 (H5 B 3 : Int), .int .u64 (H5 B 4 : Int), .int .u64 0] (0, 0) _ rfl ?_ Tryd.underlying55 rfl (by kernel_rfl)) rfl ⟨rfl, ?_⟩
      · exact set6 HC.out hcs _ _ _ _ _ _
      · exact below_set6 hb (Nat.le_refl _) _ _ _ _ _ _
end Go.Proofs.YtmbkdalmnfcbfabDoor.Bits
