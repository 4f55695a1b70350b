/-
  The document's own size, and Check.
-/
import Derived.Test.YtkieljleopbhoaaDoorMany
namespace Go.Proofs.YtkieljleopbhoaaDoor.Lex
open Go.ChangeShapes Go.WideShapes Go.ChangeAt Go.RowKit Go.Joins
set_option linter.unusedVariables false
theorem below_drewN {B : Nat} {a w : World} (h : Below B a w) (n : Nat) : Below B a (w.drewN n) := h.trans ⟨rfl, rfl, rfl, Nat.le_refl _, fun _ _ => rfl⟩
/-- A size, below 0 if there is none. -/
def szI : Option Nat → Int
  | none => -1
  | some k => (k : Int)
def RSzC (d : Nat) : Prop := ∀ (x : Ex) (w : World) (s : Value) (M : Nat), M ≤ 200 → St w x s → Calls Tryd.prog 28 #[exV x s, .int .i64 (d : Int), .int .i64 (M : Int)] w fun e w' => e = .returned (.int .i64 (szI (sz d M x))) ∧ Below w.heap.size w w'
theorem inn {a b : Int} (h : a = b) : (a != b) = false := by simp [h]
theorem inq {a b : Int} (h : ¬ a = b) : (a != b) = true := by simp [h]
theorem drewN_zero (w : World) : w.drewN 0 = w := rfl
set_option maxRecDepth 100000 in
set_option maxHeartbeats 1000000 in
theorem rs_d0 (x : Ex) (ao : Option Addr) (cap : Nat) (D M : Int) (w : World) (hD : (D == 0) = true) : Calls Tryd.prog 28 #[exV x (.slice ao x.args.length cap), .int .i64 D, .int .i64 M] w fun e w' => e = .returned (.int .i64 (-1)) ∧ Below w.heap.size w w' := by
  go_enter Tryd.func28, Tryd.ntmps28
  go_wp2
  go_quiet ((go_at_call 49; exact Calls.quiet_of_same (many_any _ _)))
  go_wp2
  go_ret
  exact ⟨rfl, below_drewN ((Below.refl _ _).alloc (Nat.le_refl _) _) _⟩
set_option maxRecDepth 100000 in
set_option maxHeartbeats 1000000 in
theorem rs_m0 (x : Ex) (ao : Option Addr) (cap : Nat) (D M : Int) (w : World) (hD : (D == 0) = false) (hM : (M == 0) = true) : Calls Tryd.prog 28 #[exV x (.slice ao x.args.length cap), .int .i64 D, .int .i64 M] w fun e w' => e = .returned (.int .i64 (-1)) ∧ Below w.heap.size w w' := by
  go_enter Tryd.func28, Tryd.ntmps28
  go_wp2
  go_quiet ((go_at_call 49; exact Calls.quiet_of_same (many_any _ _)))
  go_wp2
  go_ret
  exact ⟨rfl, below_drewN ((Below.refl _ _).alloc (Nat.le_refl _) _) _⟩
set_option maxRecDepth 100000 in
set_option maxHeartbeats 1000000 in
theorem rs_mn (x : Ex) (ao : Option Addr) (cap : Nat) (D M : Int) (w : World) (hD : (D == 0) = false) (hM : (M == 0) = false) (hm : (manyI x.op != (x.args.length : Int)) = true) : Calls Tryd.prog 28 #[exV x (.slice ao x.args.length cap), .int .i64 D, .int .i64 M] w fun e w' => e = .returned (.int .i64 (-1)) ∧ Below w.heap.size w w' := by
  go_enter Tryd.func28, Tryd.ntmps28
  go_wp2
  go_quiet ((go_at_call 49; exact Calls.quiet_of_same (many_any _ _)))
  go_wp2
  go_ret
  exact ⟨rfl, below_drewN ((Below.refl _ _).alloc (Nat.le_refl _) _) _⟩
set_option maxRecDepth 100000 in
set_option maxHeartbeats 1000000 in
theorem rs_1a (x : Ex) (ao : Option Addr) (cap : Nat) (D M : Int) (w : World) (hD : (D == 0) = false) (hM : (M == 0) = false) (hm : (manyI x.op != (x.args.length : Int)) = false) (e1 : ((x.op : Int) == 1) = true) (h0 : x.n < 0) : Calls Tryd.prog 28 #[exV x (.slice ao x.args.length cap), .int .i64 D, .int .i64 M] w fun e w' => e = .returned (.int .i64 (-1)) ∧ Below w.heap.size w w' := by
  go_enter Tryd.func28, Tryd.ntmps28
  go_wp2
  go_quiet ((go_at_call 49; exact Calls.quiet_of_same (many_any _ _)))
  go_wp2
  go_ret
  exact ⟨rfl, below_drewN ((Below.refl _ _).alloc (Nat.le_refl _) _) _⟩
set_option maxRecDepth 100000 in
set_option maxHeartbeats 1000000 in
theorem rs_1b (x : Ex) (ao : Option Addr) (cap : Nat) (D M : Int) (w : World) (hD : (D == 0) = false) (hM : (M == 0) = false) (hm : (manyI x.op != (x.args.length : Int)) = false) (e1 : ((x.op : Int) == 1) = true) (h0 : ¬ x.n < 0) (he : x.name.toList.isEmpty = false) : Calls Tryd.prog 28 #[exV x (.slice ao x.args.length cap), .int .i64 D, .int .i64 M] w fun e w' => e = .returned (.int .i64 (-1)) ∧ Below w.heap.size w w' := by
  go_enter Tryd.func28, Tryd.ntmps28
  go_wp2
  go_quiet ((go_at_call 49; exact Calls.quiet_of_same (many_any _ _)))
  go_wp2
  go_ret
  exact ⟨rfl, below_drewN ((Below.refl _ _).alloc (Nat.le_refl _) _) _⟩
set_option maxRecDepth 100000 in
set_option maxHeartbeats 1000000 in
theorem rs_2a (x : Ex) (ao : Option Addr) (cap : Nat) (D M : Int) (w : World) (hD : (D == 0) = false) (hM : (M == 0) = false) (hm : (manyI x.op != (x.args.length : Int)) = false) (e1 : ((x.op : Int) == 1) = false) (e2 : ((x.op : Int) == 2) = true) (h0 : (x.n != 0) = true) (h1 : (x.n != 1) = true) : Calls Tryd.prog 28 #[exV x (.slice ao x.args.length cap), .int .i64 D, .int .i64 M] w fun e w' => e = .returned (.int .i64 (-1)) ∧ Below w.heap.size w w' := by
  go_enter Tryd.func28, Tryd.ntmps28
  go_wp2
  go_quiet ((go_at_call 49; exact Calls.quiet_of_same (many_any _ _)))
  go_wp2
  go_ret
  exact ⟨rfl, below_drewN ((Below.refl _ _).alloc (Nat.le_refl _) _) _⟩
set_option maxRecDepth 100000 in
set_option maxHeartbeats 1000000 in
theorem rs_2b (x : Ex) (ao : Option Addr) (cap : Nat) (D M : Int) (w : World) (hD : (D == 0) = false) (hM : (M == 0) = false) (hm : (manyI x.op != (x.args.length : Int)) = false) (e1 : ((x.op : Int) == 1) = false) (e2 : ((x.op : Int) == 2) = true) (h0 : (x.n != 0) = false) (he : x.name.toList.isEmpty = false) : Calls Tryd.prog 28 #[exV x (.slice ao x.args.length cap), .int .i64 D, .int .i64 M] w fun e w' => e = .returned (.int .i64 (-1)) ∧ Below w.heap.size w w' := by
  go_enter Tryd.func28, Tryd.ntmps28
  go_wp2
  go_quiet ((go_at_call 49; exact Calls.quiet_of_same (many_any _ _)))
  go_wp2
  go_ret
  exact ⟨rfl, below_drewN ((Below.refl _ _).alloc (Nat.le_refl _) _) _⟩
set_option maxRecDepth 100000 in
set_option maxHeartbeats 1000000 in
theorem rs_2c (x : Ex) (ao : Option Addr) (cap : Nat) (D M : Int) (w : World) (hD : (D == 0) = false) (hM : (M == 0) = false) (hm : (manyI x.op != (x.args.length : Int)) = false) (e1 : ((x.op : Int) == 1) = false) (e2 : ((x.op : Int) == 2) = true) (h0 : (x.n != 0) = true) (h1 : (x.n != 1) = false) (he : x.name.toList.isEmpty = false) : Calls Tryd.prog 28 #[exV x (.slice ao x.args.length cap), .int .i64 D, .int .i64 M] w fun e w' => e = .returned (.int .i64 (-1)) ∧ Below w.heap.size w w' := by
  go_enter Tryd.func28, Tryd.ntmps28
  go_wp2
  go_quiet ((go_at_call 49; exact Calls.quiet_of_same (many_any _ _)))
  go_wp2
  go_ret
  exact ⟨rfl, below_drewN ((Below.refl _ _).alloc (Nat.le_refl _) _) _⟩
set_option maxRecDepth 100000 in
set_option maxHeartbeats 1000000 in
theorem rs_3a (x : Ex) (ao : Option Addr) (cap : Nat) (D M : Int) (w : World) (hD : (D == 0) = false) (hM : (M == 0) = false) (hm : (manyI x.op != (x.args.length : Int)) = false) (e1 : ((x.op : Int) == 1) = false) (e2 : ((x.op : Int) == 2) = false) (e3 : ((x.op : Int) == 3) = true) (h0 : (x.n != 0) = true) : Calls Tryd.prog 28 #[exV x (.slice ao x.args.length cap), .int .i64 D, .int .i64 M] w fun e w' => e = .returned (.int .i64 (-1)) ∧ Below w.heap.size w w' := by
  go_enter Tryd.func28, Tryd.ntmps28
  go_wp2
  go_quiet ((go_at_call 49; exact Calls.quiet_of_same (many_any _ _)))
  go_wp2
  go_ret
  exact ⟨rfl, below_drewN ((Below.refl _ _).alloc (Nat.le_refl _) _) _⟩
set_option maxRecDepth 100000 in
set_option maxHeartbeats 1000000 in
theorem rs_3b (x : Ex) (ao : Option Addr) (cap : Nat) (D M : Int) (w : World) (hD : (D == 0) = false) (hM : (M == 0) = false) (hm : (manyI x.op != (x.args.length : Int)) = false) (e1 : ((x.op : Int) == 1) = false) (e2 : ((x.op : Int) == 2) = false) (e3 : ((x.op : Int) == 3) = true) (h0 : (x.n != 0) = false) (hnm : x.name.size ≤ 140737488355328) (hb : isName x.name = false) : Calls Tryd.prog 28 #[exV x (.slice ao x.args.length cap), .int .i64 D, .int .i64 M] w fun e w' => e = .returned (.int .i64 (-1)) ∧ Below w.heap.size w w' := by
  have c := fun W => refName x.name W hnm
  rw [hb] at c
  clear hb
  go_enter Tryd.func28, Tryd.ntmps28
  go_wp2
  go_quiet ((go_at_call 49; exact Calls.quiet_of_same (many_any _ _)))
  go_wp2_with (go_at_call 50; refine (c _).mono ?_; rintro e w2 ⟨rfl, hb2⟩)
  go_ret
  exact ⟨rfl, bstep (below_drewN ((Below.refl _ _).alloc (Nat.le_refl _) _) _) hb2⟩
set_option maxRecDepth 100000 in
set_option maxHeartbeats 1000000 in
theorem rs_4a (x : Ex) (ao : Option Addr) (cap : Nat) (D M : Int) (w : World) (hD : (D == 0) = false) (hM : (M == 0) = false) (hm : (manyI x.op != (x.args.length : Int)) = false) (e1 : ((x.op : Int) == 1) = false) (e2 : ((x.op : Int) == 2) = false) (e3 : ((x.op : Int) == 3) = false) (h0 : (x.n != 0) = true) : Calls Tryd.prog 28 #[exV x (.slice ao x.args.length cap), .int .i64 D, .int .i64 M] w fun e w' => e = .returned (.int .i64 (-1)) ∧ Below w.heap.size w w' := by
  go_enter Tryd.func28, Tryd.ntmps28
  go_wp2
  go_quiet ((go_at_call 49; exact Calls.quiet_of_same (many_any _ _)))
  go_wp2
  go_ret
  exact ⟨rfl, below_drewN ((Below.refl _ _).alloc (Nat.le_refl _) _) _⟩
set_option maxRecDepth 100000 in
set_option maxHeartbeats 1000000 in
theorem rs_4b (x : Ex) (ao : Option Addr) (cap : Nat) (D M : Int) (w : World) (hD : (D == 0) = false) (hM : (M == 0) = false) (hm : (manyI x.op != (x.args.length : Int)) = false) (e1 : ((x.op : Int) == 1) = false) (e2 : ((x.op : Int) == 2) = false) (e3 : ((x.op : Int) == 3) = false) (h0 : (x.n != 0) = false) (he : x.name.toList.isEmpty = false) : Calls Tryd.prog 28 #[exV x (.slice ao x.args.length cap), .int .i64 D, .int .i64 M] w fun e w' => e = .returned (.int .i64 (-1)) ∧ Below w.heap.size w w' := by
  go_enter Tryd.func28, Tryd.ntmps28
  go_wp2
  go_quiet ((go_at_call 49; exact Calls.quiet_of_same (many_any _ _)))
  go_wp2
  go_ret
  exact ⟨rfl, below_drewN ((Below.refl _ _).alloc (Nat.le_refl _) _) _⟩
set_option maxRecDepth 100000 in
set_option maxHeartbeats 1000000 in
theorem rs_1c (x : Ex) (ao : Option Addr) (cap : Nat) (D M : Int) (w : World) (hD : (D == 0) = false) (hM : (M == 0) = false) (hm : (manyI x.op != (x.args.length : Int)) = false) (e1 : ((x.op : Int) == 1) = true) (h0 : ¬ x.n < 0) (he : x.name.toList.isEmpty = true) (hl : Hid (x.args.length = 0)) : Calls Tryd.prog 28 #[exV x (.slice ao x.args.length cap), .int .i64 D, .int .i64 M] w fun e w' => e = .returned (.int .i64 1) ∧ Below w.heap.size w w' := by
  go_enter Tryd.func28, Tryd.ntmps28
  go_wp2
  go_quiet ((go_at_call 49; exact Calls.quiet_of_same (many_any _ _)))
  go_wp2
  go_loopw [7, 8] (fun n i wr => n = .int .i64 1 ∧ i = .int .i64 0 ∧ Hid (Below w.heap.size w wr) ∧ wr.cell? ⟨w.heap.size, 3, none⟩ = some (.slice ao x.args.length cap)) (fun _ _ _ => 0)
  case atStart => exact ⟨rfl, rfl, below_drewN ((Below.refl _ _).alloc (Nat.le_refl _) _) _, box_at w _ 25 3 _ rfl⟩
  case round =>
    obtain ⟨rfl, rfl, hB, hx3⟩ := hrel
    have hlt' : ¬ (0 : Int) < (x.args.length : Int) := by have := hl.out; omega
    go_wp2
    go_ret
    exact ⟨rfl, hB.out⟩
set_option maxRecDepth 100000 in
set_option maxHeartbeats 1000000 in
theorem rs_2d (x : Ex) (ao : Option Addr) (cap : Nat) (D M : Int) (w : World) (hD : (D == 0) = false) (hM : (M == 0) = false) (hm : (manyI x.op != (x.args.length : Int)) = false) (e1 : ((x.op : Int) == 1) = false) (e2 : ((x.op : Int) == 2) = true) (h0 : (x.n != 0) = false) (he : x.name.toList.isEmpty = true) (hl : Hid (x.args.length = 0)) : Calls Tryd.prog 28 #[exV x (.slice ao x.args.length cap), .int .i64 D, .int .i64 M] w fun e w' => e = .returned (.int .i64 1) ∧ Below w.heap.size w w' := by
  go_enter Tryd.func28, Tryd.ntmps28
  go_wp2
  go_quiet ((go_at_call 49; exact Calls.quiet_of_same (many_any _ _)))
  go_wp2
  go_loopw [7, 8] (fun n i wr => n = .int .i64 1 ∧ i = .int .i64 0 ∧ Hid (Below w.heap.size w wr) ∧ wr.cell? ⟨w.heap.size, 3, none⟩ = some (.slice ao x.args.length cap)) (fun _ _ _ => 0)
  case atStart => exact ⟨rfl, rfl, below_drewN ((Below.refl _ _).alloc (Nat.le_refl _) _) _, box_at w _ 25 3 _ rfl⟩
  case round =>
    obtain ⟨rfl, rfl, hB, hx3⟩ := hrel
    have hlt' : ¬ (0 : Int) < (x.args.length : Int) := by have := hl.out; omega
    go_wp2
    go_ret
    exact ⟨rfl, hB.out⟩
set_option maxRecDepth 100000 in
set_option maxHeartbeats 1000000 in
theorem rs_2e (x : Ex) (ao : Option Addr) (cap : Nat) (D M : Int) (w : World) (hD : (D == 0) = false) (hM : (M == 0) = false) (hm : (manyI x.op != (x.args.length : Int)) = false) (e1 : ((x.op : Int) == 1) = false) (e2 : ((x.op : Int) == 2) = true) (h0 : (x.n != 0) = true) (h1 : (x.n != 1) = false) (he : x.name.toList.isEmpty = true) (hl : Hid (x.args.length = 0)) : Calls Tryd.prog 28 #[exV x (.slice ao x.args.length cap), .int .i64 D, .int .i64 M] w fun e w' => e = .returned (.int .i64 1) ∧ Below w.heap.size w w' := by
  go_enter Tryd.func28, Tryd.ntmps28
  go_wp2
  go_quiet ((go_at_call 49; exact Calls.quiet_of_same (many_any _ _)))
  go_wp2
  go_loopw [7, 8] (fun n i wr => n = .int .i64 1 ∧ i = .int .i64 0 ∧ Hid (Below w.heap.size w wr) ∧ wr.cell? ⟨w.heap.size, 3, none⟩ = some (.slice ao x.args.length cap)) (fun _ _ _ => 0)
  case atStart => exact ⟨rfl, rfl, below_drewN ((Below.refl _ _).alloc (Nat.le_refl _) _) _, box_at w _ 25 3 _ rfl⟩
  case round =>
    obtain ⟨rfl, rfl, hB, hx3⟩ := hrel
    have hlt' : ¬ (0 : Int) < (x.args.length : Int) := by have := hl.out; omega
    go_wp2
    go_ret
    exact ⟨rfl, hB.out⟩
set_option maxRecDepth 100000 in
set_option maxHeartbeats 1000000 in
theorem rs_3c (x : Ex) (ao : Option Addr) (cap : Nat) (D M : Int) (w : World) (hD : (D == 0) = false) (hM : (M == 0) = false) (hm : (manyI x.op != (x.args.length : Int)) = false) (e1 : ((x.op : Int) == 1) = false) (e2 : ((x.op : Int) == 2) = false) (e3 : ((x.op : Int) == 3) = true) (h0 : (x.n != 0) = false) (hnm : x.name.size ≤ 140737488355328) (hb : isName x.name = true) (hl : Hid (x.args.length = 0)) : Calls Tryd.prog 28 #[exV x (.slice ao x.args.length cap), .int .i64 D, .int .i64 M] w fun e w' => e = .returned (.int .i64 1) ∧ Below w.heap.size w w' := by
  have c := fun W => refName x.name W hnm
  rw [hb] at c
  clear hb
  go_enter Tryd.func28, Tryd.ntmps28
  go_wp2
  go_quiet ((go_at_call 49; exact Calls.quiet_of_same (many_any _ _)))
  go_wp2_with (go_at_call 50; refine (c _).mono ?_; rintro e w2 ⟨rfl, hb2⟩)
  go_loopw [7, 8] (fun n i wr => n = .int .i64 1 ∧ i = .int .i64 0 ∧ Hid (Below w.heap.size w wr) ∧ wr.cell? ⟨w.heap.size, 3, none⟩ = some (.slice ao x.args.length cap)) (fun _ _ _ => 0)
  case atStart => exact ⟨rfl, rfl, bstep (below_drewN ((Below.refl _ _).alloc (Nat.le_refl _) _) _) hb2, cell_kept (w := (w.alloc (.cells #[.int .u8 (x.op : Int), .int .i64 x.n, .string x.name, .slice ao x.args.length cap] 25)).drewN _) (by exact box_at w _ 25 3 _ rfl) hb2⟩
  case round =>
    obtain ⟨rfl, rfl, hB, hx3⟩ := hrel
    have hlt' : ¬ (0 : Int) < (x.args.length : Int) := by have := hl.out; omega
    go_wp2
    go_ret
    exact ⟨rfl, hB.out⟩
set_option maxRecDepth 100000 in
set_option maxHeartbeats 1000000 in
theorem rs_4c (x : Ex) (ao : Option Addr) (cap : Nat) (D M : Int) (w : World) (d : Nat) (ih : RSzC d) (hd : d + 1 ≤ 32) (hDd : D = ((d + 1 : Nat) : Int)) (m : Nat) (hMm : M = (m : Int)) (hm1 : 1 ≤ m) (hm2 : m ≤ 200) (hD : (D == 0) = false) (hM : (M == 0) = false) (hm : (manyI x.op != (x.args.length : Int)) = false) (e1 : ((x.op : Int) == 1) = false) (e2 : ((x.op : Int) == 2) = false) (e3 : ((x.op : Int) == 3) = false) (h0 : (x.n != 0) = false) (he : x.name.toList.isEmpty = true) (hS : St w x (.slice ao x.args.length cap)) : Calls Tryd.prog 28 #[exV x (.slice ao x.args.length cap), .int .i64 D, .int .i64 M] w fun e w' => e = .returned (.int .i64 (szI (szL (sz d) m 1 x.args))) ∧ Below w.heap.size w w' := by
  obtain ⟨ao', cap', sl, hv, _, _, _, hlen, _, hcs, hss⟩ := hS.out
  injection hv with ea _ ec
  subst ea
  subst ec
  have HS := hid hss
  have HC := hid hcs
  have HI := hid ih
  have hD1 : D - 1 = (d : Int) := by omega
  have hD3 : D ≤ 32 := by omega
  have hD4 : 0 ≤ D := by omega
  have HM := hid hMm
  have hM1 : 1 ≤ M := by omega
  have hM2 : M ≤ 200 := by omega
  clear hss hcs ih hS hDd hMm
  go_enter Tryd.func28, Tryd.ntmps28
  go_wp2
  go_quiet ((go_at_call 49; exact Calls.quiet_of_same (many_any _ _)))
  go_wp2
  go_loopw [7, 8] (fun n i wr => ∃ (k z : Nat), k ≤ x.args.length ∧ 1 ≤ z ∧ z ≤ m ∧ n = .int .i64 (z : Int) ∧ i = .int .i64 (k : Int) ∧ Hid (szL (sz d) m 1 x.args = szL (sz d) m z (x.args.drop k)) ∧ Hid (Below w.heap.size w wr) ∧ wr.cell? ⟨w.heap.size, 3, none⟩ = some (.slice ao x.args.length cap)) (fun _ i _ => x.args.length - (intOf i).toNat)
  case atStart => exact ⟨0, 1, Nat.zero_le _, Nat.le_refl _, hm1, rfl, rfl, by simp [Hid], below_drewN ((Below.refl _ _).alloc (Nat.le_refl _) _) _, box_at w _ 25 3 _ rfl⟩
  case round =>
    obtain ⟨k, z, hk, hz1, hz2, rfl, rfl, hE, hB, hx3⟩ := hrel
    by_cases hlt : k < x.args.length
    · have hlt' : (k : Int) < (x.args.length : Int) := by omega
      have hk0 : (0 : Int) ≤ (k : Int) := by omega
      obtain ⟨bb, o, rfl, hcc⟩ := HC.out.resolve_left (by omega)
      obtain ⟨a0, a1, a2, a3⟩ := hcc k hlt
      have v0 := cell_kept a0 hB.out
      have v1 := cell_kept a1 hB.out
      have v2 := cell_kept a2 hB.out
      have v3 := cell_kept a3 hB.out
      have hdr : x.args.drop k = x.args[k] :: x.args.drop (k + 1) := List.drop_eq_getElem_cons hlt
      have hE' := hE.out
      rw [hdr, szL] at hE'
      have HE := hid hE'
      have hst := (HS.out k hlt).keep hB.out
      clear a0 a1 a2 a3 hcc hdr hE' hE
      generalize x.args[k] = y at *
      obtain ⟨sv, hsv⟩ : ∃ sv, sl k = sv := ⟨_, rfl⟩
      rw [hsv] at v3 hst
      obtain ⟨ak, ck, _, rfl, _⟩ := hst.out
      clear hsv
      have hMz : M - (z : Int) = ((m - z : Nat) : Int) := by have := HM.out; omega
      have cc := HI.out y wr _ (m - z) (by omega) hst
      clear hst
      cases hz : sz d (m - z) y with
      | none =>
        rw [hz] at cc HE
        have hnone : Hid (szL (sz d) m 1 x.args = none) := HE.out
        simp only [szI] at cc
        go_wp2_with (go_at_call 28; refine cc.mono ?_; rintro e w4 ⟨rfl, hb4⟩)
        go_ret
        exact ⟨by rw [hnone.out]; rfl, bstep hB.out hb4⟩
      | some j =>
        rw [hz] at cc HE
        have hj := sz_le _ _ _ _ hz
        simp only [szI] at cc
        have hj0 : ¬ (j : Int) < 0 := by omega
        go_wp2_with (go_at_call 28; refine cc.mono ?_; rintro e w4 ⟨rfl, hb4⟩; have hx4 := cell_kept hx3 hb4; have B4 := hid (bstep hB.out hb4))
        go_roundw
        case rel => exact ⟨k + 1, z + j, by omega, by omega, by omega, by go_num, by go_num, HE.out, B4, hx4⟩
        case measure => simp [intOf]; omega
    · have hlt' : ¬ (k : Int) < (x.args.length : Int) := by omega
      have hdr : x.args.drop k = [] := List.drop_eq_nil_of_le (by omega)
      have hE' := hE.out
      rw [hdr, szL] at hE'
      have HE := hid hE'
      clear hE' hdr hE
      go_wp2
      go_ret
      exact ⟨by rw [HE.out]; rfl, hB.out⟩
end Go.Proofs.YtkieljleopbhoaaDoor.Lex
