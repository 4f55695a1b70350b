/-
  The document's own size, and Check.
  The document's own size and Check, whatever it is.
  The contracts of the document's own written and part.
  The contracts of the document's own written and Text, whatever may be.
-/
import Derived.Test.YtkieljleopbhoaaDoorU5
import Derived.Test.YtkieljleopbhoaaDoorU6
namespace Go.Proofs.YtkieljleopbhoaaDoor.Lex
open Go.ChangeShapes Go.WideShapes Go.ChangeAt Go.RowKit Go.Joins
set_option linter.unusedVariables false
/-- A size, below 0 if there is none. -/
def szI : Option Nat → Int
  | none => -1
  | some k => (k : Int)
def RSzC (d : Nat) : Prop := ∀ (x : Ex) (w : World) (s : Value) (M : Nat), M ≤ 200 → St w x s → Calls Tryd.prog 28 #[exV x s, .int .i64 (d : Int), .int .i64 (M : Int)] w fun e w' => e = .returned (.int .i64 (szI (sz d M x))) ∧ Below w.heap.size w w'
theorem inn {a b : Int} (h : a = b) : (a != b) = false := by simp [h]
theorem inq {a b : Int} (h : ¬ a = b) : (a != b) = true := by simp [h]
theorem drewN_zero (w : World) : w.drewN 0 = w := rfl
set_option maxRecDepth 100000 in
set_option maxHeartbeats 1000000 in
theorem rs_d0 (x : Ex) (ao : Option Addr) (cap : Nat) (D M : Int) (w : World) (hD : (D == 0) = true) : Calls Tryd.prog 28 #[exV x (.slice ao x.args.length cap), .int .i64 D, .int .i64 M] w fun e w' => e = .returned (.int .i64 (-1)) ∧ Below w.heap.size w w' := by
  go_enter Tryd.func28, Tryd.ntmps28
  go_wp2
  go_quiet ((go_at_call 49; exact Calls.quiet_of_same (many_any _ _)))
  go_wp2
  go_ret
  exact ⟨rfl, below_drewN ((Below.refl _ _).alloc (Nat.le_refl _) _) _⟩
set_option maxRecDepth 100000 in
set_option maxHeartbeats 1000000 in
theorem rs_m0 (x : Ex) (ao : Option Addr) (cap : Nat) (D M : Int) (w : World) (hD : (D == 0) = false) (hM : (M == 0) = true) : Calls Tryd.prog 28 #[exV x (.slice ao x.args.length cap), .int .i64 D, .int .i64 M] w fun e w' => e = .returned (.int .i64 (-1)) ∧ Below w.heap.size w w' := by
  go_enter Tryd.func28, Tryd.ntmps28
  go_wp2
  go_quiet ((go_at_call 49; exact Calls.quiet_of_same (many_any _ _)))
  go_wp2
  go_ret
  exact ⟨rfl, below_drewN ((Below.refl _ _).alloc (Nat.le_refl _) _) _⟩
set_option maxRecDepth 100000 in
set_option maxHeartbeats 1000000 in
theorem rs_mn (x : Ex) (ao : Option Addr) (cap : Nat) (D M : Int) (w : World) (hD : (D == 0) = false) (hM : (M == 0) = false) (hm : (manyI x.op != (x.args.length : Int)) = true) : Calls Tryd.prog 28 #[exV x (.slice ao x.args.length cap), .int .i64 D, .int .i64 M] w fun e w' => e = .returned (.int .i64 (-1)) ∧ Below w.heap.size w w' := by
  go_enter Tryd.func28, Tryd.ntmps28
  go_wp2
  go_quiet ((go_at_call 49; exact Calls.quiet_of_same (many_any _ _)))
  go_wp2
  go_ret
  exact ⟨rfl, below_drewN ((Below.refl _ _).alloc (Nat.le_refl _) _) _⟩
set_option maxRecDepth 100000 in
set_option maxHeartbeats 1000000 in
theorem rs_1a (x : Ex) (ao : Option Addr) (cap : Nat) (D M : Int) (w : World) (hD : (D == 0) = false) (hM : (M == 0) = false) (hm : (manyI x.op != (x.args.length : Int)) = false) (e1 : ((x.op : Int) == 1) = true) (h0 : x.n < 0) : Calls Tryd.prog 28 #[exV x (.slice ao x.args.length cap), .int .i64 D, .int .i64 M] w fun e w' => e = .returned (.int .i64 (-1)) ∧ Below w.heap.size w w' := by
  go_enter Tryd.func28, Tryd.ntmps28
  go_wp2
  go_quiet ((go_at_call 49; exact Calls.quiet_of_same (many_any _ _)))
  go_wp2
  go_ret
  exact ⟨rfl, below_drewN ((Below.refl _ _).alloc (Nat.le_refl _) _) _⟩
set_option maxRecDepth 100000 in
set_option maxHeartbeats 1000000 in
theorem rs_1b (x : Ex) (ao : Option Addr) (cap : Nat) (D M : Int) (w : World) (hD : (D == 0) = false) (hM : (M == 0) = false) (hm : (manyI x.op != (x.args.length : Int)) = false) (e1 : ((x.op : Int) == 1) = true) (h0 : ¬ x.n < 0) (he : x.name.toList.isEmpty = false) : Calls Tryd.prog 28 #[exV x (.slice ao x.args.length cap), .int .i64 D, .int .i64 M] w fun e w' => e = .returned (.int .i64 (-1)) ∧ Below w.heap.size w w' := by
  go_enter Tryd.func28, Tryd.ntmps28
  go_wp2
  go_quiet ((go_at_call 49; exact Calls.quiet_of_same (many_any _ _)))
  go_wp2
  go_ret
  exact ⟨rfl, below_drewN ((Below.refl _ _).alloc (Nat.le_refl _) _) _⟩
set_option maxRecDepth 100000 in
set_option maxHeartbeats 1000000 in
theorem rs_2a (x : Ex) (ao : Option Addr) (cap : Nat) (D M : Int) (w : World) (hD : (D == 0) = false) (hM : (M == 0) = false) (hm : (manyI x.op != (x.args.length : Int)) = false) (e1 : ((x.op : Int) == 1) = false) (e2 : ((x.op : Int) == 2) = true) (h0 : (x.n != 0) = true) (h1 : (x.n != 1) = true) : Calls Tryd.prog 28 #[exV x (.slice ao x.args.length cap), .int .i64 D, .int .i64 M] w fun e w' => e = .returned (.int .i64 (-1)) ∧ Below w.heap.size w w' := by
  go_enter Tryd.func28, Tryd.ntmps28
  go_wp2
  go_quiet ((go_at_call 49; exact Calls.quiet_of_same (many_any _ _)))
  go_wp2
  go_ret
  exact ⟨rfl, below_drewN ((Below.refl _ _).alloc (Nat.le_refl _) _) _⟩
set_option maxRecDepth 100000 in
set_option maxHeartbeats 1000000 in
theorem rs_2b (x : Ex) (ao : Option Addr) (cap : Nat) (D M : Int) (w : World) (hD : (D == 0) = false) (hM : (M == 0) = false) (hm : (manyI x.op != (x.args.length : Int)) = false) (e1 : ((x.op : Int) == 1) = false) (e2 : ((x.op : Int) == 2) = true) (h0 : (x.n != 0) = false) (he : x.name.toList.isEmpty = false) : Calls Tryd.prog 28 #[exV x (.slice ao x.args.length cap), .int .i64 D, .int .i64 M] w fun e w' => e = .returned (.int .i64 (-1)) ∧ Below w.heap.size w w' := by
  go_enter Tryd.func28, Tryd.ntmps28
  go_wp2
  go_quiet ((go_at_call 49; exact Calls.quiet_of_same (many_any _ _)))
  go_wp2
  go_ret
  exact ⟨rfl, below_drewN ((Below.refl _ _).alloc (Nat.le_refl _) _) _⟩
set_option maxRecDepth 100000 in
set_option maxHeartbeats 1000000 in
theorem rs_2c (x : Ex) (ao : Option Addr) (cap : Nat) (D M : Int) (w : World) (hD : (D == 0) = false) (hM : (M == 0) = false) (hm : (manyI x.op != (x.args.length : Int)) = false) (e1 : ((x.op : Int) == 1) = false) (e2 : ((x.op : Int) == 2) = true) (h0 : (x.n != 0) = true) (h1 : (x.n != 1) = false) (he : x.name.toList.isEmpty = false) : Calls Tryd.prog 28 #[exV x (.slice ao x.args.length cap), .int .i64 D, .int .i64 M] w fun e w' => e = .returned (.int .i64 (-1)) ∧ Below w.heap.size w w' := by
  go_enter Tryd.func28, Tryd.ntmps28
  go_wp2
  go_quiet ((go_at_call 49; exact Calls.quiet_of_same (many_any _ _)))
  go_wp2
  go_ret
  exact ⟨rfl, below_drewN ((Below.refl _ _).alloc (Nat.le_refl _) _) _⟩
set_option maxRecDepth 100000 in
set_option maxHeartbeats 1000000 in
theorem rs_3a (x : Ex) (ao : Option Addr) (cap : Nat) (D M : Int) (w : World) (hD : (D == 0) = false) (hM : (M == 0) = false) (hm : (manyI x.op != (x.args.length : Int)) = false) (e1 : ((x.op : Int) == 1) = false) (e2 : ((x.op : Int) == 2) = false) (e3 : ((x.op : Int) == 3) = true) (h0 : (x.n != 0) = true) : Calls Tryd.prog 28 #[exV x (.slice ao x.args.length cap), .int .i64 D, .int .i64 M] w fun e w' => e = .returned (.int .i64 (-1)) ∧ Below w.heap.size w w' := by
  go_enter Tryd.func28, Tryd.ntmps28
  go_wp2
  go_quiet ((go_at_call 49; exact Calls.quiet_of_same (many_any _ _)))
  go_wp2
  go_ret
  exact ⟨rfl, below_drewN ((Below.refl _ _).alloc (Nat.le_refl _) _) _⟩
set_option maxRecDepth 100000 in
set_option maxHeartbeats 1000000 in
theorem rs_3b (x : Ex) (ao : Option Addr) (cap : Nat) (D M : Int) (w : World) (hD : (D == 0) = false) (hM : (M == 0) = false) (hm : (manyI x.op != (x.args.length : Int)) = false) (e1 : ((x.op : Int) == 1) = false) (e2 : ((x.op : Int) == 2) = false) (e3 : ((x.op : Int) == 3) = true) (h0 : (x.n != 0) = false) (hnm : x.name.size ≤ 140737488355328) (hb : isName x.name = false) : Calls Tryd.prog 28 #[exV x (.slice ao x.args.length cap), .int .i64 D, .int .i64 M] w fun e w' => e = .returned (.int .i64 (-1)) ∧ Below w.heap.size w w' := by
  have c := fun W => refName x.name W hnm
  rw [hb] at c
  clear hb
  go_enter Tryd.func28, Tryd.ntmps28
  go_wp2
  go_quiet ((go_at_call 49; exact Calls.quiet_of_same (many_any _ _)))
  go_wp2_with (go_at_call 50; refine (c _).mono ?_; rintro e w2 ⟨rfl, hb2⟩)
  go_ret
  exact ⟨rfl, bstep (below_drewN ((Below.refl _ _).alloc (Nat.le_refl _) _) _) hb2⟩
set_option maxRecDepth 100000 in
set_option maxHeartbeats 1000000 in
theorem rs_4a (x : Ex) (ao : Option Addr) (cap : Nat) (D M : Int) (w : World) (hD : (D == 0) = false) (hM : (M == 0) = false) (hm : (manyI x.op != (x.args.length : Int)) = false) (e1 : ((x.op : Int) == 1) = false) (e2 : ((x.op : Int) == 2) = false) (e3 : ((x.op : Int) == 3) = false) (h0 : (x.n != 0) = true) : Calls Tryd.prog 28 #[exV x (.slice ao x.args.length cap), .int .i64 D, .int .i64 M] w fun e w' => e = .returned (.int .i64 (-1)) ∧ Below w.heap.size w w' := by
  go_enter Tryd.func28, Tryd.ntmps28
  go_wp2
  go_quiet ((go_at_call 49; exact Calls.quiet_of_same (many_any _ _)))
  go_wp2
  go_ret
  exact ⟨rfl, below_drewN ((Below.refl _ _).alloc (Nat.le_refl _) _) _⟩
set_option maxRecDepth 100000 in
set_option maxHeartbeats 1000000 in
theorem rs_4b (x : Ex) (ao : Option Addr) (cap : Nat) (D M : Int) (w : World) (hD : (D == 0) = false) (hM : (M == 0) = false) (hm : (manyI x.op != (x.args.length : Int)) = false) (e1 : ((x.op : Int) == 1) = false) (e2 : ((x.op : Int) == 2) = false) (e3 : ((x.op : Int) == 3) = false) (h0 : (x.n != 0) = false) (he : x.name.toList.isEmpty = false) : Calls Tryd.prog 28 #[exV x (.slice ao x.args.length cap), .int .i64 D, .int .i64 M] w fun e w' => e = .returned (.int .i64 (-1)) ∧ Below w.heap.size w w' := by
  go_enter Tryd.func28, Tryd.ntmps28
  go_wp2
  go_quiet ((go_at_call 49; exact Calls.quiet_of_same (many_any _ _)))
  go_wp2
  go_ret
  exact ⟨rfl, below_drewN ((Below.refl _ _).alloc (Nat.le_refl _) _) _⟩
set_option maxRecDepth 100000 in
set_option maxHeartbeats 1000000 in
theorem rs_1c (x : Ex) (ao : Option Addr) (cap : Nat) (D M : Int) (w : World) (hD : (D == 0) = false) (hM : (M == 0) = false) (hm : (manyI x.op != (x.args.length : Int)) = false) (e1 : ((x.op : Int) == 1) = true) (h0 : ¬ x.n < 0) (he : x.name.toList.isEmpty = true) (hl : Hid (x.args.length = 0)) : Calls Tryd.prog 28 #[exV x (.slice ao x.args.length cap), .int .i64 D, .int .i64 M] w fun e w' => e = .returned (.int .i64 1) ∧ Below w.heap.size w w' := by
  go_enter Tryd.func28, Tryd.ntmps28
  go_wp2
  go_quiet ((go_at_call 49; exact Calls.quiet_of_same (many_any _ _)))
  go_wp2
  go_loopw [7, 8] (fun n i wr => n = .int .i64 1 ∧ i = .int .i64 0 ∧ Hid (Below w.heap.size w wr) ∧ wr.cell? ⟨w.heap.size, 3, none⟩ = some (.slice ao x.args.length cap)) (fun _ _ _ => 0)
  case atStart => exact ⟨rfl, rfl, below_drewN ((Below.refl _ _).alloc (Nat.le_refl _) _) _, box_at w _ 25 3 _ rfl⟩
  case round =>
    obtain ⟨rfl, rfl, hB, hx3⟩ := hrel
    have hlt' : ¬ (0 : Int) < (x.args.length : Int) := by have := hl.out; omega
    go_wp2
    go_ret
    exact ⟨rfl, hB.out⟩
set_option maxRecDepth 100000 in
set_option maxHeartbeats 1000000 in
theorem rs_2d (x : Ex) (ao : Option Addr) (cap : Nat) (D M : Int) (w : World) (hD : (D == 0) = false) (hM : (M == 0) = false) (hm : (manyI x.op != (x.args.length : Int)) = false) (e1 : ((x.op : Int) == 1) = false) (e2 : ((x.op : Int) == 2) = true) (h0 : (x.n != 0) = false) (he : x.name.toList.isEmpty = true) (hl : Hid (x.args.length = 0)) : Calls Tryd.prog 28 #[exV x (.slice ao x.args.length cap), .int .i64 D, .int .i64 M] w fun e w' => e = .returned (.int .i64 1) ∧ Below w.heap.size w w' := by
  go_enter Tryd.func28, Tryd.ntmps28
  go_wp2
  go_quiet ((go_at_call 49; exact Calls.quiet_of_same (many_any _ _)))
  go_wp2
  go_loopw [7, 8] (fun n i wr => n = .int .i64 1 ∧ i = .int .i64 0 ∧ Hid (Below w.heap.size w wr) ∧ wr.cell? ⟨w.heap.size, 3, none⟩ = some (.slice ao x.args.length cap)) (fun _ _ _ => 0)
  case atStart => exact ⟨rfl, rfl, below_drewN ((Below.refl _ _).alloc (Nat.le_refl _) _) _, box_at w _ 25 3 _ rfl⟩
  case round =>
    obtain ⟨rfl, rfl, hB, hx3⟩ := hrel
    have hlt' : ¬ (0 : Int) < (x.args.length : Int) := by have := hl.out; omega
    go_wp2
    go_ret
    exact ⟨rfl, hB.out⟩
set_option maxRecDepth 100000 in
set_option maxHeartbeats 1000000 in
theorem rs_2e (x : Ex) (ao : Option Addr) (cap : Nat) (D M : Int) (w : World) (hD : (D == 0) = false) (hM : (M == 0) = false) (hm : (manyI x.op != (x.args.length : Int)) = false) (e1 : ((x.op : Int) == 1) = false) (e2 : ((x.op : Int) == 2) = true) (h0 : (x.n != 0) = true) (h1 : (x.n != 1) = false) (he : x.name.toList.isEmpty = true) (hl : Hid (x.args.length = 0)) : Calls Tryd.prog 28 #[exV x (.slice ao x.args.length cap), .int .i64 D, .int .i64 M] w fun e w' => e = .returned (.int .i64 1) ∧ Below w.heap.size w w' := by
  go_enter Tryd.func28, Tryd.ntmps28
  go_wp2
  go_quiet ((go_at_call 49; exact Calls.quiet_of_same (many_any _ _)))
  go_wp2
  go_loopw [7, 8] (fun n i wr => n = .int .i64 1 ∧ i = .int .i64 0 ∧ Hid (Below w.heap.size w wr) ∧ wr.cell? ⟨w.heap.size, 3, none⟩ = some (.slice ao x.args.length cap)) (fun _ _ _ => 0)
  case atStart => exact ⟨rfl, rfl, below_drewN ((Below.refl _ _).alloc (Nat.le_refl _) _) _, box_at w _ 25 3 _ rfl⟩
  case round =>
    obtain ⟨rfl, rfl, hB, hx3⟩ := hrel
    have hlt' : ¬ (0 : Int) < (x.args.length : Int) := by have := hl.out; omega
    go_wp2
    go_ret
    exact ⟨rfl, hB.out⟩
set_option maxRecDepth 100000 in
set_option maxHeartbeats 1000000 in
theorem rs_3c (x : Ex) (ao : Option Addr) (cap : Nat) (D M : Int) (w : World) (hD : (D == 0) = false) (hM : (M == 0) = false) (hm : (manyI x.op != (x.args.length : Int)) = false) (e1 : ((x.op : Int) == 1) = false) (e2 : ((x.op : Int) == 2) = false) (e3 : ((x.op : Int) == 3) = true) (h0 : (x.n != 0) = false) (hnm : x.name.size ≤ 140737488355328) (hb : isName x.name = true) (hl : Hid (x.args.length = 0)) : Calls Tryd.prog 28 #[exV x (.slice ao x.args.length cap), .int .i64 D, .int .i64 M] w fun e w' => e = .returned (.int .i64 1) ∧ Below w.heap.size w w' := by
  have c := fun W => refName x.name W hnm
  rw [hb] at c
  clear hb
  go_enter Tryd.func28, Tryd.ntmps28
  go_wp2
  go_quiet ((go_at_call 49; exact Calls.quiet_of_same (many_any _ _)))
  go_wp2_with (go_at_call 50; refine (c _).mono ?_; rintro e w2 ⟨rfl, hb2⟩)
  go_loopw [7, 8] (fun n i wr => n = .int .i64 1 ∧ i = .int .i64 0 ∧ Hid (Below w.heap.size w wr) ∧ wr.cell? ⟨w.heap.size, 3, none⟩ = some (.slice ao x.args.length cap)) (fun _ _ _ => 0)
  case atStart => exact ⟨rfl, rfl, bstep (below_drewN ((Below.refl _ _).alloc (Nat.le_refl _) _) _) hb2, cell_kept (w := (w.alloc (.cells #[.int .u8 (x.op : Int), .int .i64 x.n, .string x.name, .slice ao x.args.length cap] 25)).drewN _) (by exact box_at w _ 25 3 _ rfl) hb2⟩
  case round =>
    obtain ⟨rfl, rfl, hB, hx3⟩ := hrel
    have hlt' : ¬ (0 : Int) < (x.args.length : Int) := by have := hl.out; omega
    go_wp2
    go_ret
    exact ⟨rfl, hB.out⟩
set_option maxRecDepth 100000 in
set_option maxHeartbeats 1000000 in
theorem rs_4c (x : Ex) (ao : Option Addr) (cap : Nat) (D M : Int) (w : World) (d : Nat) (ih : RSzC d) (hd : d + 1 ≤ 32) (hDd : D = ((d + 1 : Nat) : Int)) (m : Nat) (hMm : M = (m : Int)) (hm1 : 1 ≤ m) (hm2 : m ≤ 200) (hD : (D == 0) = false) (hM : (M == 0) = false) (hm : (manyI x.op != (x.args.length : Int)) = false) (e1 : ((x.op : Int) == 1) = false) (e2 : ((x.op : Int) == 2) = false) (e3 : ((x.op : Int) == 3) = false) (h0 : (x.n != 0) = false) (he : x.name.toList.isEmpty = true) (hS : St w x (.slice ao x.args.length cap)) : Calls Tryd.prog 28 #[exV x (.slice ao x.args.length cap), .int .i64 D, .int .i64 M] w fun e w' => e = .returned (.int .i64 (szI (szL (sz d) m 1 x.args))) ∧ Below w.heap.size w w' := by
  obtain ⟨ao', cap', sl, hv, _, _, _, hlen, _, hcs, hss⟩ := hS.out
  injection hv with ea _ ec
  subst ea
  subst ec
  have HS := hid hss
  have HC := hid hcs
  have HI := hid ih
  have hD1 : D - 1 = (d : Int) := by omega
  have hD3 : D ≤ 32 := by omega
  have hD4 : 0 ≤ D := by omega
  have HM := hid hMm
  have hM1 : 1 ≤ M := by omega
  have hM2 : M ≤ 200 := by omega
  clear hss hcs ih hS hDd hMm
  go_enter Tryd.func28, Tryd.ntmps28
  go_wp2
  go_quiet ((go_at_call 49; exact Calls.quiet_of_same (many_any _ _)))
  go_wp2
  go_loopw [7, 8] (fun n i wr => ∃ (k z : Nat), k ≤ x.args.length ∧ 1 ≤ z ∧ z ≤ m ∧ n = .int .i64 (z : Int) ∧ i = .int .i64 (k : Int) ∧ Hid (szL (sz d) m 1 x.args = szL (sz d) m z (x.args.drop k)) ∧ Hid (Below w.heap.size w wr) ∧ wr.cell? ⟨w.heap.size, 3, none⟩ = some (.slice ao x.args.length cap)) (fun _ i _ => x.args.length - (intOf i).toNat)
  case atStart => exact ⟨0, 1, Nat.zero_le _, Nat.le_refl _, hm1, rfl, rfl, by simp [Hid], below_drewN ((Below.refl _ _).alloc (Nat.le_refl _) _) _, box_at w _ 25 3 _ rfl⟩
  case round =>
    obtain ⟨k, z, hk, hz1, hz2, rfl, rfl, hE, hB, hx3⟩ := hrel
    by_cases hlt : k < x.args.length
    · have hlt' : (k : Int) < (x.args.length : Int) := by omega
      have hk0 : (0 : Int) ≤ (k : Int) := by omega
      obtain ⟨bb, o, rfl, hcc⟩ := HC.out.resolve_left (by omega)
      obtain ⟨a0, a1, a2, a3⟩ := hcc k hlt
      have v0 := cell_kept a0 hB.out
      have v1 := cell_kept a1 hB.out
      have v2 := cell_kept a2 hB.out
      have v3 := cell_kept a3 hB.out
      have hdr : x.args.drop k = x.args[k] :: x.args.drop (k + 1) := List.drop_eq_getElem_cons hlt
      have hE' := hE.out
      rw [hdr, szL] at hE'
      have HE := hid hE'
      have hst := (HS.out k hlt).keep hB.out
      clear a0 a1 a2 a3 hcc hdr hE' hE
      generalize x.args[k] = y at *
      obtain ⟨sv, hsv⟩ : ∃ sv, sl k = sv := ⟨_, rfl⟩
      rw [hsv] at v3 hst
      obtain ⟨ak, ck, _, rfl, _⟩ := hst.out
      clear hsv
      have hMz : M - (z : Int) = ((m - z : Nat) : Int) := by have := HM.out; omega
      have cc := HI.out y wr _ (m - z) (by omega) hst
      clear hst
      cases hz : sz d (m - z) y with
      | none =>
        rw [hz] at cc HE
        have hnone : Hid (szL (sz d) m 1 x.args = none) := HE.out
        simp only [szI] at cc
        go_wp2_with (go_at_call 28; refine cc.mono ?_; rintro e w4 ⟨rfl, hb4⟩)
        go_ret
        exact ⟨by rw [hnone.out]; rfl, bstep hB.out hb4⟩
      | some j =>
        rw [hz] at cc HE
        have hj := sz_le _ _ _ _ hz
        simp only [szI] at cc
        have hj0 : ¬ (j : Int) < 0 := by omega
        go_wp2_with (go_at_call 28; refine cc.mono ?_; rintro e w4 ⟨rfl, hb4⟩; have hx4 := cell_kept hx3 hb4; have B4 := hid (bstep hB.out hb4))
        go_roundw
        case rel => exact ⟨k + 1, z + j, by omega, by omega, by omega, by go_num, by go_num, HE.out, B4, hx4⟩
        case measure => simp [intOf]; omega
    · have hlt' : ¬ (k : Int) < (x.args.length : Int) := by omega
      have hdr : x.args.drop k = [] := List.drop_eq_nil_of_le (by omega)
      have hE' := hE.out
      rw [hdr, szL] at hE'
      have HE := hid hE'
      clear hE' hdr hE
      go_wp2
      go_ret
      exact ⟨by rw [HE.out]; rfl, hB.out⟩
end Go.Proofs.YtkieljleopbhoaaDoor.Lex
namespace Go.Proofs.YtkieljleopbhoaaDoor.Lex
open Go.ChangeShapes Go.WideShapes Go.ChangeAt Go.RowKit Go.Joins
theorem many_ne {op len : Nat} (h : ¬ manyI op = (len : Int)) : (manyI op != (len : Int)) = true := by simp [h]
theorem many_eq {op len : Nat} (h : manyI op = (len : Int)) : (manyI op != (len : Int)) = false := by simp [h]
theorem sz_none {d M : Nat} {x : Ex} (h : M = 0 ∨ fieldsOk x.op x.n x.name x.args.length = false) : sz (d + 1) M x = none := by rw [sz, if_pos h]
theorem rsize_any : ∀ (d : Nat), d ≤ 32 → RSzC d
  | 0, _ => by
    intro x w s M hM hS
    obtain ⟨ao, cap, _, rfl, _⟩ := hS.out
    have e : sz 0 M x = none := by simp [sz]
    rw [e]
    exact rs_d0 x ao cap ((0 : Nat) : Int) (M : Int) w rfl
  | d + 1, hd => by
    intro x w s M hM hS
    have ih := rsize_any d (by omega)
    obtain ⟨ao, cap, sl, rfl, hop, hn, hnm, _⟩ := hS.out
    have hD : ((((d + 1 : Nat) : Int)) == 0) = false := by simp; omega
    by_cases hM0 : M = 0
    · rw [sz_none (.inl hM0)]
      exact rs_m0 x ao cap _ _ w hD (by simp [hM0])
    · have hM1 : ((M : Int) == 0) = false := by simp; omega
      have hsplit := fields_split x.op x.n x.name x.args.length
      by_cases hm : manyI x.op = (x.args.length : Int)
      · rw [decide_eq_true hm, Bool.true_and] at hsplit
        have hm' := many_eq hm
        have bad : fldOk x.op x.n x.name = false → sz (d + 1) M x = none := fun h => sz_none (.inr (hsplit.trans h))
        have good : fldOk x.op x.n x.name = true → sz (d + 1) M x = szL (sz d) M 1 x.args := fun h => by rw [sz, if_neg (by rw [hsplit, h]; simp [hM0])]
        have leaf : x.args.length = 0 → szL (sz d) M 1 x.args = some 1 := fun h => by rw [List.eq_nil_of_length_eq_zero h]; rfl
        unfold fldOk at bad good
        by_cases h1 : x.op = 1
        · rw [if_pos h1] at bad good
          have e1 := eqN (b := 1) h1
          have hl : x.args.length = 0 := by rw [h1] at hm; have : manyI 1 = 0 := by decide
                                            omega
          by_cases h0 : x.n < 0
          · rw [bad (by rw [decide_eq_false (by omega)]; rfl)]
            exact rs_1a x ao cap _ _ w hD hM1 hm' e1 h0
          · rw [decide_eq_true (by omega)] at bad good
            by_cases he : x.name.size = 0
            · rw [good (by rw [decide_eq_true he]; rfl), leaf hl]
              exact rs_1c x ao cap _ _ w hD hM1 hm' e1 h0 (empty_yes he) hl
            · rw [bad (by rw [decide_eq_false he]; rfl)]
              exact rs_1b x ao cap _ _ w hD hM1 hm' e1 h0 (empty_no he)
        · rw [if_neg h1] at bad good
          have e1 := neN (b := 1) h1
          by_cases h2 : x.op = 2
          · rw [if_pos h2] at bad good
            have e2 := eqN (b := 2) h2
            have hl : x.args.length = 0 := by rw [h2] at hm; have : manyI 2 = 0 := by decide
                                              omega
            by_cases h0 : x.n = 0
            · rw [decide_eq_true h0] at bad good
              by_cases he : x.name.size = 0
              · rw [good (by rw [decide_eq_true he]; rfl), leaf hl]
                exact rs_2d x ao cap _ _ w hD hM1 hm' e1 e2 (inn h0) (empty_yes he) hl
              · rw [bad (by rw [decide_eq_false he]; rfl)]
                exact rs_2b x ao cap _ _ w hD hM1 hm' e1 e2 (inn h0) (empty_no he)
            · rw [decide_eq_false h0] at bad good
              by_cases h01 : x.n = 1
              · rw [decide_eq_true h01] at bad good
                by_cases he : x.name.size = 0
                · rw [good (by rw [decide_eq_true he]; rfl), leaf hl]
                  exact rs_2e x ao cap _ _ w hD hM1 hm' e1 e2 (inq h0) (inn h01) (empty_yes he) hl
                · rw [bad (by rw [decide_eq_false he]; rfl)]
                  exact rs_2c x ao cap _ _ w hD hM1 hm' e1 e2 (inq h0) (inn h01) (empty_no he)
              · rw [decide_eq_false h01] at bad
                rw [bad rfl]
                exact rs_2a x ao cap _ _ w hD hM1 hm' e1 e2 (inq h0) (inq h01)
          · rw [if_neg h2] at bad good
            have e2 := neN (b := 2) h2
            by_cases h3 : x.op = 3
            · rw [if_pos h3] at bad good
              have e3 := eqN (b := 3) h3
              have hl : x.args.length = 0 := by rw [h3] at hm; have : manyI 3 = 0 := by decide
                                                omega
              by_cases h0 : x.n = 0
              · rw [decide_eq_true h0] at bad good
                cases hb : isName x.name with
                | false =>
                  rw [bad (by rw [hb]; rfl)]
                  exact rs_3b x ao cap _ _ w hD hM1 hm' e1 e2 e3 (inn h0) hnm hb
                | true =>
                  rw [good (by rw [hb]; rfl), leaf hl]
                  exact rs_3c x ao cap _ _ w hD hM1 hm' e1 e2 e3 (inn h0) hnm hb hl
              · rw [decide_eq_false h0] at bad
                rw [bad rfl]
                exact rs_3a x ao cap _ _ w hD hM1 hm' e1 e2 e3 (inq h0)
            · rw [if_neg h3] at bad good
              have e3 := neN (b := 3) h3
              by_cases h0 : x.n = 0
              · rw [decide_eq_true h0] at bad good
                by_cases he : x.name.size = 0
                · rw [good (by rw [decide_eq_true he]; rfl)]
                  exact rs_4c x ao cap _ _ w d ih hd rfl M rfl (by omega) hM hD hM1 hm' e1 e2 e3 (inn h0) (empty_yes he) hS
                · rw [bad (by rw [decide_eq_false he]; rfl)]
                  exact rs_4b x ao cap _ _ w hD hM1 hm' e1 e2 e3 (inn h0) (empty_no he)
              · rw [decide_eq_false h0] at bad
                rw [bad rfl]
                exact rs_4a x ao cap _ _ w hD hM1 hm' e1 e2 e3 (inq h0)
      · rw [decide_eq_false hm, Bool.false_and] at hsplit
        rw [sz_none (.inr hsplit)]
        exact rs_mn x ao cap _ _ w hD hM1 (many_ne hm)
set_option maxRecDepth 100000 in
/-- The document's own Check. -/
theorem rcheck (x : Ex) (w : World) (s : Value) (hS : St w x s) : Calls Tryd.prog 12 #[exV x s] w fun e w' => e = .returned (.bool (chk x)) ∧ Below w.heap.size w w' := by
  obtain ⟨ao, cap, sl, rfl, _⟩ := hS.out
  have b1 := (Below.refl w.heap.size w).alloc (Nat.le_refl _) (.cells #[.int .u8 (x.op : Int), .int .i64 x.n, .string x.name, .slice ao x.args.length cap] 25)
  have c := rsize_any 32 (Nat.le_refl _) x _ _ 200 (Nat.le_refl _) (hS.keep b1)
  have H1 := hid b1
  unfold chk
  cases hz : sz 32 200 x with
  | none =>
    rw [hz] at c
    simp only [szI] at c
    clear hS b1
    go_enter Tryd.func12, Tryd.ntmps12
    go_wp2_with (go_at_call 28; refine c.mono ?_; rintro e w3 ⟨rfl, hb3⟩)
    go_ret
    exact ⟨rfl, bstep H1.out hb3⟩
  | some k =>
    have hk := sz_le _ _ _ _ hz
    have hk' : (0 : Int) < (k : Int) := by omega
    rw [hz] at c
    simp only [szI] at c
    clear hS b1 hz
    go_enter Tryd.func12, Tryd.ntmps12
    go_wp2_with (go_at_call 28; refine c.mono ?_; rintro e w3 ⟨rfl, hb3⟩)
    go_ret
    exact ⟨by first | rfl | (simp; omega), bstep H1.out hb3⟩
end Go.Proofs.YtkieljleopbhoaaDoor.Lex
namespace Go.Proofs.YtkieljleopbhoaaDoor.Lex
open Go.ChangeShapes Go.WideShapes Go.ChangeAt Go.RowKit Go.Joins
set_option linter.unusedVariables false
def RWrC (d : Nat) : Prop := ∀ (x : Ex) (w : World) (s : Value) (M k : Nat), M ≤ 200 → sz d M x = some k → St w x s → Calls Tryd.prog 26 #[exV x s] w fun e w' => e = .returned (.string ⟨(wr x).toArray⟩) ∧ Below w.heap.size w w'
def RPlC (d : Nat) : Prop := ∀ (x : Ex) (w : World) (s : Value) (M k asked : Nat), M ≤ 200 → asked ≤ 7 → sz d M x = some k → St w x s → Calls Tryd.prog 46 #[exV x s, .int .i64 (asked : Int)] w fun e w' => e = .returned (.string ⟨(put asked (rkOf x.op) (wr x)).toArray⟩) ∧ Below w.heap.size w w'
set_option maxRecDepth 100000 in
theorem rpl_of (d : Nat) (h : RWrC d) : RPlC d := by
  intro x w s M k asked hM hA hz hS
  obtain ⟨ao, cap, sl, rfl, _⟩ := hS.out
  have hl := wr_len d M x k w _ hz hS
  have hk := (sz_le _ _ _ _ hz).2
  have b1 := (Below.refl w.heap.size w).alloc (Nat.le_refl _) (.cells #[.int .u8 (x.op : Int), .int .i64 x.n, .string x.name, .slice ao x.args.length cap] 25)
  have cr := fun W => rank_any x.op W
  have cw := h x _ _ M k hM hz (hS.keep b1)
  have B1 := hid b1
  have bx := fun j v => box_at w #[.int .u8 (x.op : Int), .int .i64 x.n, .string x.name, .slice ao x.args.length cap] 25 j v
  obtain ⟨X, hX⟩ : ∃ X : ByteArray, (⟨(wr x).toArray⟩ : ByteArray) = X := ⟨_, rfl⟩
  have hXs : X.size ≤ 13000 := by rw [← hX, bsize]; omega
  unfold put
  clear hS hz hl hk b1 h
  by_cases hr : rkOf x.op < asked
  · have hr' : (rkOf x.op : Int) < (asked : Int) := by omega
    have HG : Hid ((⟨(40 :: (wr x ++ [41])).toArray⟩ : ByteArray) = (⟨#[40]⟩ : ByteArray) ++ X ++ (⟨#[41]⟩ : ByteArray)) := by
      unfold Hid
      rw [← hX]
      apply ByteArray.ext
      rw [ByteArray.data_append, ByteArray.data_append]
      simp
    rw [if_pos hr, HG.out]
    rw [hX] at cw
    clear hr HG hX
    generalize (rkOf x.op : Int) = R at *
    go_enter Tryd.func46, Tryd.ntmps46
    go_wp2_with (first
      | (go_at_call 26; refine cw.mono ?_; rintro e w2 ⟨rfl, hb2⟩; have y0 := cell_kept (bx 0 _ rfl) hb2; have B2 := hid (bstep B1.out hb2); clear hb2 bx cw)
      | (go_at_call 44; refine (cr _).mono ?_; rintro e w3 ⟨rfl, rfl⟩))
    go_ret
    exact ⟨rfl, B2.out⟩
  · have hr' : ¬ (rkOf x.op : Int) < (asked : Int) := by omega
    rw [if_neg hr, hX]
    rw [hX] at cw
    clear hr hX
    generalize (rkOf x.op : Int) = R at *
    go_enter Tryd.func46, Tryd.ntmps46
    go_wp2_with (first
      | (go_at_call 26; refine cw.mono ?_; rintro e w2 ⟨rfl, hb2⟩; have y0 := cell_kept (bx 0 _ rfl) hb2; have B2 := hid (bstep B1.out hb2); clear hb2 bx cw)
      | (go_at_call 44; refine (cr _).mono ?_; rintro e w3 ⟨rfl, rfl⟩))
    go_ret
    exact ⟨rfl, B2.out⟩
set_option maxRecDepth 100000 in
theorem rw_int (x : Ex) (w : World) (ao : Option Addr) (cap : Nat) (R : Int) (cr : ∀ W, Calls Tryd.prog 44 #[.int .u8 (x.op : Int)] W fun e w' => e = .returned (.int .i64 R) ∧ w' = W) (e1 : ((x.op : Int) == 1) = true) (u : Nat) (hu : x.n = (u : Int)) (h1 : u ≤ 9223372036854775807) :
    Calls Tryd.prog 26 #[exV x (.slice ao x.args.length cap)] w fun e w' => e = .returned (.string ⟨(Lib.decDigits u).toArray⟩) ∧ Below w.heap.size w w' := by
  have b1 := (Below.refl w.heap.size w).alloc (Nat.le_refl _) (.cells #[.int .u8 (x.op : Int), .int .i64 x.n, .string x.name, .slice ao x.args.length cap] 25)
  have c := fun W => digits u u (Nat.le_refl _) h1 W
  have B1 := hid b1
  rw [← hu] at c
  clear b1 hu
  go_enter Tryd.func26, Tryd.ntmps26
  go_wp2_with (first
    | (go_at_call 44; refine (cr _).mono ?_; rintro e w9 ⟨rfl, rfl⟩; clear cr)
    | (go_at_call 45; refine (c _).mono ?_; rintro e w2 ⟨rfl, k, rfl⟩))
  go_ret
  exact ⟨rfl, below_drewN B1.out k⟩
set_option maxRecDepth 100000 in
theorem rw_yes (x : Ex) (w : World) (ao : Option Addr) (cap : Nat) (R : Int) (cr : ∀ W, Calls Tryd.prog 44 #[.int .u8 (x.op : Int)] W fun e w' => e = .returned (.int .i64 R) ∧ w' = W) (e1 : ((x.op : Int) == 1) = false) (e2 : ((x.op : Int) == 2) = true) (h1 : (x.n == 1) = true) :
    Calls Tryd.prog 26 #[exV x (.slice ao x.args.length cap)] w fun e w' => e = .returned (.string ⟨#[116, 114, 117, 101]⟩) ∧ Below w.heap.size w w' := by
  go_enter Tryd.func26, Tryd.ntmps26
  go_wp2_with (go_at_call 44; refine (cr _).mono ?_; rintro e w9 ⟨rfl, rfl⟩; clear cr)
  go_ret
  exact ⟨rfl, (Below.refl _ _).alloc (Nat.le_refl _) _⟩
set_option maxRecDepth 100000 in
theorem rw_no (x : Ex) (w : World) (ao : Option Addr) (cap : Nat) (R : Int) (cr : ∀ W, Calls Tryd.prog 44 #[.int .u8 (x.op : Int)] W fun e w' => e = .returned (.int .i64 R) ∧ w' = W) (e1 : ((x.op : Int) == 1) = false) (e2 : ((x.op : Int) == 2) = true) (h1 : (x.n == 1) = false) :
    Calls Tryd.prog 26 #[exV x (.slice ao x.args.length cap)] w fun e w' => e = .returned (.string ⟨#[102, 97, 108, 115, 101]⟩) ∧ Below w.heap.size w w' := by
  go_enter Tryd.func26, Tryd.ntmps26
  go_wp2_with (go_at_call 44; refine (cr _).mono ?_; rintro e w9 ⟨rfl, rfl⟩; clear cr)
  go_ret
  exact ⟨rfl, (Below.refl _ _).alloc (Nat.le_refl _) _⟩
set_option maxRecDepth 100000 in
theorem rw_name (x : Ex) (w : World) (ao : Option Addr) (cap : Nat) (R : Int) (cr : ∀ W, Calls Tryd.prog 44 #[.int .u8 (x.op : Int)] W fun e w' => e = .returned (.int .i64 R) ∧ w' = W) (e1 : ((x.op : Int) == 1) = false) (e2 : ((x.op : Int) == 2) = false) (e3 : ((x.op : Int) == 3) = true) :
    Calls Tryd.prog 26 #[exV x (.slice ao x.args.length cap)] w fun e w' => e = .returned (.string x.name) ∧ Below w.heap.size w w' := by
  go_enter Tryd.func26, Tryd.ntmps26
  go_wp2_with (go_at_call 44; refine (cr _).mono ?_; rintro e w9 ⟨rfl, rfl⟩; clear cr)
  go_ret
  exact ⟨rfl, (Below.refl _ _).alloc (Nat.le_refl _) _⟩
set_option maxRecDepth 100000 in
theorem rw_not (x a : Ex) (w : World) (bb o cap : Nat) (ka : Option Addr) (ca : Nat) (R : Int) (cr : ∀ W, Calls Tryd.prog 44 #[.int .u8 (x.op : Int)] W fun e w' => e = .returned (.int .i64 R) ∧ w' = W) (e1 : ((x.op : Int) == 1) = false) (e2 : ((x.op : Int) == 2) = false) (e3 : ((x.op : Int) == 3) = false) (e17 : ((x.op : Int) == 17) = false) (e5 : ((x.op : Int) == 5) = true) (Y : ByteArray) (hY : Y.size ≤ 13100)  (hk : KidAt w bb o a ka ca)
    (c : ∀ W, Below w.heap.size w W → Calls Tryd.prog 46 #[exV a (.slice ka a.args.length ca), .int .i64 6] W fun e w' => e = .returned (.string Y) ∧ Below W.heap.size W w') :
    Calls Tryd.prog 26 #[exV x (.slice (some ⟨bb, o, none⟩) 1 cap)] w fun e w' => e = .returned (.string ((⟨#[110, 111, 116, 32]⟩ : ByteArray) ++ Y)) ∧ Below w.heap.size w w' := by
  have b1 := (Below.refl w.heap.size w).alloc (Nat.le_refl _) (.cells #[.int .u8 (x.op : Int), .int .i64 x.n, .string x.name, .slice (some ⟨bb, o, none⟩) 1 cap] 25)
  obtain ⟨v0, v1, v2, v3⟩ := hk.keep b1
  have B1 := hid b1
  clear hk b1
  go_enter Tryd.func26, Tryd.ntmps26
  go_wp2_with (first
    | (go_at_call 44; refine (cr _).mono ?_; rintro e w9 ⟨rfl, rfl⟩; clear cr)
    | (go_at_call 46; refine (c _ B1.out).mono ?_; rintro e w2 ⟨rfl, hb2⟩; have B2 := hid (bstep B1.out hb2); clear hb2 c))
  go_ret
  exact ⟨rfl, B2.out⟩
set_option maxRecDepth 100000 in
theorem rw_pre (x a : Ex) (w : World) (bb o cap : Nat) (ka : Option Addr) (ca : Nat) (R : Int) (cr : ∀ W, Calls Tryd.prog 44 #[.int .u8 (x.op : Int)] W fun e w' => e = .returned (.int .i64 R) ∧ w' = W) (e1 : ((x.op : Int) == 1) = false) (e2 : ((x.op : Int) == 2) = false) (e3 : ((x.op : Int) == 3) = false) (e17 : ((x.op : Int) == 17) = false) (e5 : ((x.op : Int) == 5) = false) (e19 : ((x.op : Int) == 19) = true) (Y : ByteArray) (hY : Y.size ≤ 13100)  (hk : KidAt w bb o a ka ca)
    (c : ∀ W, Below w.heap.size w W → Calls Tryd.prog 46 #[exV a (.slice ka a.args.length ca), .int .i64 6] W fun e w' => e = .returned (.string Y) ∧ Below W.heap.size W w') :
    Calls Tryd.prog 26 #[exV x (.slice (some ⟨bb, o, none⟩) 1 cap)] w fun e w' => e = .returned (.string ((⟨#[112, 114, 101, 32]⟩ : ByteArray) ++ Y)) ∧ Below w.heap.size w w' := by
  have b1 := (Below.refl w.heap.size w).alloc (Nat.le_refl _) (.cells #[.int .u8 (x.op : Int), .int .i64 x.n, .string x.name, .slice (some ⟨bb, o, none⟩) 1 cap] 25)
  obtain ⟨v0, v1, v2, v3⟩ := hk.keep b1
  have B1 := hid b1
  clear hk b1
  go_enter Tryd.func26, Tryd.ntmps26
  go_wp2_with (first
    | (go_at_call 44; refine (cr _).mono ?_; rintro e w9 ⟨rfl, rfl⟩; clear cr)
    | (go_at_call 46; refine (c _ B1.out).mono ?_; rintro e w2 ⟨rfl, hb2⟩; have B2 := hid (bstep B1.out hb2); clear hb2 c))
  go_ret
  exact ⟨rfl, B2.out⟩
set_option maxRecDepth 100000 in
theorem rw_neg2 (x a : Ex) (w : World) (bb o cap : Nat) (ka : Option Addr) (ca : Nat) (R : Int) (cr : ∀ W, Calls Tryd.prog 44 #[.int .u8 (x.op : Int)] W fun e w' => e = .returned (.int .i64 R) ∧ w' = W) (e1 : ((x.op : Int) == 1) = false) (e2 : ((x.op : Int) == 2) = false) (e3 : ((x.op : Int) == 3) = false) (e17 : ((x.op : Int) == 17) = false) (e5 : ((x.op : Int) == 5) = false) (e19 : ((x.op : Int) == 19) = false) (e4 : ((x.op : Int) == 4) = true) (Y : ByteArray) (hY : Y.size ≤ 13100) (h0 : 0 < Y.size) (y : UInt8) (hy : Y[0]'h0 = y) (hb : ((y.toNat : Int) == 45) = true) (hk : KidAt w bb o a ka ca)
    (c : ∀ W, Below w.heap.size w W → Calls Tryd.prog 46 #[exV a (.slice ka a.args.length ca), .int .i64 6] W fun e w' => e = .returned (.string Y) ∧ Below W.heap.size W w') :
    Calls Tryd.prog 26 #[exV x (.slice (some ⟨bb, o, none⟩) 1 cap)] w fun e w' => e = .returned (.string ((⟨#[45, 32]⟩ : ByteArray) ++ Y)) ∧ Below w.heap.size w w' := by
  have b1 := (Below.refl w.heap.size w).alloc (Nat.le_refl _) (.cells #[.int .u8 (x.op : Int), .int .i64 x.n, .string x.name, .slice (some ⟨bb, o, none⟩) 1 cap] 25)
  obtain ⟨v0, v1, v2, v3⟩ := hk.keep b1
  have B1 := hid b1
  have h0' : (0 : Int) < (Y.size : Int) := by omega
  clear hk b1
  go_enter Tryd.func26, Tryd.ntmps26
  go_wp2_with (first
    | (go_at_call 44; refine (cr _).mono ?_; rintro e w9 ⟨rfl, rfl⟩; clear cr)
    | (go_at_call 46; refine (c _ B1.out).mono ?_; rintro e w2 ⟨rfl, hb2⟩; have B2 := hid (bstep B1.out hb2); clear hb2 c))
  go_ret
  exact ⟨rfl, B2.out⟩
set_option maxRecDepth 100000 in
theorem rw_neg1 (x a : Ex) (w : World) (bb o cap : Nat) (ka : Option Addr) (ca : Nat) (R : Int) (cr : ∀ W, Calls Tryd.prog 44 #[.int .u8 (x.op : Int)] W fun e w' => e = .returned (.int .i64 R) ∧ w' = W) (e1 : ((x.op : Int) == 1) = false) (e2 : ((x.op : Int) == 2) = false) (e3 : ((x.op : Int) == 3) = false) (e17 : ((x.op : Int) == 17) = false) (e5 : ((x.op : Int) == 5) = false) (e19 : ((x.op : Int) == 19) = false) (e4 : ((x.op : Int) == 4) = true) (Y : ByteArray) (hY : Y.size ≤ 13100) (h0 : 0 < Y.size) (y : UInt8) (hy : Y[0]'h0 = y) (hb : ((y.toNat : Int) == 45) = false) (hk : KidAt w bb o a ka ca)
    (c : ∀ W, Below w.heap.size w W → Calls Tryd.prog 46 #[exV a (.slice ka a.args.length ca), .int .i64 6] W fun e w' => e = .returned (.string Y) ∧ Below W.heap.size W w') :
    Calls Tryd.prog 26 #[exV x (.slice (some ⟨bb, o, none⟩) 1 cap)] w fun e w' => e = .returned (.string ((⟨#[45]⟩ : ByteArray) ++ Y)) ∧ Below w.heap.size w w' := by
  have b1 := (Below.refl w.heap.size w).alloc (Nat.le_refl _) (.cells #[.int .u8 (x.op : Int), .int .i64 x.n, .string x.name, .slice (some ⟨bb, o, none⟩) 1 cap] 25)
  obtain ⟨v0, v1, v2, v3⟩ := hk.keep b1
  have B1 := hid b1
  have h0' : (0 : Int) < (Y.size : Int) := by omega
  clear hk b1
  go_enter Tryd.func26, Tryd.ntmps26
  go_wp2_with (first
    | (go_at_call 44; refine (cr _).mono ?_; rintro e w9 ⟨rfl, rfl⟩; clear cr)
    | (go_at_call 46; refine (c _ B1.out).mono ?_; rintro e w2 ⟨rfl, hb2⟩; have B2 := hid (bstep B1.out hb2); clear hb2 c))
  go_ret
  exact ⟨rfl, B2.out⟩
set_option maxRecDepth 100000 in
set_option maxHeartbeats 2000000 in
theorem rw_if (x a b c : Ex) (w : World) (bb o cap : Nat) (ka kb kc : Option Addr) (ca cb cc : Nat) (R : Int) (cr : ∀ W, Calls Tryd.prog 44 #[.int .u8 (x.op : Int)] W fun e w' => e = .returned (.int .i64 R) ∧ w' = W) (e1 : ((x.op : Int) == 1) = false) (e2 : ((x.op : Int) == 2) = false) (e3 : ((x.op : Int) == 3) = false) (e17 : ((x.op : Int) == 17) = true) (Y1 Y2 Y3 : ByteArray) (hY1 : Y1.size ≤ 13100) (hY2 : Y2.size ≤ 13100) (hY3 : Y3.size ≤ 13100)
    (hk : KidAt w bb o a ka ca ∧ KidAt w bb (o + 4) b kb cb ∧ KidAt w bb (o + 8) c kc cc)
    (c1 : ∀ W, Below w.heap.size w W → Calls Tryd.prog 46 #[exV a (.slice ka a.args.length ca), .int .i64 0] W fun e w' => e = .returned (.string Y1) ∧ Below W.heap.size W w')
    (c2 : ∀ W, Below w.heap.size w W → Calls Tryd.prog 46 #[exV b (.slice kb b.args.length cb), .int .i64 0] W fun e w' => e = .returned (.string Y2) ∧ Below W.heap.size W w')
    (c3 : ∀ W, Below w.heap.size w W → Calls Tryd.prog 46 #[exV c (.slice kc c.args.length cc), .int .i64 0] W fun e w' => e = .returned (.string Y3) ∧ Below W.heap.size W w') :
    Calls Tryd.prog 26 #[exV x (.slice (some ⟨bb, o, none⟩) 3 cap)] w fun e w' => e = .returned (.string ((⟨#[105, 102, 32]⟩ : ByteArray) ++ Y1 ++ (⟨#[32, 116, 104, 101, 110, 32]⟩ : ByteArray) ++ Y2 ++ (⟨#[32, 101, 108, 115, 101, 32]⟩ : ByteArray) ++ Y3)) ∧ Below w.heap.size w w' := by
  have b1 := (Below.refl w.heap.size w).alloc (Nat.le_refl _) (.cells #[.int .u8 (x.op : Int), .int .i64 x.n, .string x.name, .slice (some ⟨bb, o, none⟩) 3 cap] 25)
  have B1 := hid b1
  have X1 : (w.alloc (.cells #[.int .u8 (x.op : Int), .int .i64 x.n, .string x.name, .slice (some ⟨bb, o, none⟩) 3 cap] 25)).drew.cell? ⟨w.heap.size, 3, none⟩ = some (.slice (some ⟨bb, o, none⟩) 3 cap) := box_at w _ 25 3 _ rfl
  have hSH : ∀ W, Below w.heap.size w W → W.cell? ⟨w.heap.size, 3, none⟩ = some (.slice (some ⟨bb, o, none⟩) 3 cap) → W.cell? ⟨w.heap.size, 3, none⟩ = some (.slice (some ⟨bb, o, none⟩) 3 cap) ∧ (W.cell? ⟨bb, o, none⟩ = some (.int .u8 (a.op : Int)) ∧ W.cell? ⟨bb, o + 1, none⟩ = some (.int .i64 a.n) ∧ W.cell? ⟨bb, o + 2, none⟩ = some (.string a.name) ∧ W.cell? ⟨bb, o + 3, none⟩ = some (.slice ka a.args.length ca)) ∧ (W.cell? ⟨bb, o + 4, none⟩ = some (.int .u8 (b.op : Int)) ∧ W.cell? ⟨bb, o + 5, none⟩ = some (.int .i64 b.n) ∧ W.cell? ⟨bb, o + 6, none⟩ = some (.string b.name) ∧ W.cell? ⟨bb, o + 7, none⟩ = some (.slice kb b.args.length cb)) ∧ (W.cell? ⟨bb, o + 8, none⟩ = some (.int .u8 (c.op : Int)) ∧ W.cell? ⟨bb, o + 9, none⟩ = some (.int .i64 c.n) ∧ W.cell? ⟨bb, o + 10, none⟩ = some (.string c.name) ∧ W.cell? ⟨bb, o + 11, none⟩ = some (.slice kc c.args.length cc)) := fun W hb h => ⟨h, hk.1.keep hb, hk.2.1.keep hb, hk.2.2.keep hb⟩
  clear hk b1
  go_enter Tryd.func26, Tryd.ntmps26
  go_wp2_with (go_at_call 44; refine (cr _).mono ?_; rintro e w9 ⟨rfl, rfl⟩; clear cr)
  refine wp_region_held_drew (S := fun W => W.cell? ⟨w.heap.size, 3, none⟩ = some (.slice (some ⟨bb, o, none⟩) 3 cap) ∧ (W.cell? ⟨bb, o, none⟩ = some (.int .u8 (a.op : Int)) ∧ W.cell? ⟨bb, o + 1, none⟩ = some (.int .i64 a.n) ∧ W.cell? ⟨bb, o + 2, none⟩ = some (.string a.name) ∧ W.cell? ⟨bb, o + 3, none⟩ = some (.slice ka a.args.length ca)) ∧ (W.cell? ⟨bb, o + 4, none⟩ = some (.int .u8 (b.op : Int)) ∧ W.cell? ⟨bb, o + 5, none⟩ = some (.int .i64 b.n) ∧ W.cell? ⟨bb, o + 6, none⟩ = some (.string b.name) ∧ W.cell? ⟨bb, o + 7, none⟩ = some (.slice kb b.args.length cb)) ∧ (W.cell? ⟨bb, o + 8, none⟩ = some (.int .u8 (c.op : Int)) ∧ W.cell? ⟨bb, o + 9, none⟩ = some (.int .i64 c.n) ∧ W.cell? ⟨bb, o + 10, none⟩ = some (.string c.name) ∧ W.cell? ⟨bb, o + 11, none⟩ = some (.slice kc c.args.length cc))) (by kernel_rfl) ?_ (fun hHeld => ?_)
  · exact hSH _ B1.out.drew X1
  refine wpAnyH_take (i := 0) (oi := { dst := some 27, op := Go.Op.fieldAddr 25 (Go.Operand.tmp 1) 3, type := 0, pos := _, after := #[], guard := none }) (v := ?_) rfl (by kernel_rfl) (by kernel_rfl) (by kernel_rfl) (fun _ _ _ h => h) (Or.inl ⟨by rfl, ?_⟩) (by assumption) ?_
  rotate_left
  · intro w hSw; (try dsimp only at hSw); go_simp <;> first | with_reducible rfl | (rw [if_neg (by first | omega | (simp only [ByteArray.size_append] at *; omega))])
  simp only [Act.put, List.setIfInBounds_toArray, List.set_cons_zero, List.set_cons_succ]
  refine wpAnyH_take (i := 1) (oi := { dst := some 28, op := Go.Op.load 23 (Go.Operand.tmp 27), type := 23, pos := _, after := #[{ on := 0, ground := Go.Ground.data }], guard := none }) (v := ?_) rfl (by kernel_rfl) (by kernel_rfl) (by kernel_rfl) (fun _ _ _ h => h) (Or.inl ⟨by rfl, ?_⟩) (by assumption) ?_
  rotate_left
  · intro w hSw; (try dsimp only at hSw); go_simp <;> first | with_reducible rfl | (rw [if_neg (by first | omega | (simp only [ByteArray.size_append] at *; omega))])
  simp only [Act.put, List.setIfInBounds_toArray, List.set_cons_zero, List.set_cons_succ]
  refine wpAnyH_take (i := 2) (oi := { dst := some 29, op := Go.Op.indexAddr 23 (Go.Operand.tmp 28) (Go.Operand.const (Go.Value.int Go.IntKind.i64 0)), type := 0, pos := _, after := #[{ on := 1, ground := Go.Ground.data }], guard := none }) (v := ?_) rfl (by kernel_rfl) (by kernel_rfl) (by kernel_rfl) (fun _ _ _ h => h) (Or.inl ⟨by rfl, ?_⟩) (by assumption) ?_
  rotate_left
  · intro w hSw; (try dsimp only at hSw); go_simp <;> first | with_reducible rfl | (rw [if_neg (by first | omega | (simp only [ByteArray.size_append] at *; omega))])
  simp only [Act.put, List.setIfInBounds_toArray, List.set_cons_zero, List.set_cons_succ]
  refine wpAnyH_take (i := 3) (oi := { dst := some 30, op := Go.Op.load 25 (Go.Operand.tmp 29), type := 25, pos := _, after := #[{ on := 2, ground := Go.Ground.data }], guard := none }) (v := ?_) rfl (by kernel_rfl) (by kernel_rfl) (by kernel_rfl) (fun _ _ _ h => h) (Or.inl ⟨by rfl, ?_⟩) (by assumption) ?_
  rotate_left
  · intro w hSw; (try dsimp only at hSw); go_simp <;> first | with_reducible rfl | (rw [if_neg (by first | omega | (simp only [ByteArray.size_append] at *; omega))])
  simp only [Act.put, List.setIfInBounds_toArray, List.set_cons_zero, List.set_cons_succ]
  refine wpAnyH_take (i := 7) (oi := { dst := some 34, op := Go.Op.fieldAddr 25 (Go.Operand.tmp 1) 3, type := 0, pos := _, after := #[], guard := none }) (v := ?_) rfl (by kernel_rfl) (by kernel_rfl) (by kernel_rfl) (fun _ _ _ h => h) (Or.inl ⟨by rfl, ?_⟩) (by assumption) ?_
  rotate_left
  · intro w hSw; (try dsimp only at hSw); go_simp <;> first | with_reducible rfl | (rw [if_neg (by first | omega | (simp only [ByteArray.size_append] at *; omega))])
  simp only [Act.put, List.setIfInBounds_toArray, List.set_cons_zero, List.set_cons_succ]
  refine wpAnyH_take (i := 8) (oi := { dst := some 35, op := Go.Op.load 23 (Go.Operand.tmp 34), type := 23, pos := _, after := #[{ on := 7, ground := Go.Ground.data }], guard := none }) (v := ?_) rfl (by kernel_rfl) (by kernel_rfl) (by kernel_rfl) (fun _ _ _ h => h) (Or.inl ⟨by rfl, ?_⟩) (by assumption) ?_
  rotate_left
  · intro w hSw; (try dsimp only at hSw); go_simp <;> first | with_reducible rfl | (rw [if_neg (by first | omega | (simp only [ByteArray.size_append] at *; omega))])
  simp only [Act.put, List.setIfInBounds_toArray, List.set_cons_zero, List.set_cons_succ]
  refine wpAnyH_take (i := 9) (oi := { dst := some 36, op := Go.Op.indexAddr 23 (Go.Operand.tmp 35) (Go.Operand.const (Go.Value.int Go.IntKind.i64 1)), type := 0, pos := _, after := #[{ on := 8, ground := Go.Ground.data }], guard := none }) (v := ?_) rfl (by kernel_rfl) (by kernel_rfl) (by kernel_rfl) (fun _ _ _ h => h) (Or.inl ⟨by rfl, ?_⟩) (by assumption) ?_
  rotate_left
  · intro w hSw; (try dsimp only at hSw); go_simp <;> first | with_reducible rfl | (rw [if_neg (by first | omega | (simp only [ByteArray.size_append] at *; omega))])
  simp only [Act.put, List.setIfInBounds_toArray, List.set_cons_zero, List.set_cons_succ]
  refine wpAnyH_take (i := 10) (oi := { dst := some 37, op := Go.Op.load 25 (Go.Operand.tmp 36), type := 25, pos := _, after := #[{ on := 9, ground := Go.Ground.data }], guard := none }) (v := ?_) rfl (by kernel_rfl) (by kernel_rfl) (by kernel_rfl) (fun _ _ _ h => h) (Or.inl ⟨by rfl, ?_⟩) (by assumption) ?_
  rotate_left
  · intro w hSw; (try dsimp only at hSw); go_simp <;> first | with_reducible rfl | (rw [if_neg (by first | omega | (simp only [ByteArray.size_append] at *; omega))])
  simp only [Act.put, List.setIfInBounds_toArray, List.set_cons_zero, List.set_cons_succ]
  refine wpAnyH_take (i := 14) (oi := { dst := some 41, op := Go.Op.fieldAddr 25 (Go.Operand.tmp 1) 3, type := 0, pos := _, after := #[], guard := none }) (v := ?_) rfl (by kernel_rfl) (by kernel_rfl) (by kernel_rfl) (fun _ _ _ h => h) (Or.inl ⟨by rfl, ?_⟩) (by assumption) ?_
  rotate_left
  · intro w hSw; (try dsimp only at hSw); go_simp <;> first | with_reducible rfl | (rw [if_neg (by first | omega | (simp only [ByteArray.size_append] at *; omega))])
  simp only [Act.put, List.setIfInBounds_toArray, List.set_cons_zero, List.set_cons_succ]
  refine wpAnyH_take (i := 15) (oi := { dst := some 42, op := Go.Op.load 23 (Go.Operand.tmp 41), type := 23, pos := _, after := #[{ on := 14, ground := Go.Ground.data }], guard := none }) (v := ?_) rfl (by kernel_rfl) (by kernel_rfl) (by kernel_rfl) (fun _ _ _ h => h) (Or.inl ⟨by rfl, ?_⟩) (by assumption) ?_
  rotate_left
  · intro w hSw; (try dsimp only at hSw); go_simp <;> first | with_reducible rfl | (rw [if_neg (by first | omega | (simp only [ByteArray.size_append] at *; omega))])
  simp only [Act.put, List.setIfInBounds_toArray, List.set_cons_zero, List.set_cons_succ]
  refine wpAnyH_take (i := 16) (oi := { dst := some 43, op := Go.Op.indexAddr 23 (Go.Operand.tmp 42) (Go.Operand.const (Go.Value.int Go.IntKind.i64 2)), type := 0, pos := _, after := #[{ on := 15, ground := Go.Ground.data }], guard := none }) (v := ?_) rfl (by kernel_rfl) (by kernel_rfl) (by kernel_rfl) (fun _ _ _ h => h) (Or.inl ⟨by rfl, ?_⟩) (by assumption) ?_
  rotate_left
  · intro w hSw; (try dsimp only at hSw); go_simp <;> first | with_reducible rfl | (rw [if_neg (by first | omega | (simp only [ByteArray.size_append] at *; omega))])
  simp only [Act.put, List.setIfInBounds_toArray, List.set_cons_zero, List.set_cons_succ]
  refine wpAnyH_take (i := 17) (oi := { dst := some 44, op := Go.Op.load 25 (Go.Operand.tmp 43), type := 25, pos := _, after := #[{ on := 16, ground := Go.Ground.data }], guard := none }) (v := ?_) rfl (by kernel_rfl) (by kernel_rfl) (by kernel_rfl) (fun _ _ _ h => h) (Or.inl ⟨by rfl, ?_⟩) (by assumption) ?_
  rotate_left
  · intro w hSw; (try dsimp only at hSw); go_simp <;> first | with_reducible rfl | (rw [if_neg (by first | omega | (simp only [ByteArray.size_append] at *; omega))])
  simp only [Act.put, List.setIfInBounds_toArray, List.set_cons_zero, List.set_cons_succ]
  refine wpAnyH_ready (rs := [4]) (by kernel_rfl) (by simp) ?_
  refine AllReadyH.cons (o := { dst := some 31, op := Go.Op.call { callee := Go.Callee.value (Go.Operand.func 46), args := #[Go.Operand.tmp 30, Go.Operand.const (Go.Value.int Go.IntKind.i64 0)], argTypes := #[25, 3] }, type := 9, pos := _, after := #[{ on := 3, ground := Go.Ground.data }], guard := none }) rfl (fun K hK => ?_) AllReadyH.nil
  go_simp
  refine (c1 _ (B1.out.drew)).mono ?_
  rintro e w2 ⟨rfl, hw2⟩
  have B2 := hid (bstep (B1.out.drew) hw2)
  have X2 := cell_kept X1 hw2
  go_wp2_with fail
  refine hK.out _ _ ?_ (fun hHeld1 => ?_)
  · exact hSH _ B2.out X2
  clear hK K
  refine wpAnyH_take (i := 5) (oi := { dst := some 32, op := Go.Op.binOp Go.BinOp.add 9 (Go.Operand.const (Go.Value.string { data := #[105, 102, 32] })) (Go.Operand.tmp 31) 9, type := 9, pos := _, after := #[{ on := 4, ground := Go.Ground.data }], guard := none }) (v := ?_) rfl (by kernel_rfl) (by kernel_rfl) (by kernel_rfl) (fun _ _ _ h => h) (Or.inl ⟨by rfl, ?_⟩) (by assumption) ?_
  rotate_left
  · intro w hSw; (try dsimp only at hSw); go_simp <;> first | with_reducible rfl | (rw [if_neg (by first | omega | (simp only [ByteArray.size_append] at *; omega))])
  simp only [Act.put, List.setIfInBounds_toArray, List.set_cons_zero, List.set_cons_succ]
  refine wpAnyH_take (i := 6) (oi := { dst := some 33, op := Go.Op.binOp Go.BinOp.add 9 (Go.Operand.tmp 32) (Go.Operand.const (Go.Value.string { data := #[32, 116, 104, 101, 110, 32] })) 9, type := 9, pos := _, after := #[{ on := 5, ground := Go.Ground.data }], guard := none }) (v := ?_) rfl (by kernel_rfl) (by kernel_rfl) (by kernel_rfl) (fun _ _ _ h => h) (Or.inl ⟨by rfl, ?_⟩) (by assumption) ?_
  rotate_left
  · intro w hSw; (try dsimp only at hSw); go_simp <;> first | with_reducible rfl | (rw [if_neg (by first | omega | (simp only [ByteArray.size_append] at *; omega))])
  simp only [Act.put, List.setIfInBounds_toArray, List.set_cons_zero, List.set_cons_succ]
  refine wpAnyH_ready (rs := [11]) (by kernel_rfl) (by simp) ?_
  refine AllReadyH.cons (o := { dst := some 38, op := Go.Op.call { callee := Go.Callee.value (Go.Operand.func 46), args := #[Go.Operand.tmp 37, Go.Operand.const (Go.Value.int Go.IntKind.i64 0)], argTypes := #[25, 3] }, type := 9, pos := _, after := #[{ on := 10, ground := Go.Ground.data }, { on := 4, ground := Go.Ground.chain }], guard := none }) rfl (fun K hK => ?_) AllReadyH.nil
  go_simp
  refine (c2 _ (B2.out)).mono ?_
  rintro e w3 ⟨rfl, hw3⟩
  have B3 := hid (bstep (B2.out) hw3)
  have X3 := cell_kept X2 hw3
  go_wp2_with fail
  refine hK.out _ _ ?_ (fun hHeld2 => ?_)
  · exact hSH _ B3.out X3
  clear hK K
  refine wpAnyH_take (i := 12) (oi := { dst := some 39, op := Go.Op.binOp Go.BinOp.add 9 (Go.Operand.tmp 33) (Go.Operand.tmp 38) 9, type := 9, pos := _, after := #[{ on := 6, ground := Go.Ground.data }, { on := 11, ground := Go.Ground.data }], guard := none }) (v := ?_) rfl (by kernel_rfl) (by kernel_rfl) (by kernel_rfl) (fun _ _ _ h => h) (Or.inl ⟨by rfl, ?_⟩) (by assumption) ?_
  rotate_left
  · intro w hSw; (try dsimp only at hSw); go_simp <;> first | with_reducible rfl | (rw [if_neg (by first | omega | (simp only [ByteArray.size_append] at *; omega))])
  simp only [Act.put, List.setIfInBounds_toArray, List.set_cons_zero, List.set_cons_succ]
  refine wpAnyH_take (i := 13) (oi := { dst := some 40, op := Go.Op.binOp Go.BinOp.add 9 (Go.Operand.tmp 39) (Go.Operand.const (Go.Value.string { data := #[32, 101, 108, 115, 101, 32] })) 9, type := 9, pos := _, after := #[{ on := 12, ground := Go.Ground.data }], guard := none }) (v := ?_) rfl (by kernel_rfl) (by kernel_rfl) (by kernel_rfl) (fun _ _ _ h => h) (Or.inl ⟨by rfl, ?_⟩) (by assumption) ?_
  rotate_left
  · intro w hSw; (try dsimp only at hSw); go_simp <;> first | with_reducible rfl | (rw [if_neg (by first | omega | (simp only [ByteArray.size_append] at *; omega))])
  simp only [Act.put, List.setIfInBounds_toArray, List.set_cons_zero, List.set_cons_succ]
  refine wpAnyH_ready (rs := [18]) (by kernel_rfl) (by simp) ?_
  refine AllReadyH.cons (o := { dst := some 45, op := Go.Op.call { callee := Go.Callee.value (Go.Operand.func 46), args := #[Go.Operand.tmp 44, Go.Operand.const (Go.Value.int Go.IntKind.i64 0)], argTypes := #[25, 3] }, type := 9, pos := _, after := #[{ on := 17, ground := Go.Ground.data }, { on := 11, ground := Go.Ground.chain }], guard := none }) rfl (fun K hK => ?_) AllReadyH.nil
  go_simp
  refine (c3 _ (B3.out)).mono ?_
  rintro e w4 ⟨rfl, hw4⟩
  have B4 := hid (bstep (B3.out) hw4)
  have X4 := cell_kept X3 hw4
  go_wp2_with fail
  refine hK.out _ _ ?_ (fun hHeld3 => ?_)
  · exact hSH _ B4.out X4
  clear hK K
  refine wpAnyH_take (i := 19) (oi := { dst := some 46, op := Go.Op.binOp Go.BinOp.add 9 (Go.Operand.tmp 40) (Go.Operand.tmp 45) 9, type := 9, pos := _, after := #[{ on := 13, ground := Go.Ground.data }, { on := 18, ground := Go.Ground.data }], guard := none }) (v := ?_) rfl (by kernel_rfl) (by kernel_rfl) (by kernel_rfl) (fun _ _ _ h => h) (Or.inl ⟨by rfl, ?_⟩) (by assumption) ?_
  rotate_left
  · intro w hSw; (try dsimp only at hSw); go_simp <;> first | with_reducible rfl | (rw [if_neg (by first | omega | (simp only [ByteArray.size_append] at *; omega))])
  simp only [Act.put, List.setIfInBounds_toArray, List.set_cons_zero, List.set_cons_succ]
  refine wpAnyH_take (i := 20) (oi := { dst := some 2, op := Go.Op.assign (Go.Operand.tmp 46), type := 9, pos := _, after := #[{ on := 19, ground := Go.Ground.data }, { on := 18, ground := Go.Ground.chain }, { on := 0, ground := Go.Ground.phase }, { on := 1, ground := Go.Ground.phase }, { on := 2, ground := Go.Ground.phase }, { on := 3, ground := Go.Ground.phase }, { on := 4, ground := Go.Ground.phase }, { on := 5, ground := Go.Ground.phase }, { on := 6, ground := Go.Ground.phase }, { on := 7, ground := Go.Ground.phase }, { on := 8, ground := Go.Ground.phase }, { on := 9, ground := Go.Ground.phase }, { on := 10, ground := Go.Ground.phase }, { on := 11, ground := Go.Ground.phase }, { on := 12, ground := Go.Ground.phase }, { on := 13, ground := Go.Ground.phase }, { on := 14, ground := Go.Ground.phase }, { on := 15, ground := Go.Ground.phase }, { on := 16, ground := Go.Ground.phase }, { on := 17, ground := Go.Ground.phase }, { on := 18, ground := Go.Ground.phase }, { on := 19, ground := Go.Ground.phase }], guard := none }) (v := ?_) rfl (by kernel_rfl) (by kernel_rfl) (by kernel_rfl) (fun _ _ _ h => h) (Or.inl ⟨by rfl, ?_⟩) (by assumption) ?_
  rotate_left
  · intro w hSw; (try dsimp only at hSw); go_simp <;> first | with_reducible rfl | (rw [if_neg (by first | omega | (simp only [ByteArray.size_append] at *; omega))])
  simp only [Act.put, List.setIfInBounds_toArray, List.set_cons_zero, List.set_cons_succ]
  refine wpAnyH_done (by kernel_rfl) ?_ _
  go_wp2
  go_ret
  exact ⟨rfl, B4.out⟩
set_option maxRecDepth 100000 in
set_option maxHeartbeats 2000000 in
theorem rw_then (x a b : Ex) (w : World) (bb o cap : Nat) (ka kb : Option Addr) (ca cb : Nat) (R : Int) (cr : ∀ W, Calls Tryd.prog 44 #[.int .u8 (x.op : Int)] W fun e w' => e = .returned (.int .i64 R) ∧ w' = W) (e1 : ((x.op : Int) == 1) = false) (e2 : ((x.op : Int) == 2) = false) (e3 : ((x.op : Int) == 3) = false) (e17 : ((x.op : Int) == 17) = false) (e5 : ((x.op : Int) == 5) = false) (e19 : ((x.op : Int) == 19) = false) (e4 : ((x.op : Int) == 4) = false) (e18 : ((x.op : Int) == 18) = true) (Y1 Y2 : ByteArray) (hY1 : Y1.size ≤ 13100) (hY2 : Y2.size ≤ 13100)
    (hk : KidAt w bb o a ka ca ∧ KidAt w bb (o + 4) b kb cb)
    (c1 : ∀ W, Below w.heap.size w W → Calls Tryd.prog 46 #[exV a (.slice ka a.args.length ca), .int .i64 1] W fun e w' => e = .returned (.string Y1) ∧ Below W.heap.size W w')
    (c2 : ∀ W, Below w.heap.size w W → Calls Tryd.prog 46 #[exV b (.slice kb b.args.length cb), .int .i64 0] W fun e w' => e = .returned (.string Y2) ∧ Below W.heap.size W w') :
    Calls Tryd.prog 26 #[exV x (.slice (some ⟨bb, o, none⟩) 2 cap)] w fun e w' => e = .returned (.string (Y1 ++ (⟨#[32, 45, 62, 32]⟩ : ByteArray) ++ Y2)) ∧ Below w.heap.size w w' := by
  have b1 := (Below.refl w.heap.size w).alloc (Nat.le_refl _) (.cells #[.int .u8 (x.op : Int), .int .i64 x.n, .string x.name, .slice (some ⟨bb, o, none⟩) 2 cap] 25)
  have B1 := hid b1
  have X1 : (w.alloc (.cells #[.int .u8 (x.op : Int), .int .i64 x.n, .string x.name, .slice (some ⟨bb, o, none⟩) 2 cap] 25)).drew.cell? ⟨w.heap.size, 3, none⟩ = some (.slice (some ⟨bb, o, none⟩) 2 cap) := box_at w _ 25 3 _ rfl
  have hSH : ∀ W, Below w.heap.size w W → W.cell? ⟨w.heap.size, 3, none⟩ = some (.slice (some ⟨bb, o, none⟩) 2 cap) → W.cell? ⟨w.heap.size, 3, none⟩ = some (.slice (some ⟨bb, o, none⟩) 2 cap) ∧ (W.cell? ⟨bb, o, none⟩ = some (.int .u8 (a.op : Int)) ∧ W.cell? ⟨bb, o + 1, none⟩ = some (.int .i64 a.n) ∧ W.cell? ⟨bb, o + 2, none⟩ = some (.string a.name) ∧ W.cell? ⟨bb, o + 3, none⟩ = some (.slice ka a.args.length ca)) ∧ (W.cell? ⟨bb, o + 4, none⟩ = some (.int .u8 (b.op : Int)) ∧ W.cell? ⟨bb, o + 5, none⟩ = some (.int .i64 b.n) ∧ W.cell? ⟨bb, o + 6, none⟩ = some (.string b.name) ∧ W.cell? ⟨bb, o + 7, none⟩ = some (.slice kb b.args.length cb)) := fun W hb h => ⟨h, hk.1.keep hb, hk.2.keep hb⟩
  clear hk b1
  go_enter Tryd.func26, Tryd.ntmps26
  go_wp2_with (go_at_call 44; refine (cr _).mono ?_; rintro e w9 ⟨rfl, rfl⟩; clear cr)
  refine wp_region_held_drew (S := fun W => W.cell? ⟨w.heap.size, 3, none⟩ = some (.slice (some ⟨bb, o, none⟩) 2 cap) ∧ (W.cell? ⟨bb, o, none⟩ = some (.int .u8 (a.op : Int)) ∧ W.cell? ⟨bb, o + 1, none⟩ = some (.int .i64 a.n) ∧ W.cell? ⟨bb, o + 2, none⟩ = some (.string a.name) ∧ W.cell? ⟨bb, o + 3, none⟩ = some (.slice ka a.args.length ca)) ∧ (W.cell? ⟨bb, o + 4, none⟩ = some (.int .u8 (b.op : Int)) ∧ W.cell? ⟨bb, o + 5, none⟩ = some (.int .i64 b.n) ∧ W.cell? ⟨bb, o + 6, none⟩ = some (.string b.name) ∧ W.cell? ⟨bb, o + 7, none⟩ = some (.slice kb b.args.length cb))) (by kernel_rfl) ?_ (fun hHeld => ?_)
  · exact hSH _ B1.out.drew X1
  refine wpAnyH_take (i := 0) (oi := { dst := some 79, op := Go.Op.fieldAddr 25 (Go.Operand.tmp 1) 3, type := 0, pos := _, after := #[], guard := none }) (v := ?_) rfl (by kernel_rfl) (by kernel_rfl) (by kernel_rfl) (fun _ _ _ h => h) (Or.inl ⟨by rfl, ?_⟩) (by assumption) ?_
  rotate_left
  · intro w hSw; (try dsimp only at hSw); go_simp <;> first | with_reducible rfl | (rw [if_neg (by first | omega | (simp only [ByteArray.size_append] at *; omega))])
  simp only [Act.put, List.setIfInBounds_toArray, List.set_cons_zero, List.set_cons_succ]
  refine wpAnyH_take (i := 1) (oi := { dst := some 80, op := Go.Op.load 23 (Go.Operand.tmp 79), type := 23, pos := _, after := #[{ on := 0, ground := Go.Ground.data }], guard := none }) (v := ?_) rfl (by kernel_rfl) (by kernel_rfl) (by kernel_rfl) (fun _ _ _ h => h) (Or.inl ⟨by rfl, ?_⟩) (by assumption) ?_
  rotate_left
  · intro w hSw; (try dsimp only at hSw); go_simp <;> first | with_reducible rfl | (rw [if_neg (by first | omega | (simp only [ByteArray.size_append] at *; omega))])
  simp only [Act.put, List.setIfInBounds_toArray, List.set_cons_zero, List.set_cons_succ]
  refine wpAnyH_take (i := 2) (oi := { dst := some 81, op := Go.Op.indexAddr 23 (Go.Operand.tmp 80) (Go.Operand.const (Go.Value.int Go.IntKind.i64 0)), type := 0, pos := _, after := #[{ on := 1, ground := Go.Ground.data }], guard := none }) (v := ?_) rfl (by kernel_rfl) (by kernel_rfl) (by kernel_rfl) (fun _ _ _ h => h) (Or.inl ⟨by rfl, ?_⟩) (by assumption) ?_
  rotate_left
  · intro w hSw; (try dsimp only at hSw); go_simp <;> first | with_reducible rfl | (rw [if_neg (by first | omega | (simp only [ByteArray.size_append] at *; omega))])
  simp only [Act.put, List.setIfInBounds_toArray, List.set_cons_zero, List.set_cons_succ]
  refine wpAnyH_take (i := 3) (oi := { dst := some 82, op := Go.Op.load 25 (Go.Operand.tmp 81), type := 25, pos := _, after := #[{ on := 2, ground := Go.Ground.data }], guard := none }) (v := ?_) rfl (by kernel_rfl) (by kernel_rfl) (by kernel_rfl) (fun _ _ _ h => h) (Or.inl ⟨by rfl, ?_⟩) (by assumption) ?_
  rotate_left
  · intro w hSw; (try dsimp only at hSw); go_simp <;> first | with_reducible rfl | (rw [if_neg (by first | omega | (simp only [ByteArray.size_append] at *; omega))])
  simp only [Act.put, List.setIfInBounds_toArray, List.set_cons_zero, List.set_cons_succ]
  refine wpAnyH_take (i := 6) (oi := { dst := some 85, op := Go.Op.fieldAddr 25 (Go.Operand.tmp 1) 3, type := 0, pos := _, after := #[], guard := none }) (v := ?_) rfl (by kernel_rfl) (by kernel_rfl) (by kernel_rfl) (fun _ _ _ h => h) (Or.inl ⟨by rfl, ?_⟩) (by assumption) ?_
  rotate_left
  · intro w hSw; (try dsimp only at hSw); go_simp <;> first | with_reducible rfl | (rw [if_neg (by first | omega | (simp only [ByteArray.size_append] at *; omega))])
  simp only [Act.put, List.setIfInBounds_toArray, List.set_cons_zero, List.set_cons_succ]
  refine wpAnyH_take (i := 7) (oi := { dst := some 86, op := Go.Op.load 23 (Go.Operand.tmp 85), type := 23, pos := _, after := #[{ on := 6, ground := Go.Ground.data }], guard := none }) (v := ?_) rfl (by kernel_rfl) (by kernel_rfl) (by kernel_rfl) (fun _ _ _ h => h) (Or.inl ⟨by rfl, ?_⟩) (by assumption) ?_
  rotate_left
  · intro w hSw; (try dsimp only at hSw); go_simp <;> first | with_reducible rfl | (rw [if_neg (by first | omega | (simp only [ByteArray.size_append] at *; omega))])
  simp only [Act.put, List.setIfInBounds_toArray, List.set_cons_zero, List.set_cons_succ]
  refine wpAnyH_take (i := 8) (oi := { dst := some 87, op := Go.Op.indexAddr 23 (Go.Operand.tmp 86) (Go.Operand.const (Go.Value.int Go.IntKind.i64 1)), type := 0, pos := _, after := #[{ on := 7, ground := Go.Ground.data }], guard := none }) (v := ?_) rfl (by kernel_rfl) (by kernel_rfl) (by kernel_rfl) (fun _ _ _ h => h) (Or.inl ⟨by rfl, ?_⟩) (by assumption) ?_
  rotate_left
  · intro w hSw; (try dsimp only at hSw); go_simp <;> first | with_reducible rfl | (rw [if_neg (by first | omega | (simp only [ByteArray.size_append] at *; omega))])
  simp only [Act.put, List.setIfInBounds_toArray, List.set_cons_zero, List.set_cons_succ]
  refine wpAnyH_take (i := 9) (oi := { dst := some 88, op := Go.Op.load 25 (Go.Operand.tmp 87), type := 25, pos := _, after := #[{ on := 8, ground := Go.Ground.data }], guard := none }) (v := ?_) rfl (by kernel_rfl) (by kernel_rfl) (by kernel_rfl) (fun _ _ _ h => h) (Or.inl ⟨by rfl, ?_⟩) (by assumption) ?_
  rotate_left
  · intro w hSw; (try dsimp only at hSw); go_simp <;> first | with_reducible rfl | (rw [if_neg (by first | omega | (simp only [ByteArray.size_append] at *; omega))])
  simp only [Act.put, List.setIfInBounds_toArray, List.set_cons_zero, List.set_cons_succ]
  refine wpAnyH_ready (rs := [4]) (by kernel_rfl) (by simp) ?_
  refine AllReadyH.cons (o := { dst := some 83, op := Go.Op.call { callee := Go.Callee.value (Go.Operand.func 46), args := #[Go.Operand.tmp 82, Go.Operand.const (Go.Value.int Go.IntKind.i64 1)], argTypes := #[25, 3] }, type := 9, pos := _, after := #[{ on := 3, ground := Go.Ground.data }], guard := none }) rfl (fun K hK => ?_) AllReadyH.nil
  go_simp
  refine (c1 _ (B1.out.drew)).mono ?_
  rintro e w2 ⟨rfl, hw2⟩
  have B2 := hid (bstep (B1.out.drew) hw2)
  have X2 := cell_kept X1 hw2
  go_wp2_with fail
  refine hK.out _ _ ?_ (fun hHeld1 => ?_)
  · exact hSH _ B2.out X2
  clear hK K
  refine wpAnyH_take (i := 5) (oi := { dst := some 84, op := Go.Op.binOp Go.BinOp.add 9 (Go.Operand.tmp 83) (Go.Operand.const (Go.Value.string { data := #[32, 45, 62, 32] })) 9, type := 9, pos := _, after := #[{ on := 4, ground := Go.Ground.data }], guard := none }) (v := ?_) rfl (by kernel_rfl) (by kernel_rfl) (by kernel_rfl) (fun _ _ _ h => h) (Or.inl ⟨by rfl, ?_⟩) (by assumption) ?_
  rotate_left
  · intro w hSw; (try dsimp only at hSw); go_simp <;> first | with_reducible rfl | (rw [if_neg (by first | omega | (simp only [ByteArray.size_append] at *; omega))])
  simp only [Act.put, List.setIfInBounds_toArray, List.set_cons_zero, List.set_cons_succ]
  refine wpAnyH_ready (rs := [10]) (by kernel_rfl) (by simp) ?_
  refine AllReadyH.cons (o := { dst := some 89, op := Go.Op.call { callee := Go.Callee.value (Go.Operand.func 46), args := #[Go.Operand.tmp 88, Go.Operand.const (Go.Value.int Go.IntKind.i64 0)], argTypes := #[25, 3] }, type := 9, pos := _, after := #[{ on := 9, ground := Go.Ground.data }, { on := 4, ground := Go.Ground.chain }], guard := none }) rfl (fun K hK => ?_) AllReadyH.nil
  go_simp
  refine (c2 _ (B2.out)).mono ?_
  rintro e w3 ⟨rfl, hw3⟩
  have B3 := hid (bstep (B2.out) hw3)
  have X3 := cell_kept X2 hw3
  go_wp2_with fail
  refine hK.out _ _ ?_ (fun hHeld2 => ?_)
  · exact hSH _ B3.out X3
  clear hK K
  refine wpAnyH_take (i := 11) (oi := { dst := some 90, op := Go.Op.binOp Go.BinOp.add 9 (Go.Operand.tmp 84) (Go.Operand.tmp 89) 9, type := 9, pos := _, after := #[{ on := 5, ground := Go.Ground.data }, { on := 10, ground := Go.Ground.data }], guard := none }) (v := ?_) rfl (by kernel_rfl) (by kernel_rfl) (by kernel_rfl) (fun _ _ _ h => h) (Or.inl ⟨by rfl, ?_⟩) (by assumption) ?_
  rotate_left
  · intro w hSw; (try dsimp only at hSw); go_simp <;> first | with_reducible rfl | (rw [if_neg (by first | omega | (simp only [ByteArray.size_append] at *; omega))])
  simp only [Act.put, List.setIfInBounds_toArray, List.set_cons_zero, List.set_cons_succ]
  refine wpAnyH_take (i := 12) (oi := { dst := some 2, op := Go.Op.assign (Go.Operand.tmp 90), type := 9, pos := _, after := #[{ on := 11, ground := Go.Ground.data }, { on := 10, ground := Go.Ground.chain }, { on := 0, ground := Go.Ground.phase }, { on := 1, ground := Go.Ground.phase }, { on := 2, ground := Go.Ground.phase }, { on := 3, ground := Go.Ground.phase }, { on := 4, ground := Go.Ground.phase }, { on := 5, ground := Go.Ground.phase }, { on := 6, ground := Go.Ground.phase }, { on := 7, ground := Go.Ground.phase }, { on := 8, ground := Go.Ground.phase }, { on := 9, ground := Go.Ground.phase }, { on := 10, ground := Go.Ground.phase }, { on := 11, ground := Go.Ground.phase }], guard := none }) (v := ?_) rfl (by kernel_rfl) (by kernel_rfl) (by kernel_rfl) (fun _ _ _ h => h) (Or.inl ⟨by rfl, ?_⟩) (by assumption) ?_
  rotate_left
  · intro w hSw; (try dsimp only at hSw); go_simp <;> first | with_reducible rfl | (rw [if_neg (by first | omega | (simp only [ByteArray.size_append] at *; omega))])
  simp only [Act.put, List.setIfInBounds_toArray, List.set_cons_zero, List.set_cons_succ]
  refine wpAnyH_done (by kernel_rfl) ?_ _
  go_wp2
  go_ret
  exact ⟨rfl, B3.out⟩
set_option maxRecDepth 100000 in
set_option maxHeartbeats 2000000 in
theorem rw_cmp (x a b : Ex) (w : World) (bb o cap : Nat) (ka kb : Option Addr) (ca cb : Nat) (R : Int) (cr : ∀ W, Calls Tryd.prog 44 #[.int .u8 (x.op : Int)] W fun e w' => e = .returned (.int .i64 R) ∧ w' = W) (h3 : (R == 3) = true) (hR0 : 0 ≤ R) (hR7 : R ≤ 7) (hw : IntKind.i64.wrap (R + 1) = R + 1) (e1 : ((x.op : Int) == 1) = false) (e2 : ((x.op : Int) == 2) = false) (e3 : ((x.op : Int) == 3) = false) (e17 : ((x.op : Int) == 17) = false) (e5 : ((x.op : Int) == 5) = false) (e19 : ((x.op : Int) == 19) = false) (e4 : ((x.op : Int) == 4) = false) (e18 : ((x.op : Int) == 18) = false) (T : ByteArray) (hT : T.size ≤ 3) (Y1 Y2 : ByteArray) (hY1 : Y1.size ≤ 13100) (hY2 : Y2.size ≤ 13100)
    (hk : KidAt w bb o a ka ca ∧ KidAt w bb (o + 4) b kb cb)
    (cs : ∀ W, Below w.heap.size w W → Calls Tryd.prog 47 #[.int .u8 (x.op : Int)] W fun e w' => e = .returned (.string T) ∧ Below W.heap.size W w')
    (c1 : ∀ W, Below w.heap.size w W → Calls Tryd.prog 46 #[exV a (.slice ka a.args.length ca), .int .i64 4] W fun e w' => e = .returned (.string Y1) ∧ Below W.heap.size W w')
    (c2 : ∀ W, Below w.heap.size w W → Calls Tryd.prog 46 #[exV b (.slice kb b.args.length cb), .int .i64 (R + 1)] W fun e w' => e = .returned (.string Y2) ∧ Below W.heap.size W w') :
    Calls Tryd.prog 26 #[exV x (.slice (some ⟨bb, o, none⟩) 2 cap)] w fun e w' => e = .returned (.string (Y1 ++ (⟨#[32]⟩ : ByteArray) ++ T ++ (⟨#[32]⟩ : ByteArray) ++ Y2)) ∧ Below w.heap.size w w' := by
  have b1 := (Below.refl w.heap.size w).alloc (Nat.le_refl _) (.cells #[.int .u8 (x.op : Int), .int .i64 x.n, .string x.name, .slice (some ⟨bb, o, none⟩) 2 cap] 25)
  have B1 := hid b1
  have X1 : (w.alloc (.cells #[.int .u8 (x.op : Int), .int .i64 x.n, .string x.name, .slice (some ⟨bb, o, none⟩) 2 cap] 25)).drew.cell? ⟨w.heap.size, 0, none⟩ = some (.int .u8 (x.op : Int)) ∧ (w.alloc (.cells #[.int .u8 (x.op : Int), .int .i64 x.n, .string x.name, .slice (some ⟨bb, o, none⟩) 2 cap] 25)).drew.cell? ⟨w.heap.size, 3, none⟩ = some (.slice (some ⟨bb, o, none⟩) 2 cap) := ⟨box_at w _ 25 0 _ rfl, box_at w _ 25 3 _ rfl⟩
  have hSH : ∀ W, Below w.heap.size w W → (W.cell? ⟨w.heap.size, 0, none⟩ = some (.int .u8 (x.op : Int)) ∧ W.cell? ⟨w.heap.size, 3, none⟩ = some (.slice (some ⟨bb, o, none⟩) 2 cap)) → (W.cell? ⟨w.heap.size, 0, none⟩ = some (.int .u8 (x.op : Int)) ∧ W.cell? ⟨w.heap.size, 3, none⟩ = some (.slice (some ⟨bb, o, none⟩) 2 cap)) ∧ (W.cell? ⟨bb, o, none⟩ = some (.int .u8 (a.op : Int)) ∧ W.cell? ⟨bb, o + 1, none⟩ = some (.int .i64 a.n) ∧ W.cell? ⟨bb, o + 2, none⟩ = some (.string a.name) ∧ W.cell? ⟨bb, o + 3, none⟩ = some (.slice ka a.args.length ca)) ∧ (W.cell? ⟨bb, o + 4, none⟩ = some (.int .u8 (b.op : Int)) ∧ W.cell? ⟨bb, o + 5, none⟩ = some (.int .i64 b.n) ∧ W.cell? ⟨bb, o + 6, none⟩ = some (.string b.name) ∧ W.cell? ⟨bb, o + 7, none⟩ = some (.slice kb b.args.length cb)) := fun W hb h => ⟨h, hk.1.keep hb, hk.2.keep hb⟩
  clear hk b1
  go_enter Tryd.func26, Tryd.ntmps26
  go_wp2_with (go_at_call 44; refine (cr _).mono ?_; rintro e w9 ⟨rfl, rfl⟩; clear cr)
  refine wp_region_held_drew (S := fun W => (W.cell? ⟨w.heap.size, 0, none⟩ = some (.int .u8 (x.op : Int)) ∧ W.cell? ⟨w.heap.size, 3, none⟩ = some (.slice (some ⟨bb, o, none⟩) 2 cap)) ∧ (W.cell? ⟨bb, o, none⟩ = some (.int .u8 (a.op : Int)) ∧ W.cell? ⟨bb, o + 1, none⟩ = some (.int .i64 a.n) ∧ W.cell? ⟨bb, o + 2, none⟩ = some (.string a.name) ∧ W.cell? ⟨bb, o + 3, none⟩ = some (.slice ka a.args.length ca)) ∧ (W.cell? ⟨bb, o + 4, none⟩ = some (.int .u8 (b.op : Int)) ∧ W.cell? ⟨bb, o + 5, none⟩ = some (.int .i64 b.n) ∧ W.cell? ⟨bb, o + 6, none⟩ = some (.string b.name) ∧ W.cell? ⟨bb, o + 7, none⟩ = some (.slice kb b.args.length cb))) (by kernel_rfl) ?_ (fun hHeld => ?_)
  · exact hSH _ B1.out.drew X1
  refine wpAnyH_take (i := 0) (oi := { dst := some 94, op := Go.Op.fieldAddr 25 (Go.Operand.tmp 1) 3, type := 0, pos := _, after := #[], guard := none }) (v := ?_) rfl (by kernel_rfl) (by kernel_rfl) (by kernel_rfl) (fun _ _ _ h => h) (Or.inl ⟨by rfl, ?_⟩) (by assumption) ?_
  rotate_left
  · intro w hSw; (try dsimp only at hSw); go_simp <;> first | with_reducible rfl | (rw [if_neg (by first | omega | (simp only [ByteArray.size_append] at *; omega))])
  simp only [Act.put, List.setIfInBounds_toArray, List.set_cons_zero, List.set_cons_succ]
  refine wpAnyH_take (i := 1) (oi := { dst := some 95, op := Go.Op.load 23 (Go.Operand.tmp 94), type := 23, pos := _, after := #[{ on := 0, ground := Go.Ground.data }], guard := none }) (v := ?_) rfl (by kernel_rfl) (by kernel_rfl) (by kernel_rfl) (fun _ _ _ h => h) (Or.inl ⟨by rfl, ?_⟩) (by assumption) ?_
  rotate_left
  · intro w hSw; (try dsimp only at hSw); go_simp <;> first | with_reducible rfl | (rw [if_neg (by first | omega | (simp only [ByteArray.size_append] at *; omega))])
  simp only [Act.put, List.setIfInBounds_toArray, List.set_cons_zero, List.set_cons_succ]
  refine wpAnyH_take (i := 2) (oi := { dst := some 96, op := Go.Op.indexAddr 23 (Go.Operand.tmp 95) (Go.Operand.const (Go.Value.int Go.IntKind.i64 0)), type := 0, pos := _, after := #[{ on := 1, ground := Go.Ground.data }], guard := none }) (v := ?_) rfl (by kernel_rfl) (by kernel_rfl) (by kernel_rfl) (fun _ _ _ h => h) (Or.inl ⟨by rfl, ?_⟩) (by assumption) ?_
  rotate_left
  · intro w hSw; (try dsimp only at hSw); go_simp <;> first | with_reducible rfl | (rw [if_neg (by first | omega | (simp only [ByteArray.size_append] at *; omega))])
  simp only [Act.put, List.setIfInBounds_toArray, List.set_cons_zero, List.set_cons_succ]
  refine wpAnyH_take (i := 3) (oi := { dst := some 97, op := Go.Op.load 25 (Go.Operand.tmp 96), type := 25, pos := _, after := #[{ on := 2, ground := Go.Ground.data }], guard := none }) (v := ?_) rfl (by kernel_rfl) (by kernel_rfl) (by kernel_rfl) (fun _ _ _ h => h) (Or.inl ⟨by rfl, ?_⟩) (by assumption) ?_
  rotate_left
  · intro w hSw; (try dsimp only at hSw); go_simp <;> first | with_reducible rfl | (rw [if_neg (by first | omega | (simp only [ByteArray.size_append] at *; omega))])
  simp only [Act.put, List.setIfInBounds_toArray, List.set_cons_zero, List.set_cons_succ]
  refine wpAnyH_take (i := 4) (oi := { dst := some 98, op := Go.Op.move (Go.Operand.tmp 5), type := 3, pos := _, after := #[], guard := none }) (v := ?_) rfl (by kernel_rfl) (by kernel_rfl) (by kernel_rfl) (fun _ _ _ h => h) (Or.inl ⟨by rfl, ?_⟩) (by assumption) ?_
  rotate_left
  · intro w hSw; (try dsimp only at hSw); go_simp <;> first | with_reducible rfl | (rw [if_neg (by first | omega | (simp only [ByteArray.size_append] at *; omega))])
  simp only [Act.put, List.setIfInBounds_toArray, List.set_cons_zero, List.set_cons_succ]
  refine wpAnyH_take (i := 7) (oi := { dst := some 101, op := Go.Op.fieldAddr 25 (Go.Operand.tmp 1) 0, type := 0, pos := _, after := #[], guard := none }) (v := ?_) rfl (by kernel_rfl) (by kernel_rfl) (by kernel_rfl) (fun _ _ _ h => h) (Or.inl ⟨by rfl, ?_⟩) (by assumption) ?_
  rotate_left
  · intro w hSw; (try dsimp only at hSw); go_simp <;> first | with_reducible rfl | (rw [if_neg (by first | omega | (simp only [ByteArray.size_append] at *; omega))])
  simp only [Act.put, List.setIfInBounds_toArray, List.set_cons_zero, List.set_cons_succ]
  refine wpAnyH_take (i := 8) (oi := { dst := some 102, op := Go.Op.load 22 (Go.Operand.tmp 101), type := 22, pos := _, after := #[{ on := 7, ground := Go.Ground.data }], guard := none }) (v := ?_) rfl (by kernel_rfl) (by kernel_rfl) (by kernel_rfl) (fun _ _ _ h => h) (Or.inl ⟨by rfl, ?_⟩) (by assumption) ?_
  rotate_left
  · intro w hSw; (try dsimp only at hSw); go_simp <;> first | with_reducible rfl | (rw [if_neg (by first | omega | (simp only [ByteArray.size_append] at *; omega))])
  simp only [Act.put, List.setIfInBounds_toArray, List.set_cons_zero, List.set_cons_succ]
  refine wpAnyH_take (i := 12) (oi := { dst := some 106, op := Go.Op.fieldAddr 25 (Go.Operand.tmp 1) 3, type := 0, pos := _, after := #[], guard := none }) (v := ?_) rfl (by kernel_rfl) (by kernel_rfl) (by kernel_rfl) (fun _ _ _ h => h) (Or.inl ⟨by rfl, ?_⟩) (by assumption) ?_
  rotate_left
  · intro w hSw; (try dsimp only at hSw); go_simp <;> first | with_reducible rfl | (rw [if_neg (by first | omega | (simp only [ByteArray.size_append] at *; omega))])
  simp only [Act.put, List.setIfInBounds_toArray, List.set_cons_zero, List.set_cons_succ]
  refine wpAnyH_take (i := 13) (oi := { dst := some 107, op := Go.Op.load 23 (Go.Operand.tmp 106), type := 23, pos := _, after := #[{ on := 12, ground := Go.Ground.data }], guard := none }) (v := ?_) rfl (by kernel_rfl) (by kernel_rfl) (by kernel_rfl) (fun _ _ _ h => h) (Or.inl ⟨by rfl, ?_⟩) (by assumption) ?_
  rotate_left
  · intro w hSw; (try dsimp only at hSw); go_simp <;> first | with_reducible rfl | (rw [if_neg (by first | omega | (simp only [ByteArray.size_append] at *; omega))])
  simp only [Act.put, List.setIfInBounds_toArray, List.set_cons_zero, List.set_cons_succ]
  refine wpAnyH_take (i := 14) (oi := { dst := some 108, op := Go.Op.indexAddr 23 (Go.Operand.tmp 107) (Go.Operand.const (Go.Value.int Go.IntKind.i64 1)), type := 0, pos := _, after := #[{ on := 13, ground := Go.Ground.data }], guard := none }) (v := ?_) rfl (by kernel_rfl) (by kernel_rfl) (by kernel_rfl) (fun _ _ _ h => h) (Or.inl ⟨by rfl, ?_⟩) (by assumption) ?_
  rotate_left
  · intro w hSw; (try dsimp only at hSw); go_simp <;> first | with_reducible rfl | (rw [if_neg (by first | omega | (simp only [ByteArray.size_append] at *; omega))])
  simp only [Act.put, List.setIfInBounds_toArray, List.set_cons_zero, List.set_cons_succ]
  refine wpAnyH_take (i := 15) (oi := { dst := some 109, op := Go.Op.load 25 (Go.Operand.tmp 108), type := 25, pos := _, after := #[{ on := 14, ground := Go.Ground.data }], guard := none }) (v := ?_) rfl (by kernel_rfl) (by kernel_rfl) (by kernel_rfl) (fun _ _ _ h => h) (Or.inl ⟨by rfl, ?_⟩) (by assumption) ?_
  rotate_left
  · intro w hSw; (try dsimp only at hSw); go_simp <;> first | with_reducible rfl | (rw [if_neg (by first | omega | (simp only [ByteArray.size_append] at *; omega))])
  simp only [Act.put, List.setIfInBounds_toArray, List.set_cons_zero, List.set_cons_succ]
  refine wpAnyH_take (i := 16) (oi := { dst := some 110, op := Go.Op.move (Go.Operand.tmp 3), type := 3, pos := _, after := #[], guard := none }) (v := ?_) rfl (by kernel_rfl) (by kernel_rfl) (by kernel_rfl) (fun _ _ _ h => h) (Or.inl ⟨by rfl, ?_⟩) (by assumption) ?_
  rotate_left
  · intro w hSw; (try dsimp only at hSw); go_simp <;> first | with_reducible rfl | (rw [if_neg (by first | omega | (simp only [ByteArray.size_append] at *; omega))])
  simp only [Act.put, List.setIfInBounds_toArray, List.set_cons_zero, List.set_cons_succ]
  refine wpAnyH_take (i := 17) (oi := { dst := some 111, op := Go.Op.binOp Go.BinOp.add 3 (Go.Operand.tmp 110) (Go.Operand.const (Go.Value.int Go.IntKind.i64 1)) 3, type := 3, pos := _, after := #[{ on := 16, ground := Go.Ground.data }], guard := none }) (v := ?_) rfl (by kernel_rfl) (by kernel_rfl) (by kernel_rfl) (fun _ _ _ h => h) (Or.inl ⟨by rfl, ?_⟩) (by assumption) ?_
  rotate_left
  · intro w hSw; (try dsimp only at hSw); go_simp <;> first | with_reducible rfl | (rw [if_neg (by first | omega | (simp only [ByteArray.size_append] at *; omega))])
  simp only [Act.put, List.setIfInBounds_toArray, List.set_cons_zero, List.set_cons_succ]
  refine wpAnyH_ready (rs := [5]) (by kernel_rfl) (by simp) ?_
  refine AllReadyH.cons (o := { dst := some 99, op := Go.Op.call { callee := Go.Callee.value (Go.Operand.func 46), args := #[Go.Operand.tmp 97, Go.Operand.tmp 98], argTypes := #[25, 3] }, type := 9, pos := _, after := #[{ on := 3, ground := Go.Ground.data }, { on := 4, ground := Go.Ground.data }], guard := none }) rfl (fun K hK => ?_) AllReadyH.nil
  go_simp
  refine (c1 _ (B1.out.drew)).mono ?_
  rintro e w2 ⟨rfl, hw2⟩
  have B2 := hid (bstep (B1.out.drew) hw2)
  have X2 : w2.cell? ⟨w.heap.size, 0, none⟩ = some (.int .u8 (x.op : Int)) ∧ w2.cell? ⟨w.heap.size, 3, none⟩ = some (.slice (some ⟨bb, o, none⟩) 2 cap) := ⟨cell_kept X1.1 hw2, cell_kept X1.2 hw2⟩
  go_wp2_with fail
  refine hK.out _ _ ?_ (fun hHeld1 => ?_)
  · exact hSH _ B2.out X2
  clear hK K
  refine wpAnyH_take (i := 6) (oi := { dst := some 100, op := Go.Op.binOp Go.BinOp.add 9 (Go.Operand.tmp 99) (Go.Operand.const (Go.Value.string { data := #[32] })) 9, type := 9, pos := _, after := #[{ on := 5, ground := Go.Ground.data }], guard := none }) (v := ?_) rfl (by kernel_rfl) (by kernel_rfl) (by kernel_rfl) (fun _ _ _ h => h) (Or.inl ⟨by rfl, ?_⟩) (by assumption) ?_
  rotate_left
  · intro w hSw; (try dsimp only at hSw); go_simp <;> first | with_reducible rfl | (rw [if_neg (by first | omega | (simp only [ByteArray.size_append] at *; omega))])
  simp only [Act.put, List.setIfInBounds_toArray, List.set_cons_zero, List.set_cons_succ]
  refine wpAnyH_ready (rs := [9]) (by kernel_rfl) (by simp) ?_
  refine AllReadyH.cons (o := { dst := some 103, op := Go.Op.call { callee := Go.Callee.value (Go.Operand.func 47), args := #[Go.Operand.tmp 102], argTypes := #[22] }, type := 9, pos := _, after := #[{ on := 8, ground := Go.Ground.data }, { on := 5, ground := Go.Ground.chain }], guard := none }) rfl (fun K hK => ?_) AllReadyH.nil
  go_simp
  refine (cs _ (B2.out)).mono ?_
  rintro e w3 ⟨rfl, hw3⟩
  have B3 := hid (bstep (B2.out) hw3)
  have X3 : w3.cell? ⟨w.heap.size, 0, none⟩ = some (.int .u8 (x.op : Int)) ∧ w3.cell? ⟨w.heap.size, 3, none⟩ = some (.slice (some ⟨bb, o, none⟩) 2 cap) := ⟨cell_kept X2.1 hw3, cell_kept X2.2 hw3⟩
  go_wp2_with fail
  refine hK.out _ _ ?_ (fun hHeld2 => ?_)
  · exact hSH _ B3.out X3
  clear hK K
  refine wpAnyH_take (i := 10) (oi := { dst := some 104, op := Go.Op.binOp Go.BinOp.add 9 (Go.Operand.tmp 100) (Go.Operand.tmp 103) 9, type := 9, pos := _, after := #[{ on := 6, ground := Go.Ground.data }, { on := 9, ground := Go.Ground.data }], guard := none }) (v := ?_) rfl (by kernel_rfl) (by kernel_rfl) (by kernel_rfl) (fun _ _ _ h => h) (Or.inl ⟨by rfl, ?_⟩) (by assumption) ?_
  rotate_left
  · intro w hSw; (try dsimp only at hSw); go_simp <;> first | with_reducible rfl | (rw [if_neg (by first | omega | (simp only [ByteArray.size_append] at *; omega))])
  simp only [Act.put, List.setIfInBounds_toArray, List.set_cons_zero, List.set_cons_succ]
  refine wpAnyH_take (i := 11) (oi := { dst := some 105, op := Go.Op.binOp Go.BinOp.add 9 (Go.Operand.tmp 104) (Go.Operand.const (Go.Value.string { data := #[32] })) 9, type := 9, pos := _, after := #[{ on := 10, ground := Go.Ground.data }], guard := none }) (v := ?_) rfl (by kernel_rfl) (by kernel_rfl) (by kernel_rfl) (fun _ _ _ h => h) (Or.inl ⟨by rfl, ?_⟩) (by assumption) ?_
  rotate_left
  · intro w hSw; (try dsimp only at hSw); go_simp <;> first | with_reducible rfl | (rw [if_neg (by first | omega | (simp only [ByteArray.size_append] at *; omega))])
  simp only [Act.put, List.setIfInBounds_toArray, List.set_cons_zero, List.set_cons_succ]
  refine wpAnyH_ready (rs := [18]) (by kernel_rfl) (by simp) ?_
  refine AllReadyH.cons (o := { dst := some 112, op := Go.Op.call { callee := Go.Callee.value (Go.Operand.func 46), args := #[Go.Operand.tmp 109, Go.Operand.tmp 111], argTypes := #[25, 3] }, type := 9, pos := _, after := #[{ on := 15, ground := Go.Ground.data }, { on := 17, ground := Go.Ground.data }, { on := 9, ground := Go.Ground.chain }], guard := none }) rfl (fun K hK => ?_) AllReadyH.nil
  go_simp
  refine (c2 _ (B3.out)).mono ?_
  rintro e w4 ⟨rfl, hw4⟩
  have B4 := hid (bstep (B3.out) hw4)
  have X4 : w4.cell? ⟨w.heap.size, 0, none⟩ = some (.int .u8 (x.op : Int)) ∧ w4.cell? ⟨w.heap.size, 3, none⟩ = some (.slice (some ⟨bb, o, none⟩) 2 cap) := ⟨cell_kept X3.1 hw4, cell_kept X3.2 hw4⟩
  go_wp2_with fail
  refine hK.out _ _ ?_ (fun hHeld3 => ?_)
  · exact hSH _ B4.out X4
  clear hK K
  refine wpAnyH_take (i := 19) (oi := { dst := some 113, op := Go.Op.binOp Go.BinOp.add 9 (Go.Operand.tmp 105) (Go.Operand.tmp 112) 9, type := 9, pos := _, after := #[{ on := 11, ground := Go.Ground.data }, { on := 18, ground := Go.Ground.data }], guard := none }) (v := ?_) rfl (by kernel_rfl) (by kernel_rfl) (by kernel_rfl) (fun _ _ _ h => h) (Or.inl ⟨by rfl, ?_⟩) (by assumption) ?_
  rotate_left
  · intro w hSw; (try dsimp only at hSw); go_simp <;> first | with_reducible rfl | (rw [if_neg (by first | omega | (simp only [ByteArray.size_append] at *; omega))])
  simp only [Act.put, List.setIfInBounds_toArray, List.set_cons_zero, List.set_cons_succ]
  refine wpAnyH_take (i := 20) (oi := { dst := some 2, op := Go.Op.assign (Go.Operand.tmp 113), type := 9, pos := _, after := #[{ on := 19, ground := Go.Ground.data }, { on := 18, ground := Go.Ground.chain }, { on := 0, ground := Go.Ground.phase }, { on := 1, ground := Go.Ground.phase }, { on := 2, ground := Go.Ground.phase }, { on := 3, ground := Go.Ground.phase }, { on := 4, ground := Go.Ground.phase }, { on := 5, ground := Go.Ground.phase }, { on := 6, ground := Go.Ground.phase }, { on := 7, ground := Go.Ground.phase }, { on := 8, ground := Go.Ground.phase }, { on := 9, ground := Go.Ground.phase }, { on := 10, ground := Go.Ground.phase }, { on := 11, ground := Go.Ground.phase }, { on := 12, ground := Go.Ground.phase }, { on := 13, ground := Go.Ground.phase }, { on := 14, ground := Go.Ground.phase }, { on := 15, ground := Go.Ground.phase }, { on := 16, ground := Go.Ground.phase }, { on := 17, ground := Go.Ground.phase }, { on := 18, ground := Go.Ground.phase }, { on := 19, ground := Go.Ground.phase }], guard := none }) (v := ?_) rfl (by kernel_rfl) (by kernel_rfl) (by kernel_rfl) (fun _ _ _ h => h) (Or.inl ⟨by rfl, ?_⟩) (by assumption) ?_
  rotate_left
  · intro w hSw; (try dsimp only at hSw); go_simp <;> first | with_reducible rfl | (rw [if_neg (by first | omega | (simp only [ByteArray.size_append] at *; omega))])
  simp only [Act.put, List.setIfInBounds_toArray, List.set_cons_zero, List.set_cons_succ]
  refine wpAnyH_done (by kernel_rfl) ?_ _
  go_wp2
  go_ret
  exact ⟨rfl, B4.out⟩
set_option maxRecDepth 100000 in
set_option maxHeartbeats 2000000 in
theorem rw_join (x a b : Ex) (w : World) (bb o cap : Nat) (ka kb : Option Addr) (ca cb : Nat) (R : Int) (cr : ∀ W, Calls Tryd.prog 44 #[.int .u8 (x.op : Int)] W fun e w' => e = .returned (.int .i64 R) ∧ w' = W) (h3 : (R == 3) = false) (hR0 : 0 ≤ R) (hR7 : R ≤ 7) (hw : IntKind.i64.wrap (R + 1) = R + 1) (e1 : ((x.op : Int) == 1) = false) (e2 : ((x.op : Int) == 2) = false) (e3 : ((x.op : Int) == 3) = false) (e17 : ((x.op : Int) == 17) = false) (e5 : ((x.op : Int) == 5) = false) (e19 : ((x.op : Int) == 19) = false) (e4 : ((x.op : Int) == 4) = false) (e18 : ((x.op : Int) == 18) = false) (T : ByteArray) (hT : T.size ≤ 3) (Y1 Y2 : ByteArray) (hY1 : Y1.size ≤ 13100) (hY2 : Y2.size ≤ 13100)
    (hk : KidAt w bb o a ka ca ∧ KidAt w bb (o + 4) b kb cb)
    (cs : ∀ W, Below w.heap.size w W → Calls Tryd.prog 47 #[.int .u8 (x.op : Int)] W fun e w' => e = .returned (.string T) ∧ Below W.heap.size W w')
    (c1 : ∀ W, Below w.heap.size w W → Calls Tryd.prog 46 #[exV a (.slice ka a.args.length ca), .int .i64 R] W fun e w' => e = .returned (.string Y1) ∧ Below W.heap.size W w')
    (c2 : ∀ W, Below w.heap.size w W → Calls Tryd.prog 46 #[exV b (.slice kb b.args.length cb), .int .i64 (R + 1)] W fun e w' => e = .returned (.string Y2) ∧ Below W.heap.size W w') :
    Calls Tryd.prog 26 #[exV x (.slice (some ⟨bb, o, none⟩) 2 cap)] w fun e w' => e = .returned (.string (Y1 ++ (⟨#[32]⟩ : ByteArray) ++ T ++ (⟨#[32]⟩ : ByteArray) ++ Y2)) ∧ Below w.heap.size w w' := by
  have b1 := (Below.refl w.heap.size w).alloc (Nat.le_refl _) (.cells #[.int .u8 (x.op : Int), .int .i64 x.n, .string x.name, .slice (some ⟨bb, o, none⟩) 2 cap] 25)
  have B1 := hid b1
  have X1 : (w.alloc (.cells #[.int .u8 (x.op : Int), .int .i64 x.n, .string x.name, .slice (some ⟨bb, o, none⟩) 2 cap] 25)).drew.cell? ⟨w.heap.size, 0, none⟩ = some (.int .u8 (x.op : Int)) ∧ (w.alloc (.cells #[.int .u8 (x.op : Int), .int .i64 x.n, .string x.name, .slice (some ⟨bb, o, none⟩) 2 cap] 25)).drew.cell? ⟨w.heap.size, 3, none⟩ = some (.slice (some ⟨bb, o, none⟩) 2 cap) := ⟨box_at w _ 25 0 _ rfl, box_at w _ 25 3 _ rfl⟩
  have hSH : ∀ W, Below w.heap.size w W → (W.cell? ⟨w.heap.size, 0, none⟩ = some (.int .u8 (x.op : Int)) ∧ W.cell? ⟨w.heap.size, 3, none⟩ = some (.slice (some ⟨bb, o, none⟩) 2 cap)) → (W.cell? ⟨w.heap.size, 0, none⟩ = some (.int .u8 (x.op : Int)) ∧ W.cell? ⟨w.heap.size, 3, none⟩ = some (.slice (some ⟨bb, o, none⟩) 2 cap)) ∧ (W.cell? ⟨bb, o, none⟩ = some (.int .u8 (a.op : Int)) ∧ W.cell? ⟨bb, o + 1, none⟩ = some (.int .i64 a.n) ∧ W.cell? ⟨bb, o + 2, none⟩ = some (.string a.name) ∧ W.cell? ⟨bb, o + 3, none⟩ = some (.slice ka a.args.length ca)) ∧ (W.cell? ⟨bb, o + 4, none⟩ = some (.int .u8 (b.op : Int)) ∧ W.cell? ⟨bb, o + 5, none⟩ = some (.int .i64 b.n) ∧ W.cell? ⟨bb, o + 6, none⟩ = some (.string b.name) ∧ W.cell? ⟨bb, o + 7, none⟩ = some (.slice kb b.args.length cb)) := fun W hb h => ⟨h, hk.1.keep hb, hk.2.keep hb⟩
  clear hk b1
  go_enter Tryd.func26, Tryd.ntmps26
  go_wp2_with (go_at_call 44; refine (cr _).mono ?_; rintro e w9 ⟨rfl, rfl⟩; clear cr)
  refine wp_region_held_drew (S := fun W => (W.cell? ⟨w.heap.size, 0, none⟩ = some (.int .u8 (x.op : Int)) ∧ W.cell? ⟨w.heap.size, 3, none⟩ = some (.slice (some ⟨bb, o, none⟩) 2 cap)) ∧ (W.cell? ⟨bb, o, none⟩ = some (.int .u8 (a.op : Int)) ∧ W.cell? ⟨bb, o + 1, none⟩ = some (.int .i64 a.n) ∧ W.cell? ⟨bb, o + 2, none⟩ = some (.string a.name) ∧ W.cell? ⟨bb, o + 3, none⟩ = some (.slice ka a.args.length ca)) ∧ (W.cell? ⟨bb, o + 4, none⟩ = some (.int .u8 (b.op : Int)) ∧ W.cell? ⟨bb, o + 5, none⟩ = some (.int .i64 b.n) ∧ W.cell? ⟨bb, o + 6, none⟩ = some (.string b.name) ∧ W.cell? ⟨bb, o + 7, none⟩ = some (.slice kb b.args.length cb))) (by kernel_rfl) ?_ (fun hHeld => ?_)
  · exact hSH _ B1.out.drew X1
  refine wpAnyH_take (i := 0) (oi := { dst := some 94, op := Go.Op.fieldAddr 25 (Go.Operand.tmp 1) 3, type := 0, pos := _, after := #[], guard := none }) (v := ?_) rfl (by kernel_rfl) (by kernel_rfl) (by kernel_rfl) (fun _ _ _ h => h) (Or.inl ⟨by rfl, ?_⟩) (by assumption) ?_
  rotate_left
  · intro w hSw; (try dsimp only at hSw); go_simp <;> first | with_reducible rfl | (rw [if_neg (by first | omega | (simp only [ByteArray.size_append] at *; omega))])
  simp only [Act.put, List.setIfInBounds_toArray, List.set_cons_zero, List.set_cons_succ]
  refine wpAnyH_take (i := 1) (oi := { dst := some 95, op := Go.Op.load 23 (Go.Operand.tmp 94), type := 23, pos := _, after := #[{ on := 0, ground := Go.Ground.data }], guard := none }) (v := ?_) rfl (by kernel_rfl) (by kernel_rfl) (by kernel_rfl) (fun _ _ _ h => h) (Or.inl ⟨by rfl, ?_⟩) (by assumption) ?_
  rotate_left
  · intro w hSw; (try dsimp only at hSw); go_simp <;> first | with_reducible rfl | (rw [if_neg (by first | omega | (simp only [ByteArray.size_append] at *; omega))])
  simp only [Act.put, List.setIfInBounds_toArray, List.set_cons_zero, List.set_cons_succ]
  refine wpAnyH_take (i := 2) (oi := { dst := some 96, op := Go.Op.indexAddr 23 (Go.Operand.tmp 95) (Go.Operand.const (Go.Value.int Go.IntKind.i64 0)), type := 0, pos := _, after := #[{ on := 1, ground := Go.Ground.data }], guard := none }) (v := ?_) rfl (by kernel_rfl) (by kernel_rfl) (by kernel_rfl) (fun _ _ _ h => h) (Or.inl ⟨by rfl, ?_⟩) (by assumption) ?_
  rotate_left
  · intro w hSw; (try dsimp only at hSw); go_simp <;> first | with_reducible rfl | (rw [if_neg (by first | omega | (simp only [ByteArray.size_append] at *; omega))])
  simp only [Act.put, List.setIfInBounds_toArray, List.set_cons_zero, List.set_cons_succ]
  refine wpAnyH_take (i := 3) (oi := { dst := some 97, op := Go.Op.load 25 (Go.Operand.tmp 96), type := 25, pos := _, after := #[{ on := 2, ground := Go.Ground.data }], guard := none }) (v := ?_) rfl (by kernel_rfl) (by kernel_rfl) (by kernel_rfl) (fun _ _ _ h => h) (Or.inl ⟨by rfl, ?_⟩) (by assumption) ?_
  rotate_left
  · intro w hSw; (try dsimp only at hSw); go_simp <;> first | with_reducible rfl | (rw [if_neg (by first | omega | (simp only [ByteArray.size_append] at *; omega))])
  simp only [Act.put, List.setIfInBounds_toArray, List.set_cons_zero, List.set_cons_succ]
  refine wpAnyH_take (i := 4) (oi := { dst := some 98, op := Go.Op.move (Go.Operand.tmp 5), type := 3, pos := _, after := #[], guard := none }) (v := ?_) rfl (by kernel_rfl) (by kernel_rfl) (by kernel_rfl) (fun _ _ _ h => h) (Or.inl ⟨by rfl, ?_⟩) (by assumption) ?_
  rotate_left
  · intro w hSw; (try dsimp only at hSw); go_simp <;> first | with_reducible rfl | (rw [if_neg (by first | omega | (simp only [ByteArray.size_append] at *; omega))])
  simp only [Act.put, List.setIfInBounds_toArray, List.set_cons_zero, List.set_cons_succ]
  refine wpAnyH_take (i := 7) (oi := { dst := some 101, op := Go.Op.fieldAddr 25 (Go.Operand.tmp 1) 0, type := 0, pos := _, after := #[], guard := none }) (v := ?_) rfl (by kernel_rfl) (by kernel_rfl) (by kernel_rfl) (fun _ _ _ h => h) (Or.inl ⟨by rfl, ?_⟩) (by assumption) ?_
  rotate_left
  · intro w hSw; (try dsimp only at hSw); go_simp <;> first | with_reducible rfl | (rw [if_neg (by first | omega | (simp only [ByteArray.size_append] at *; omega))])
  simp only [Act.put, List.setIfInBounds_toArray, List.set_cons_zero, List.set_cons_succ]
  refine wpAnyH_take (i := 8) (oi := { dst := some 102, op := Go.Op.load 22 (Go.Operand.tmp 101), type := 22, pos := _, after := #[{ on := 7, ground := Go.Ground.data }], guard := none }) (v := ?_) rfl (by kernel_rfl) (by kernel_rfl) (by kernel_rfl) (fun _ _ _ h => h) (Or.inl ⟨by rfl, ?_⟩) (by assumption) ?_
  rotate_left
  · intro w hSw; (try dsimp only at hSw); go_simp <;> first | with_reducible rfl | (rw [if_neg (by first | omega | (simp only [ByteArray.size_append] at *; omega))])
  simp only [Act.put, List.setIfInBounds_toArray, List.set_cons_zero, List.set_cons_succ]
  refine wpAnyH_take (i := 12) (oi := { dst := some 106, op := Go.Op.fieldAddr 25 (Go.Operand.tmp 1) 3, type := 0, pos := _, after := #[], guard := none }) (v := ?_) rfl (by kernel_rfl) (by kernel_rfl) (by kernel_rfl) (fun _ _ _ h => h) (Or.inl ⟨by rfl, ?_⟩) (by assumption) ?_
  rotate_left
  · intro w hSw; (try dsimp only at hSw); go_simp <;> first | with_reducible rfl | (rw [if_neg (by first | omega | (simp only [ByteArray.size_append] at *; omega))])
  simp only [Act.put, List.setIfInBounds_toArray, List.set_cons_zero, List.set_cons_succ]
  refine wpAnyH_take (i := 13) (oi := { dst := some 107, op := Go.Op.load 23 (Go.Operand.tmp 106), type := 23, pos := _, after := #[{ on := 12, ground := Go.Ground.data }], guard := none }) (v := ?_) rfl (by kernel_rfl) (by kernel_rfl) (by kernel_rfl) (fun _ _ _ h => h) (Or.inl ⟨by rfl, ?_⟩) (by assumption) ?_
  rotate_left
  · intro w hSw; (try dsimp only at hSw); go_simp <;> first | with_reducible rfl | (rw [if_neg (by first | omega | (simp only [ByteArray.size_append] at *; omega))])
  simp only [Act.put, List.setIfInBounds_toArray, List.set_cons_zero, List.set_cons_succ]
  refine wpAnyH_take (i := 14) (oi := { dst := some 108, op := Go.Op.indexAddr 23 (Go.Operand.tmp 107) (Go.Operand.const (Go.Value.int Go.IntKind.i64 1)), type := 0, pos := _, after := #[{ on := 13, ground := Go.Ground.data }], guard := none }) (v := ?_) rfl (by kernel_rfl) (by kernel_rfl) (by kernel_rfl) (fun _ _ _ h => h) (Or.inl ⟨by rfl, ?_⟩) (by assumption) ?_
  rotate_left
  · intro w hSw; (try dsimp only at hSw); go_simp <;> first | with_reducible rfl | (rw [if_neg (by first | omega | (simp only [ByteArray.size_append] at *; omega))])
  simp only [Act.put, List.setIfInBounds_toArray, List.set_cons_zero, List.set_cons_succ]
  refine wpAnyH_take (i := 15) (oi := { dst := some 109, op := Go.Op.load 25 (Go.Operand.tmp 108), type := 25, pos := _, after := #[{ on := 14, ground := Go.Ground.data }], guard := none }) (v := ?_) rfl (by kernel_rfl) (by kernel_rfl) (by kernel_rfl) (fun _ _ _ h => h) (Or.inl ⟨by rfl, ?_⟩) (by assumption) ?_
  rotate_left
  · intro w hSw; (try dsimp only at hSw); go_simp <;> first | with_reducible rfl | (rw [if_neg (by first | omega | (simp only [ByteArray.size_append] at *; omega))])
  simp only [Act.put, List.setIfInBounds_toArray, List.set_cons_zero, List.set_cons_succ]
  refine wpAnyH_take (i := 16) (oi := { dst := some 110, op := Go.Op.move (Go.Operand.tmp 3), type := 3, pos := _, after := #[], guard := none }) (v := ?_) rfl (by kernel_rfl) (by kernel_rfl) (by kernel_rfl) (fun _ _ _ h => h) (Or.inl ⟨by rfl, ?_⟩) (by assumption) ?_
  rotate_left
  · intro w hSw; (try dsimp only at hSw); go_simp <;> first | with_reducible rfl | (rw [if_neg (by first | omega | (simp only [ByteArray.size_append] at *; omega))])
  simp only [Act.put, List.setIfInBounds_toArray, List.set_cons_zero, List.set_cons_succ]
  refine wpAnyH_take (i := 17) (oi := { dst := some 111, op := Go.Op.binOp Go.BinOp.add 3 (Go.Operand.tmp 110) (Go.Operand.const (Go.Value.int Go.IntKind.i64 1)) 3, type := 3, pos := _, after := #[{ on := 16, ground := Go.Ground.data }], guard := none }) (v := ?_) rfl (by kernel_rfl) (by kernel_rfl) (by kernel_rfl) (fun _ _ _ h => h) (Or.inl ⟨by rfl, ?_⟩) (by assumption) ?_
  rotate_left
  · intro w hSw; (try dsimp only at hSw); go_simp <;> first | with_reducible rfl | (rw [if_neg (by first | omega | (simp only [ByteArray.size_append] at *; omega))])
  simp only [Act.put, List.setIfInBounds_toArray, List.set_cons_zero, List.set_cons_succ]
  refine wpAnyH_ready (rs := [5]) (by kernel_rfl) (by simp) ?_
  refine AllReadyH.cons (o := { dst := some 99, op := Go.Op.call { callee := Go.Callee.value (Go.Operand.func 46), args := #[Go.Operand.tmp 97, Go.Operand.tmp 98], argTypes := #[25, 3] }, type := 9, pos := _, after := #[{ on := 3, ground := Go.Ground.data }, { on := 4, ground := Go.Ground.data }], guard := none }) rfl (fun K hK => ?_) AllReadyH.nil
  go_simp
  refine (c1 _ (B1.out.drew)).mono ?_
  rintro e w2 ⟨rfl, hw2⟩
  have B2 := hid (bstep (B1.out.drew) hw2)
  have X2 : w2.cell? ⟨w.heap.size, 0, none⟩ = some (.int .u8 (x.op : Int)) ∧ w2.cell? ⟨w.heap.size, 3, none⟩ = some (.slice (some ⟨bb, o, none⟩) 2 cap) := ⟨cell_kept X1.1 hw2, cell_kept X1.2 hw2⟩
  go_wp2_with fail
  refine hK.out _ _ ?_ (fun hHeld1 => ?_)
  · exact hSH _ B2.out X2
  clear hK K
  refine wpAnyH_take (i := 6) (oi := { dst := some 100, op := Go.Op.binOp Go.BinOp.add 9 (Go.Operand.tmp 99) (Go.Operand.const (Go.Value.string { data := #[32] })) 9, type := 9, pos := _, after := #[{ on := 5, ground := Go.Ground.data }], guard := none }) (v := ?_) rfl (by kernel_rfl) (by kernel_rfl) (by kernel_rfl) (fun _ _ _ h => h) (Or.inl ⟨by rfl, ?_⟩) (by assumption) ?_
  rotate_left
  · intro w hSw; (try dsimp only at hSw); go_simp <;> first | with_reducible rfl | (rw [if_neg (by first | omega | (simp only [ByteArray.size_append] at *; omega))])
  simp only [Act.put, List.setIfInBounds_toArray, List.set_cons_zero, List.set_cons_succ]
  refine wpAnyH_ready (rs := [9]) (by kernel_rfl) (by simp) ?_
  refine AllReadyH.cons (o := { dst := some 103, op := Go.Op.call { callee := Go.Callee.value (Go.Operand.func 47), args := #[Go.Operand.tmp 102], argTypes := #[22] }, type := 9, pos := _, after := #[{ on := 8, ground := Go.Ground.data }, { on := 5, ground := Go.Ground.chain }], guard := none }) rfl (fun K hK => ?_) AllReadyH.nil
  go_simp
  refine (cs _ (B2.out)).mono ?_
  rintro e w3 ⟨rfl, hw3⟩
  have B3 := hid (bstep (B2.out) hw3)
  have X3 : w3.cell? ⟨w.heap.size, 0, none⟩ = some (.int .u8 (x.op : Int)) ∧ w3.cell? ⟨w.heap.size, 3, none⟩ = some (.slice (some ⟨bb, o, none⟩) 2 cap) := ⟨cell_kept X2.1 hw3, cell_kept X2.2 hw3⟩
  go_wp2_with fail
  refine hK.out _ _ ?_ (fun hHeld2 => ?_)
  · exact hSH _ B3.out X3
  clear hK K
  refine wpAnyH_take (i := 10) (oi := { dst := some 104, op := Go.Op.binOp Go.BinOp.add 9 (Go.Operand.tmp 100) (Go.Operand.tmp 103) 9, type := 9, pos := _, after := #[{ on := 6, ground := Go.Ground.data }, { on := 9, ground := Go.Ground.data }], guard := none }) (v := ?_) rfl (by kernel_rfl) (by kernel_rfl) (by kernel_rfl) (fun _ _ _ h => h) (Or.inl ⟨by rfl, ?_⟩) (by assumption) ?_
  rotate_left
  · intro w hSw; (try dsimp only at hSw); go_simp <;> first | with_reducible rfl | (rw [if_neg (by first | omega | (simp only [ByteArray.size_append] at *; omega))])
  simp only [Act.put, List.setIfInBounds_toArray, List.set_cons_zero, List.set_cons_succ]
  refine wpAnyH_take (i := 11) (oi := { dst := some 105, op := Go.Op.binOp Go.BinOp.add 9 (Go.Operand.tmp 104) (Go.Operand.const (Go.Value.string { data := #[32] })) 9, type := 9, pos := _, after := #[{ on := 10, ground := Go.Ground.data }], guard := none }) (v := ?_) rfl (by kernel_rfl) (by kernel_rfl) (by kernel_rfl) (fun _ _ _ h => h) (Or.inl ⟨by rfl, ?_⟩) (by assumption) ?_
  rotate_left
  · intro w hSw; (try dsimp only at hSw); go_simp <;> first | with_reducible rfl | (rw [if_neg (by first | omega | (simp only [ByteArray.size_append] at *; omega))])
  simp only [Act.put, List.setIfInBounds_toArray, List.set_cons_zero, List.set_cons_succ]
  refine wpAnyH_ready (rs := [18]) (by kernel_rfl) (by simp) ?_
  refine AllReadyH.cons (o := { dst := some 112, op := Go.Op.call { callee := Go.Callee.value (Go.Operand.func 46), args := #[Go.Operand.tmp 109, Go.Operand.tmp 111], argTypes := #[25, 3] }, type := 9, pos := _, after := #[{ on := 15, ground := Go.Ground.data }, { on := 17, ground := Go.Ground.data }, { on := 9, ground := Go.Ground.chain }], guard := none }) rfl (fun K hK => ?_) AllReadyH.nil
  go_simp
  refine (c2 _ (B3.out)).mono ?_
  rintro e w4 ⟨rfl, hw4⟩
  have B4 := hid (bstep (B3.out) hw4)
  have X4 : w4.cell? ⟨w.heap.size, 0, none⟩ = some (.int .u8 (x.op : Int)) ∧ w4.cell? ⟨w.heap.size, 3, none⟩ = some (.slice (some ⟨bb, o, none⟩) 2 cap) := ⟨cell_kept X3.1 hw4, cell_kept X3.2 hw4⟩
  go_wp2_with fail
  refine hK.out _ _ ?_ (fun hHeld3 => ?_)
  · exact hSH _ B4.out X4
  clear hK K
  refine wpAnyH_take (i := 19) (oi := { dst := some 113, op := Go.Op.binOp Go.BinOp.add 9 (Go.Operand.tmp 105) (Go.Operand.tmp 112) 9, type := 9, pos := _, after := #[{ on := 11, ground := Go.Ground.data }, { on := 18, ground := Go.Ground.data }], guard := none }) (v := ?_) rfl (by kernel_rfl) (by kernel_rfl) (by kernel_rfl) (fun _ _ _ h => h) (Or.inl ⟨by rfl, ?_⟩) (by assumption) ?_
  rotate_left
  · intro w hSw; (try dsimp only at hSw); go_simp <;> first | with_reducible rfl | (rw [if_neg (by first | omega | (simp only [ByteArray.size_append] at *; omega))])
  simp only [Act.put, List.setIfInBounds_toArray, List.set_cons_zero, List.set_cons_succ]
  refine wpAnyH_take (i := 20) (oi := { dst := some 2, op := Go.Op.assign (Go.Operand.tmp 113), type := 9, pos := _, after := #[{ on := 19, ground := Go.Ground.data }, { on := 18, ground := Go.Ground.chain }, { on := 0, ground := Go.Ground.phase }, { on := 1, ground := Go.Ground.phase }, { on := 2, ground := Go.Ground.phase }, { on := 3, ground := Go.Ground.phase }, { on := 4, ground := Go.Ground.phase }, { on := 5, ground := Go.Ground.phase }, { on := 6, ground := Go.Ground.phase }, { on := 7, ground := Go.Ground.phase }, { on := 8, ground := Go.Ground.phase }, { on := 9, ground := Go.Ground.phase }, { on := 10, ground := Go.Ground.phase }, { on := 11, ground := Go.Ground.phase }, { on := 12, ground := Go.Ground.phase }, { on := 13, ground := Go.Ground.phase }, { on := 14, ground := Go.Ground.phase }, { on := 15, ground := Go.Ground.phase }, { on := 16, ground := Go.Ground.phase }, { on := 17, ground := Go.Ground.phase }, { on := 18, ground := Go.Ground.phase }, { on := 19, ground := Go.Ground.phase }], guard := none }) (v := ?_) rfl (by kernel_rfl) (by kernel_rfl) (by kernel_rfl) (fun _ _ _ h => h) (Or.inl ⟨by rfl, ?_⟩) (by assumption) ?_
  rotate_left
  · intro w hSw; (try dsimp only at hSw); go_simp <;> first | with_reducible rfl | (rw [if_neg (by first | omega | (simp only [ByteArray.size_append] at *; omega))])
  simp only [Act.put, List.setIfInBounds_toArray, List.set_cons_zero, List.set_cons_succ]
  refine wpAnyH_done (by kernel_rfl) ?_ _
  go_wp2
  go_ret
  exact ⟨rfl, B4.out⟩
end Go.Proofs.YtkieljleopbhoaaDoor.Lex
namespace Go.Proofs.YtkieljleopbhoaaDoor.Lex
open Go.ChangeShapes Go.WideShapes Go.ChangeAt Go.RowKit Go.Joins
theorem put_ge (a b : Nat) (s : List UInt8) : s.length ≤ (put a b s).length := by unfold put; split <;> simp; omega
theorem dec_pos (u : Nat) : 1 ≤ (Lib.decDigits u).length := by rw [Lib.decDigits]; split <;> simp
/-- What is written is not empty. -/
theorem wr_pos : ∀ (d M : Nat) (x : Ex) (k : Nat), sz d M x = some k → 1 ≤ (wr x).length
  | 0, M, x, k, h => by simp [sz] at h
  | d + 1, M, x, k, h => by
    obtain ⟨hM, hf, hl⟩ := sz_parts h
    rcases fields_cases hf with ⟨h1, h2, h3⟩ | ⟨h1, h2, h3⟩ | ⟨h1, h2, h3⟩ | ⟨h1, h3⟩ | ⟨h1, h3⟩ | ⟨⟨r, hr⟩, h3⟩
    · rw [wr_leaf (len0 h3), if_pos h1]
      unfold Lib.itoa
      rw [if_neg (by omega)]
      exact dec_pos _
    · rw [wr_leaf (len0 h3), if_neg (by omega), if_pos h1]
      cases x.n == 1 <;> decide
    · rw [wr_leaf (len0 h3), if_neg (by omega), if_neg (by omega), ← Lib.size_eq]
      unfold isName at h2
      simp only [Bool.and_eq_true, decide_eq_true_eq] at h2
      exact h2.1
    · obtain ⟨a, e⟩ := len1 h3
      rw [wr_one e]
      split
      · unfold negW; split <;> simp
      · split <;> simp
    · obtain ⟨a, b, c, e⟩ := len3 h3
      rw [wr_three e]
      simp
    · obtain ⟨a, b, e⟩ := len2 h3
      rw [wr_two e]
      simp only [List.length_append, List.length_cons, List.length_nil]
      omega
theorem neg_yes {Y : ByteArray} (h0 : 0 < Y.size) (h : (((Y[0]'h0).toNat : Int) == 45) = true) : (⟨(negW Y.data.toList).toArray⟩ : ByteArray) = (⟨#[45, 32]⟩ : ByteArray) ++ Y := by
  have hg := getD_get Y 0 h0
  have h45 : Y[0]'h0 = 45 := by apply UInt8.toNat_inj.1; simp at h; show _ = 45; omega
  rw [h45] at hg
  have hp : Lib.hasPrefix Y.data.toList [45] = true := by
    cases hl : Y.data.toList with
    | nil => rw [Lib.size_eq, hl] at h0; simp at h0
    | cons c t => rw [hl] at hg; simp at hg; subst hg; rfl
  unfold negW
  rw [if_pos hp]
  apply ByteArray.ext
  rw [ByteArray.data_append]
  simp
theorem neg_no {Y : ByteArray} (h0 : 0 < Y.size) (h : (((Y[0]'h0).toNat : Int) == 45) = false) : (⟨(negW Y.data.toList).toArray⟩ : ByteArray) = (⟨#[45]⟩ : ByteArray) ++ Y := by
  have hg := getD_get Y 0 h0
  have h45 : Y[0]'h0 ≠ 45 := by intro e; rw [e] at h; exact absurd h (by decide)
  have hp : ¬ Lib.hasPrefix Y.data.toList [45] = true := by
    cases hl : Y.data.toList with
    | nil => rw [Lib.size_eq, hl] at h0; simp at h0
    | cons c t =>
      rw [hl] at hg
      simp at hg
      intro hq
      simp [Lib.hasPrefix, List.isPrefixOf] at hq
      exact h45 (hg.symm.trans hq.symm)
  unfold negW
  rw [if_neg hp]
  apply ByteArray.ext
  rw [ByteArray.data_append]
  simp
theorem j_ref {op : Nat} {r : J} (h : jOf op = some r) (h18 : op ≠ 18) : (r.rank = 3 → r.first = 4) ∧ (r.rank ≠ 3 → r.first = r.rank) ∧ r.second = r.rank + 1 ∧ r.rank ≤ 5 := by
  have : ∀ r ∈ JT, r.op ≠ 18 → (r.rank = 3 → r.first = 4) ∧ (r.rank ≠ 3 → r.first = r.rank) ∧ r.second = r.rank + 1 ∧ r.rank ≤ 5 := by decide
  have h2 : r.op = op := by have := List.find?_some h; simpa using this
  exact this r (List.mem_of_find?_eq_some h) (by omega)
theorem j_then : jOf 18 = some ⟨18, 3, ⟨#[45, 62]⟩, 0, 1, 0⟩ := by rfl
/-- The document's own written. -/
theorem rwr_any : ∀ (d : Nat), RWrC d
  | 0 => by intro x w s M k _ h; simp [sz] at h
  | d + 1 => by
    intro x w s M k hM h hS
    have ih := rwr_any d
    have pl := rpl_of d ih
    have cr := fun W => rank_any x.op W
    obtain ⟨hM1, hf, hl⟩ := sz_parts h
    obtain ⟨ao, cap, _, hs0, hop, hn, hnm, _⟩ := hS.out
    rcases fields_cases hf with ⟨h1, h2, h3⟩ | ⟨h1, h2, h3⟩ | ⟨h1, h2, h3⟩ | ⟨h1, h3⟩ | ⟨h1, h3⟩ | ⟨⟨r, hr⟩, h3⟩
    · rw [wr_leaf (len0 h3), if_pos h1, hs0]
      have hi : Lib.itoa x.n = Lib.decDigits x.n.toNat := by unfold Lib.itoa; rw [if_neg (by omega)]
      rw [hi]
      exact rw_int x w ao cap _ cr (eqN (b := 1) h1) x.n.toNat (by omega) (by omega)
    · rw [wr_leaf (len0 h3), if_neg (by omega), if_pos h1, hs0]
      cases hb : x.n == 1 with
      | true => exact rw_yes x w ao cap _ cr (neN (b := 1) (by omega)) (eqN (b := 2) h1) hb
      | false => exact rw_no x w ao cap _ cr (neN (b := 1) (by omega)) (eqN (b := 2) h1) hb
    · rw [wr_leaf (len0 h3), if_neg (by omega), if_neg (by omega), hs0]
      exact rw_name x w ao cap _ cr (neN (b := 1) (by omega)) (neN (b := 2) (by omega)) (eqN (b := 3) h1)
    · obtain ⟨a, e⟩ := len1 h3
      rw [e] at hl
      obtain ⟨ka, ha, hl⟩ := szL_cons hl
      obtain ⟨bb, o, cap, rfl, hk⟩ := hS.kids (by omega)
      obtain ⟨k0, c0, hs1, hk1⟩ := hk 0 (by omega)
      have e0 : x.args[0]'(by omega) = a := by simp [e]
      rw [e0] at hs1 hk1
      have hk1' : KidAt w bb o a k0 c0 := by simpa using hk1
      have hY := bput (by omega) ha hs1 6
      have c := fun W (hb : Below w.heap.size w W) => pl a W _ _ ka 6 (by omega) (by omega) ha (hs1.keep hb)
      rw [wr_one e, h3]
      by_cases h4 : x.op = 4
      · rw [if_pos h4]
        have hp : 0 < (⟨(put 6 (rkOf a.op) (wr a)).toArray⟩ : ByteArray).size := by
          have := wr_pos d _ a ka ha
          have := put_ge 6 (rkOf a.op) (wr a)
          rw [bsize]; omega
        rcases Bool.eq_false_or_eq_true ((((⟨(put 6 (rkOf a.op) (wr a)).toArray⟩ : ByteArray)[0]'hp).toNat : Int) == 45) with hb | hb
        · have hE := neg_yes hp hb
          rw [show (⟨(put 6 (rkOf a.op) (wr a)).toArray⟩ : ByteArray).data.toList = put 6 (rkOf a.op) (wr a) by simp] at hE
          rw [hE]
          exact rw_neg2 x a w bb o cap k0 c0 _ cr (neN (b := 1) (by omega)) (neN (b := 2) (by omega)) (neN (b := 3) (by omega)) (neN (b := 17) (by omega)) (neN (b := 5) (by omega)) (neN (b := 19) (by omega)) (eqN (b := 4) h4) _ hY hp _ rfl hb hk1' c
        · have hE := neg_no hp hb
          rw [show (⟨(put 6 (rkOf a.op) (wr a)).toArray⟩ : ByteArray).data.toList = put 6 (rkOf a.op) (wr a) by simp] at hE
          rw [hE]
          exact rw_neg1 x a w bb o cap k0 c0 _ cr (neN (b := 1) (by omega)) (neN (b := 2) (by omega)) (neN (b := 3) (by omega)) (neN (b := 17) (by omega)) (neN (b := 5) (by omega)) (neN (b := 19) (by omega)) (eqN (b := 4) h4) _ hY hp _ rfl hb hk1' c
      · rw [if_neg h4]
        by_cases h5 : x.op = 5
        · rw [if_pos h5, ← bapp]
          exact rw_not x a w bb o cap k0 c0 _ cr (neN (b := 1) (by omega)) (neN (b := 2) (by omega)) (neN (b := 3) (by omega)) (neN (b := 17) (by omega)) (eqN (b := 5) h5) _ hY hk1' c
        · rw [if_neg h5, ← bapp]
          exact rw_pre x a w bb o cap k0 c0 _ cr (neN (b := 1) (by omega)) (neN (b := 2) (by omega)) (neN (b := 3) (by omega)) (neN (b := 17) (by omega)) (neN (b := 5) (by omega)) (eqN (b := 19) (by omega)) _ hY hk1' c
    · obtain ⟨a, b, c, e⟩ := len3 h3
      rw [e] at hl
      obtain ⟨ka, ha, hl⟩ := szL_cons hl
      obtain ⟨kb, hb, hl⟩ := szL_cons hl
      obtain ⟨kc, hc, hl⟩ := szL_cons hl
      obtain ⟨bb, o, cap, rfl, hk⟩ := hS.kids (by omega)
      obtain ⟨k0, c0, hs1, hk1⟩ := hk 0 (by omega)
      obtain ⟨k1, c1, hs2, hk2⟩ := hk 1 (by omega)
      obtain ⟨k2, c2, hs3, hk3⟩ := hk 2 (by omega)
      have e0 : x.args[0]'(by omega) = a := by simp [e]
      have e1 : x.args[1]'(by omega) = b := by simp [e]
      have e2 : x.args[2]'(by omega) = c := by simp [e]
      rw [e0] at hs1 hk1
      rw [e1] at hs2 hk2
      rw [e2] at hs3 hk3
      have q1 := fun W (hb : Below w.heap.size w W) => pl a W _ _ ka 0 (by omega) (by omega) ha (hs1.keep hb)
      have q2 := fun W (hb' : Below w.heap.size w W) => pl b W _ _ kb 0 (by omega) (by omega) hb (hs2.keep hb')
      have q3 := fun W (hb : Below w.heap.size w W) => pl c W _ _ kc 0 (by omega) (by omega) hc (hs3.keep hb)
      rw [wr_three e, h3, ← bapp, ← bapp, ← bapp, ← bapp, ← bapp]
      exact rw_if x a b c w bb o cap k0 k1 k2 c0 c1 c2 _ cr (neN (b := 1) (by omega)) (neN (b := 2) (by omega)) (neN (b := 3) (by omega)) (eqN (b := 17) h1) _ _ _
        (bput (by omega) ha hs1 0) (bput (by omega) hb hs2 0) (bput (by omega) hc hs3 0) ⟨by simpa using hk1, by simpa using hk2, by simpa using hk3⟩ q1 q2 q3
    · obtain ⟨a, b, e⟩ := len2 h3
      rw [e] at hl
      obtain ⟨ka, ha, hl⟩ := szL_cons hl
      obtain ⟨kb, hb, hl⟩ := szL_cons hl
      obtain ⟨bb, o, cap, rfl, hk⟩ := hS.kids (by omega)
      obtain ⟨k0, c0, hs1, hk1⟩ := hk 0 (by omega)
      obtain ⟨k1, c1, hs2, hk2⟩ := hk 1 (by omega)
      have e0 : x.args[0]'(by omega) = a := by simp [e]
      have e1 : x.args[1]'(by omega) = b := by simp [e]
      rw [e0] at hs1 hk1
      rw [e1] at hs2 hk2
      obtain ⟨_, hj1, hj2, hj3⟩ := j_len hr
      have hrng := jOf_range hr
      have q1 := fun W (hb : Below w.heap.size w W) => pl a W _ _ ka r.first (by omega) hj1 ha (hs1.keep hb)
      have q2 := fun W (hb' : Below w.heap.size w W) => pl b W _ _ kb r.second (by omega) hj2 hb (hs2.keep hb')
      have y1 := bput (by omega) ha hs1 r.first
      have y2 := bput (by omega) hb hs2 r.second
      have ht : (⟨r.text.data.toList.toArray⟩ : ByteArray) = r.text := by simp
      rw [wr_two e, h3, hr]
      simp only [Option.getD_some]
      by_cases h18 : x.op = 18
      · rw [h18, j_then] at hr
        injection hr with hr
        subst hr
        have hG : (⟨(put 1 (rkOf a.op) (wr a) ++ [32] ++ (⟨#[45, 62]⟩ : ByteArray).data.toList ++ [32] ++ put 0 (rkOf b.op) (wr b)).toArray⟩ : ByteArray) = (⟨(put 1 (rkOf a.op) (wr a)).toArray⟩ : ByteArray) ++ (⟨#[32, 45, 62, 32]⟩ : ByteArray) ++ (⟨(put 0 (rkOf b.op) (wr b)).toArray⟩ : ByteArray) := by
          apply ByteArray.ext
          rw [ByteArray.data_append, ByteArray.data_append]
          simp
        rw [hG]
        exact rw_then x a b w bb o cap k0 k1 c0 c1 _ cr (neN (b := 1) (by omega)) (neN (b := 2) (by omega)) (neN (b := 3) (by omega)) (neN (b := 17) (by omega)) (neN (b := 5) (by omega)) (neN (b := 19) (by omega)) (neN (b := 4) (by omega)) (eqN (b := 18) h18) _ _ y1 y2 ⟨by simpa using hk1, by simpa using hk2⟩ q1 q2
      · obtain ⟨r3, rn3, rs, r5⟩ := j_ref hr h18
        have hrk : rkOf x.op = r.rank := by unfold rkOf; rw [hr]
        rw [hrk] at cr
        have q0 := fun W (hb : Below w.heap.size w W) => sign_of x.op r hr W
        have hw : IntKind.i64.wrap ((r.rank : Int) + 1) = (r.rank : Int) + 1 := wrap_id (by omega) (by omega)
        have hs2' : ((r.second : Nat) : Int) = (r.rank : Int) + 1 := by omega
        rw [hs2'] at q2
        rw [← bapp, ← bapp, ← bapp, ← bapp, ht]
        by_cases h33 : r.rank = 3
        · have hf' : ((r.first : Nat) : Int) = 4 := by have := r3 h33; omega
          rw [hf'] at q1
          exact rw_cmp x a b w bb o cap k0 k1 c0 c1 _ cr (by simp [h33]) (by omega) (by omega) hw (neN (b := 1) (by omega)) (neN (b := 2) (by omega)) (neN (b := 3) (by omega)) (neN (b := 17) (by omega)) (neN (b := 5) (by omega)) (neN (b := 19) (by omega)) (neN (b := 4) (by omega)) (neN (b := 18) h18) r.text hj3 _ _ y1 y2 ⟨by simpa using hk1, by simpa using hk2⟩ q0 q1 q2
        · have hf' : ((r.first : Nat) : Int) = (r.rank : Int) := by have := rn3 h33; omega
          rw [hf'] at q1
          exact rw_join x a b w bb o cap k0 k1 c0 c1 _ cr (by simp; omega) (by omega) (by omega) hw (neN (b := 1) (by omega)) (neN (b := 2) (by omega)) (neN (b := 3) (by omega)) (neN (b := 17) (by omega)) (neN (b := 5) (by omega)) (neN (b := 19) (by omega)) (neN (b := 4) (by omega)) (neN (b := 18) h18) r.text hj3 _ _ y1 y2 ⟨by simpa using hk1, by simpa using hk2⟩ q0 q1 q2
set_option maxRecDepth 100000 in
/-- The document's own Text. -/
theorem rtext (x : Ex) (w : World) (s : Value) (hS : St w x s) : Calls Tryd.prog 10 #[exV x s] w fun e w' => e = .returned (.tuple #[.string ⟨(txt x).toArray⟩, .int .i64 (txtE x)]) ∧ Below w.heap.size w w' := by
  obtain ⟨ao, cap, sl, rfl, _⟩ := hS.out
  have b1 := (Below.refl w.heap.size w).alloc (Nat.le_refl _) (.cells #[.int .u8 (x.op : Int), .int .i64 x.n, .string x.name, .slice ao x.args.length cap] 25)
  have c := rcheck x _ _ (hS.keep b1)
  have B1 := hid b1
  have bx := fun j v => box_at w #[.int .u8 (x.op : Int), .int .i64 x.n, .string x.name, .slice ao x.args.length cap] 25 j v
  unfold txt txtE
  cases hk : chk x with
  | false =>
    rw [hk] at c
    simp only [Bool.false_eq_true, if_false]
    clear hS b1 bx hk
    go_enter Tryd.func10, Tryd.ntmps10
    go_wp2_with (go_at_call 12; refine c.mono ?_; rintro e w2 ⟨rfl, hb2⟩)
    go_ret2
    exact ⟨rfl, bstep B1.out hb2⟩
  | true =>
    rw [hk] at c
    simp only [if_true]
    obtain ⟨k, hz⟩ : ∃ k, sz 32 200 x = some k := by unfold chk at hk; exact Option.isSome_iff_exists.1 hk
    have cw := fun W (hb : Below w.heap.size w W) => rwr_any 32 x W _ 200 k (by omega) hz (hS.keep hb)
    generalize (⟨(wr x).toArray⟩ : ByteArray) = X at *
    clear hS b1 hk hz
    go_enter Tryd.func10, Tryd.ntmps10
    go_wp2_with (first
      | (go_at_call 12; refine c.mono ?_; rintro e w2 ⟨rfl, hb2⟩; have y0 := cell_kept (bx 0 _ rfl) hb2; have y1 := cell_kept (bx 1 _ rfl) hb2; have y2 := cell_kept (bx 2 _ rfl) hb2; have y3 := cell_kept (bx 3 _ rfl) hb2; have B2 := hid (bstep B1.out hb2); clear hb2 bx c)
      | (go_at_call 26; refine (cw _ B2.out).mono ?_; rintro e w3 ⟨rfl, hb3⟩; have B3 := hid (bstep B2.out hb3); clear hb3 cw))
    go_ret2
    exact ⟨rfl, B3.out⟩
end Go.Proofs.YtkieljleopbhoaaDoor.Lex
