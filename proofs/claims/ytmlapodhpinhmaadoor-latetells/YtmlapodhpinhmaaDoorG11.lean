/-
  The document's own size, and Check.
  The document's own size and Check, whatever it is.
  May a program be, by the document: the contracts of the document's is and Check.
-/
import Derived.Test.YtmlapodhpinhmaaDoorG10
import Derived.Test.YtmlapodhpinhmaaDoorG2
import Derived.Test.YtmlapodhpinhmaaDoorG6
import Derived.Test.YtmlapodhpinhmaaDoorG7
import Derived.Test.YtmlapodhpinhmaaDoorG9
namespace Go.Proofs.YtmlapodhpinhmaaDoor.Lex
open Go.ChangeShapes Go.WideShapes Go.ChangeAt Go.RowKit Go.Joins
set_option linter.unusedVariables false
/-- A size, below 0 if there is none. -/
def szI : Option Nat → Int
  | none => -1
  | some k => (k : Int)
def RSzC (d : Nat) : Prop := ∀ (x : Ex) (w : World) (s : Value) (M : Nat), M ≤ 200 → St w x s → Calls Tryd.prog 83 #[exV x s, .int .i64 (d : Int), .int .i64 (M : Int)] w fun e w' => e = .returned (.int .i64 (szI (sz d M x))) ∧ Below w.heap.size w w'
theorem inn {a b : Int} (h : a = b) : (a != b) = false := by simp [h]
theorem inq {a b : Int} (h : ¬ a = b) : (a != b) = true := by simp [h]
theorem drewN_zero (w : World) : w.drewN 0 = w := rfl
set_option maxRecDepth 100000 in
set_option maxHeartbeats 1000000 in
theorem rs_d0 (x : Ex) (ao : Option Addr) (cap : Nat) (D M : Int) (w : World) (hD : (D == 0) = true) : Calls Tryd.prog 83 #[exV x (.slice ao x.args.length cap), .int .i64 D, .int .i64 M] w fun e w' => e = .returned (.int .i64 (-1)) ∧ Below w.heap.size w w' := by
  go_enter Tryd.func83, Tryd.ntmps83
  go_wp2
  go_quiet ((go_at_call 91; exact Calls.quiet_of_same (many_any _ _)))
  go_wp2
  go_ret
  exact ⟨rfl, below_drewN ((Below.refl _ _).alloc (Nat.le_refl _) _) _⟩
set_option maxRecDepth 100000 in
set_option maxHeartbeats 1000000 in
theorem rs_m0 (x : Ex) (ao : Option Addr) (cap : Nat) (D M : Int) (w : World) (hD : (D == 0) = false) (hM : (M == 0) = true) : Calls Tryd.prog 83 #[exV x (.slice ao x.args.length cap), .int .i64 D, .int .i64 M] w fun e w' => e = .returned (.int .i64 (-1)) ∧ Below w.heap.size w w' := by
  go_enter Tryd.func83, Tryd.ntmps83
  go_wp2
  go_quiet ((go_at_call 91; exact Calls.quiet_of_same (many_any _ _)))
  go_wp2
  go_ret
  exact ⟨rfl, below_drewN ((Below.refl _ _).alloc (Nat.le_refl _) _) _⟩
set_option maxRecDepth 100000 in
set_option maxHeartbeats 1000000 in
theorem rs_mn (x : Ex) (ao : Option Addr) (cap : Nat) (D M : Int) (w : World) (hD : (D == 0) = false) (hM : (M == 0) = false) (hm : (manyI x.op != (x.args.length : Int)) = true) : Calls Tryd.prog 83 #[exV x (.slice ao x.args.length cap), .int .i64 D, .int .i64 M] w fun e w' => e = .returned (.int .i64 (-1)) ∧ Below w.heap.size w w' := by
  go_enter Tryd.func83, Tryd.ntmps83
  go_wp2
  go_quiet ((go_at_call 91; exact Calls.quiet_of_same (many_any _ _)))
  go_wp2
  go_ret
  exact ⟨rfl, below_drewN ((Below.refl _ _).alloc (Nat.le_refl _) _) _⟩
set_option maxRecDepth 100000 in
set_option maxHeartbeats 1000000 in
theorem rs_1a (x : Ex) (ao : Option Addr) (cap : Nat) (D M : Int) (w : World) (hD : (D == 0) = false) (hM : (M == 0) = false) (hm : (manyI x.op != (x.args.length : Int)) = false) (e1 : ((x.op : Int) == 1) = true) (h0 : x.n < 0) : Calls Tryd.prog 83 #[exV x (.slice ao x.args.length cap), .int .i64 D, .int .i64 M] w fun e w' => e = .returned (.int .i64 (-1)) ∧ Below w.heap.size w w' := by
  go_enter Tryd.func83, Tryd.ntmps83
  go_wp2
  go_quiet ((go_at_call 91; exact Calls.quiet_of_same (many_any _ _)))
  go_wp2
  go_ret
  exact ⟨rfl, below_drewN ((Below.refl _ _).alloc (Nat.le_refl _) _) _⟩
set_option maxRecDepth 100000 in
set_option maxHeartbeats 1000000 in
theorem rs_1b (x : Ex) (ao : Option Addr) (cap : Nat) (D M : Int) (w : World) (hD : (D == 0) = false) (hM : (M == 0) = false) (hm : (manyI x.op != (x.args.length : Int)) = false) (e1 : ((x.op : Int) == 1) = true) (h0 : ¬ x.n < 0) (he : x.name.toList.isEmpty = false) : Calls Tryd.prog 83 #[exV x (.slice ao x.args.length cap), .int .i64 D, .int .i64 M] w fun e w' => e = .returned (.int .i64 (-1)) ∧ Below w.heap.size w w' := by
  go_enter Tryd.func83, Tryd.ntmps83
  go_wp2
  go_quiet ((go_at_call 91; exact Calls.quiet_of_same (many_any _ _)))
  go_wp2
  go_ret
  exact ⟨rfl, below_drewN ((Below.refl _ _).alloc (Nat.le_refl _) _) _⟩
set_option maxRecDepth 100000 in
set_option maxHeartbeats 1000000 in
theorem rs_2a (x : Ex) (ao : Option Addr) (cap : Nat) (D M : Int) (w : World) (hD : (D == 0) = false) (hM : (M == 0) = false) (hm : (manyI x.op != (x.args.length : Int)) = false) (e1 : ((x.op : Int) == 1) = false) (e2 : ((x.op : Int) == 2) = true) (h0 : (x.n != 0) = true) (h1 : (x.n != 1) = true) : Calls Tryd.prog 83 #[exV x (.slice ao x.args.length cap), .int .i64 D, .int .i64 M] w fun e w' => e = .returned (.int .i64 (-1)) ∧ Below w.heap.size w w' := by
  go_enter Tryd.func83, Tryd.ntmps83
  go_wp2
  go_quiet ((go_at_call 91; exact Calls.quiet_of_same (many_any _ _)))
  go_wp2
  go_ret
  exact ⟨rfl, below_drewN ((Below.refl _ _).alloc (Nat.le_refl _) _) _⟩
set_option maxRecDepth 100000 in
set_option maxHeartbeats 1000000 in
theorem rs_2b (x : Ex) (ao : Option Addr) (cap : Nat) (D M : Int) (w : World) (hD : (D == 0) = false) (hM : (M == 0) = false) (hm : (manyI x.op != (x.args.length : Int)) = false) (e1 : ((x.op : Int) == 1) = false) (e2 : ((x.op : Int) == 2) = true) (h0 : (x.n != 0) = false) (he : x.name.toList.isEmpty = false) : Calls Tryd.prog 83 #[exV x (.slice ao x.args.length cap), .int .i64 D, .int .i64 M] w fun e w' => e = .returned (.int .i64 (-1)) ∧ Below w.heap.size w w' := by
  go_enter Tryd.func83, Tryd.ntmps83
  go_wp2
  go_quiet ((go_at_call 91; exact Calls.quiet_of_same (many_any _ _)))
  go_wp2
  go_ret
  exact ⟨rfl, below_drewN ((Below.refl _ _).alloc (Nat.le_refl _) _) _⟩
set_option maxRecDepth 100000 in
set_option maxHeartbeats 1000000 in
theorem rs_2c (x : Ex) (ao : Option Addr) (cap : Nat) (D M : Int) (w : World) (hD : (D == 0) = false) (hM : (M == 0) = false) (hm : (manyI x.op != (x.args.length : Int)) = false) (e1 : ((x.op : Int) == 1) = false) (e2 : ((x.op : Int) == 2) = true) (h0 : (x.n != 0) = true) (h1 : (x.n != 1) = false) (he : x.name.toList.isEmpty = false) : Calls Tryd.prog 83 #[exV x (.slice ao x.args.length cap), .int .i64 D, .int .i64 M] w fun e w' => e = .returned (.int .i64 (-1)) ∧ Below w.heap.size w w' := by
  go_enter Tryd.func83, Tryd.ntmps83
  go_wp2
  go_quiet ((go_at_call 91; exact Calls.quiet_of_same (many_any _ _)))
  go_wp2
  go_ret
  exact ⟨rfl, below_drewN ((Below.refl _ _).alloc (Nat.le_refl _) _) _⟩
set_option maxRecDepth 100000 in
set_option maxHeartbeats 1000000 in
theorem rs_3a (x : Ex) (ao : Option Addr) (cap : Nat) (D M : Int) (w : World) (hD : (D == 0) = false) (hM : (M == 0) = false) (hm : (manyI x.op != (x.args.length : Int)) = false) (e1 : ((x.op : Int) == 1) = false) (e2 : ((x.op : Int) == 2) = false) (e3 : ((x.op : Int) == 3) = true) (h0 : (x.n != 0) = true) : Calls Tryd.prog 83 #[exV x (.slice ao x.args.length cap), .int .i64 D, .int .i64 M] w fun e w' => e = .returned (.int .i64 (-1)) ∧ Below w.heap.size w w' := by
  go_enter Tryd.func83, Tryd.ntmps83
  go_wp2
  go_quiet ((go_at_call 91; exact Calls.quiet_of_same (many_any _ _)))
  go_wp2
  go_ret
  exact ⟨rfl, below_drewN ((Below.refl _ _).alloc (Nat.le_refl _) _) _⟩
set_option maxRecDepth 100000 in
set_option maxHeartbeats 1000000 in
theorem rs_3b (x : Ex) (ao : Option Addr) (cap : Nat) (D M : Int) (w : World) (hD : (D == 0) = false) (hM : (M == 0) = false) (hm : (manyI x.op != (x.args.length : Int)) = false) (e1 : ((x.op : Int) == 1) = false) (e2 : ((x.op : Int) == 2) = false) (e3 : ((x.op : Int) == 3) = true) (h0 : (x.n != 0) = false) (hnm : x.name.size ≤ 140737488355328) (hb : isName x.name = false) : Calls Tryd.prog 83 #[exV x (.slice ao x.args.length cap), .int .i64 D, .int .i64 M] w fun e w' => e = .returned (.int .i64 (-1)) ∧ Below w.heap.size w w' := by
  have c := fun W => refName x.name W hnm
  rw [hb] at c
  clear hb
  go_enter Tryd.func83, Tryd.ntmps83
  go_wp2
  go_quiet ((go_at_call 91; exact Calls.quiet_of_same (many_any _ _)))
  go_wp2_with (go_at_call 76; refine (c _).mono ?_; rintro e w2 ⟨rfl, hb2⟩)
  go_ret
  exact ⟨rfl, bstep (below_drewN ((Below.refl _ _).alloc (Nat.le_refl _) _) _) hb2⟩
set_option maxRecDepth 100000 in
set_option maxHeartbeats 1000000 in
theorem rs_4a (x : Ex) (ao : Option Addr) (cap : Nat) (D M : Int) (w : World) (hD : (D == 0) = false) (hM : (M == 0) = false) (hm : (manyI x.op != (x.args.length : Int)) = false) (e1 : ((x.op : Int) == 1) = false) (e2 : ((x.op : Int) == 2) = false) (e3 : ((x.op : Int) == 3) = false) (h0 : (x.n != 0) = true) : Calls Tryd.prog 83 #[exV x (.slice ao x.args.length cap), .int .i64 D, .int .i64 M] w fun e w' => e = .returned (.int .i64 (-1)) ∧ Below w.heap.size w w' := by
  go_enter Tryd.func83, Tryd.ntmps83
  go_wp2
  go_quiet ((go_at_call 91; exact Calls.quiet_of_same (many_any _ _)))
  go_wp2
  go_ret
  exact ⟨rfl, below_drewN ((Below.refl _ _).alloc (Nat.le_refl _) _) _⟩
set_option maxRecDepth 100000 in
set_option maxHeartbeats 1000000 in
theorem rs_4b (x : Ex) (ao : Option Addr) (cap : Nat) (D M : Int) (w : World) (hD : (D == 0) = false) (hM : (M == 0) = false) (hm : (manyI x.op != (x.args.length : Int)) = false) (e1 : ((x.op : Int) == 1) = false) (e2 : ((x.op : Int) == 2) = false) (e3 : ((x.op : Int) == 3) = false) (h0 : (x.n != 0) = false) (he : x.name.toList.isEmpty = false) : Calls Tryd.prog 83 #[exV x (.slice ao x.args.length cap), .int .i64 D, .int .i64 M] w fun e w' => e = .returned (.int .i64 (-1)) ∧ Below w.heap.size w w' := by
  go_enter Tryd.func83, Tryd.ntmps83
  go_wp2
  go_quiet ((go_at_call 91; exact Calls.quiet_of_same (many_any _ _)))
  go_wp2
  go_ret
  exact ⟨rfl, below_drewN ((Below.refl _ _).alloc (Nat.le_refl _) _) _⟩
set_option maxRecDepth 100000 in
set_option maxHeartbeats 1000000 in
theorem rs_1c (x : Ex) (ao : Option Addr) (cap : Nat) (D M : Int) (w : World) (hD : (D == 0) = false) (hM : (M == 0) = false) (hm : (manyI x.op != (x.args.length : Int)) = false) (e1 : ((x.op : Int) == 1) = true) (h0 : ¬ x.n < 0) (he : x.name.toList.isEmpty = true) (hl : Hid (x.args.length = 0)) : Calls Tryd.prog 83 #[exV x (.slice ao x.args.length cap), .int .i64 D, .int .i64 M] w fun e w' => e = .returned (.int .i64 1) ∧ Below w.heap.size w w' := by
  go_enter Tryd.func83, Tryd.ntmps83
  go_wp2
  go_quiet ((go_at_call 91; exact Calls.quiet_of_same (many_any _ _)))
  go_wp2
  go_loopw [7, 8] (fun n i wr => n = .int .i64 1 ∧ i = .int .i64 0 ∧ Hid (Below w.heap.size w wr) ∧ wr.cell? ⟨w.heap.size, 3, none⟩ = some (.slice ao x.args.length cap)) (fun _ _ _ => 0)
  case atStart => exact ⟨rfl, rfl, below_drewN ((Below.refl _ _).alloc (Nat.le_refl _) _) _, box_at w _ 53 3 _ rfl⟩
  case round =>
    obtain ⟨rfl, rfl, hB, hx3⟩ := hrel
    have hlt' : ¬ (0 : Int) < (x.args.length : Int) := by have := hl.out; omega
    go_wp2
    go_ret
    exact ⟨rfl, hB.out⟩
set_option maxRecDepth 100000 in
set_option maxHeartbeats 1000000 in
theorem rs_2d (x : Ex) (ao : Option Addr) (cap : Nat) (D M : Int) (w : World) (hD : (D == 0) = false) (hM : (M == 0) = false) (hm : (manyI x.op != (x.args.length : Int)) = false) (e1 : ((x.op : Int) == 1) = false) (e2 : ((x.op : Int) == 2) = true) (h0 : (x.n != 0) = false) (he : x.name.toList.isEmpty = true) (hl : Hid (x.args.length = 0)) : Calls Tryd.prog 83 #[exV x (.slice ao x.args.length cap), .int .i64 D, .int .i64 M] w fun e w' => e = .returned (.int .i64 1) ∧ Below w.heap.size w w' := by
  go_enter Tryd.func83, Tryd.ntmps83
  go_wp2
  go_quiet ((go_at_call 91; exact Calls.quiet_of_same (many_any _ _)))
  go_wp2
  go_loopw [7, 8] (fun n i wr => n = .int .i64 1 ∧ i = .int .i64 0 ∧ Hid (Below w.heap.size w wr) ∧ wr.cell? ⟨w.heap.size, 3, none⟩ = some (.slice ao x.args.length cap)) (fun _ _ _ => 0)
  case atStart => exact ⟨rfl, rfl, below_drewN ((Below.refl _ _).alloc (Nat.le_refl _) _) _, box_at w _ 53 3 _ rfl⟩
  case round =>
    obtain ⟨rfl, rfl, hB, hx3⟩ := hrel
    have hlt' : ¬ (0 : Int) < (x.args.length : Int) := by have := hl.out; omega
    go_wp2
    go_ret
    exact ⟨rfl, hB.out⟩
set_option maxRecDepth 100000 in
set_option maxHeartbeats 1000000 in
theorem rs_2e (x : Ex) (ao : Option Addr) (cap : Nat) (D M : Int) (w : World) (hD : (D == 0) = false) (hM : (M == 0) = false) (hm : (manyI x.op != (x.args.length : Int)) = false) (e1 : ((x.op : Int) == 1) = false) (e2 : ((x.op : Int) == 2) = true) (h0 : (x.n != 0) = true) (h1 : (x.n != 1) = false) (he : x.name.toList.isEmpty = true) (hl : Hid (x.args.length = 0)) : Calls Tryd.prog 83 #[exV x (.slice ao x.args.length cap), .int .i64 D, .int .i64 M] w fun e w' => e = .returned (.int .i64 1) ∧ Below w.heap.size w w' := by
  go_enter Tryd.func83, Tryd.ntmps83
  go_wp2
  go_quiet ((go_at_call 91; exact Calls.quiet_of_same (many_any _ _)))
  go_wp2
  go_loopw [7, 8] (fun n i wr => n = .int .i64 1 ∧ i = .int .i64 0 ∧ Hid (Below w.heap.size w wr) ∧ wr.cell? ⟨w.heap.size, 3, none⟩ = some (.slice ao x.args.length cap)) (fun _ _ _ => 0)
  case atStart => exact ⟨rfl, rfl, below_drewN ((Below.refl _ _).alloc (Nat.le_refl _) _) _, box_at w _ 53 3 _ rfl⟩
  case round =>
    obtain ⟨rfl, rfl, hB, hx3⟩ := hrel
    have hlt' : ¬ (0 : Int) < (x.args.length : Int) := by have := hl.out; omega
    go_wp2
    go_ret
    exact ⟨rfl, hB.out⟩
set_option maxRecDepth 100000 in
set_option maxHeartbeats 1000000 in
theorem rs_3c (x : Ex) (ao : Option Addr) (cap : Nat) (D M : Int) (w : World) (hD : (D == 0) = false) (hM : (M == 0) = false) (hm : (manyI x.op != (x.args.length : Int)) = false) (e1 : ((x.op : Int) == 1) = false) (e2 : ((x.op : Int) == 2) = false) (e3 : ((x.op : Int) == 3) = true) (h0 : (x.n != 0) = false) (hnm : x.name.size ≤ 140737488355328) (hb : isName x.name = true) (hl : Hid (x.args.length = 0)) : Calls Tryd.prog 83 #[exV x (.slice ao x.args.length cap), .int .i64 D, .int .i64 M] w fun e w' => e = .returned (.int .i64 1) ∧ Below w.heap.size w w' := by
  have c := fun W => refName x.name W hnm
  rw [hb] at c
  clear hb
  go_enter Tryd.func83, Tryd.ntmps83
  go_wp2
  go_quiet ((go_at_call 91; exact Calls.quiet_of_same (many_any _ _)))
  go_wp2_with (go_at_call 76; refine (c _).mono ?_; rintro e w2 ⟨rfl, hb2⟩)
  go_loopw [7, 8] (fun n i wr => n = .int .i64 1 ∧ i = .int .i64 0 ∧ Hid (Below w.heap.size w wr) ∧ wr.cell? ⟨w.heap.size, 3, none⟩ = some (.slice ao x.args.length cap)) (fun _ _ _ => 0)
  case atStart => exact ⟨rfl, rfl, bstep (below_drewN ((Below.refl _ _).alloc (Nat.le_refl _) _) _) hb2, cell_kept (w := (w.alloc (.cells #[.int .u8 (x.op : Int), .int .i64 x.n, .string x.name, .slice ao x.args.length cap] 53)).drewN _) (by exact box_at w _ 53 3 _ rfl) hb2⟩
  case round =>
    obtain ⟨rfl, rfl, hB, hx3⟩ := hrel
    have hlt' : ¬ (0 : Int) < (x.args.length : Int) := by have := hl.out; omega
    go_wp2
    go_ret
    exact ⟨rfl, hB.out⟩
set_option maxRecDepth 100000 in
set_option maxHeartbeats 1000000 in
theorem rs_4c (x : Ex) (ao : Option Addr) (cap : Nat) (D M : Int) (w : World) (d : Nat) (ih : RSzC d) (hd : d + 1 ≤ 32) (hDd : D = ((d + 1 : Nat) : Int)) (m : Nat) (hMm : M = (m : Int)) (hm1 : 1 ≤ m) (hm2 : m ≤ 200) (hD : (D == 0) = false) (hM : (M == 0) = false) (hm : (manyI x.op != (x.args.length : Int)) = false) (e1 : ((x.op : Int) == 1) = false) (e2 : ((x.op : Int) == 2) = false) (e3 : ((x.op : Int) == 3) = false) (h0 : (x.n != 0) = false) (he : x.name.toList.isEmpty = true) (hS : St w x (.slice ao x.args.length cap)) : Calls Tryd.prog 83 #[exV x (.slice ao x.args.length cap), .int .i64 D, .int .i64 M] w fun e w' => e = .returned (.int .i64 (szI (szL (sz d) m 1 x.args))) ∧ Below w.heap.size w w' := by
  obtain ⟨ao', cap', sl, hv, _, _, _, hlen, _, hcs, hss⟩ := hS.out
  injection hv with ea _ ec
  subst ea
  subst ec
  have HS := hid hss
  have HC := hid hcs
  have HI := hid ih
  have hD1 : D - 1 = (d : Int) := by omega
  have hD3 : D ≤ 32 := by omega
  have hD4 : 0 ≤ D := by omega
  have HM := hid hMm
  have hM1 : 1 ≤ M := by omega
  have hM2 : M ≤ 200 := by omega
  clear hss hcs ih hS hDd hMm
  go_enter Tryd.func83, Tryd.ntmps83
  go_wp2
  go_quiet ((go_at_call 91; exact Calls.quiet_of_same (many_any _ _)))
  go_wp2
  go_loopw [7, 8] (fun n i wr => ∃ (k z : Nat), k ≤ x.args.length ∧ 1 ≤ z ∧ z ≤ m ∧ n = .int .i64 (z : Int) ∧ i = .int .i64 (k : Int) ∧ Hid (szL (sz d) m 1 x.args = szL (sz d) m z (x.args.drop k)) ∧ Hid (Below w.heap.size w wr) ∧ wr.cell? ⟨w.heap.size, 3, none⟩ = some (.slice ao x.args.length cap)) (fun _ i _ => x.args.length - (intOf i).toNat)
  case atStart => exact ⟨0, 1, Nat.zero_le _, Nat.le_refl _, hm1, rfl, rfl, by simp [Hid], below_drewN ((Below.refl _ _).alloc (Nat.le_refl _) _) _, box_at w _ 53 3 _ rfl⟩
  case round =>
    obtain ⟨k, z, hk, hz1, hz2, rfl, rfl, hE, hB, hx3⟩ := hrel
    by_cases hlt : k < x.args.length
    · have hlt' : (k : Int) < (x.args.length : Int) := by omega
      have hk0 : (0 : Int) ≤ (k : Int) := by omega
      obtain ⟨bb, o, rfl, hcc⟩ := HC.out.resolve_left (by omega)
      obtain ⟨a0, a1, a2, a3⟩ := hcc k hlt
      have v0 := cell_kept a0 hB.out
      have v1 := cell_kept a1 hB.out
      have v2 := cell_kept a2 hB.out
      have v3 := cell_kept a3 hB.out
      have hdr : x.args.drop k = x.args[k] :: x.args.drop (k + 1) := List.drop_eq_getElem_cons hlt
      have hE' := hE.out
      rw [hdr, szL] at hE'
      have HE := hid hE'
      have hst := (HS.out k hlt).keep hB.out
      clear a0 a1 a2 a3 hcc hdr hE' hE
      generalize x.args[k] = y at *
      obtain ⟨sv, hsv⟩ : ∃ sv, sl k = sv := ⟨_, rfl⟩
      rw [hsv] at v3 hst
      obtain ⟨ak, ck, _, rfl, _⟩ := hst.out
      clear hsv
      have hMz : M - (z : Int) = ((m - z : Nat) : Int) := by have := HM.out; omega
      have cc := HI.out y wr _ (m - z) (by omega) hst
      clear hst
      cases hz : sz d (m - z) y with
      | none =>
        rw [hz] at cc HE
        have hnone : Hid (szL (sz d) m 1 x.args = none) := HE.out
        simp only [szI] at cc
        go_wp2_with (go_at_call 83; refine cc.mono ?_; rintro e w4 ⟨rfl, hb4⟩)
        go_ret
        exact ⟨by rw [hnone.out]; rfl, bstep hB.out hb4⟩
      | some j =>
        rw [hz] at cc HE
        have hj := sz_le _ _ _ _ hz
        simp only [szI] at cc
        have hj0 : ¬ (j : Int) < 0 := by omega
        go_wp2_with (go_at_call 83; refine cc.mono ?_; rintro e w4 ⟨rfl, hb4⟩; have hx4 := cell_kept hx3 hb4; have B4 := hid (bstep hB.out hb4))
        go_roundw
        case rel => exact ⟨k + 1, z + j, by omega, by omega, by omega, by go_num, by go_num, HE.out, B4, hx4⟩
        case measure => simp [intOf]; omega
    · have hlt' : ¬ (k : Int) < (x.args.length : Int) := by omega
      have hdr : x.args.drop k = [] := List.drop_eq_nil_of_le (by omega)
      have hE' := hE.out
      rw [hdr, szL] at hE'
      have HE := hid hE'
      clear hE' hdr hE
      go_wp2
      go_ret
      exact ⟨by rw [HE.out]; rfl, hB.out⟩
end Go.Proofs.YtmlapodhpinhmaaDoor.Lex
namespace Go.Proofs.YtmlapodhpinhmaaDoor.Lex
open Go.ChangeShapes Go.WideShapes Go.ChangeAt Go.RowKit Go.Joins
theorem many_ne {op len : Nat} (h : ¬ manyI op = (len : Int)) : (manyI op != (len : Int)) = true := by simp [h]
theorem many_eq {op len : Nat} (h : manyI op = (len : Int)) : (manyI op != (len : Int)) = false := by simp [h]
theorem sz_none {d M : Nat} {x : Ex} (h : M = 0 ∨ fieldsOk x.op x.n x.name x.args.length = false) : sz (d + 1) M x = none := by rw [sz, if_pos h]
theorem rsize_any : ∀ (d : Nat), d ≤ 32 → RSzC d
  | 0, _ => by
    intro x w s M hM hS
    obtain ⟨ao, cap, _, rfl, _⟩ := hS.out
    have e : sz 0 M x = none := by simp [sz]
    rw [e]
    exact rs_d0 x ao cap ((0 : Nat) : Int) (M : Int) w rfl
  | d + 1, hd => by
    intro x w s M hM hS
    have ih := rsize_any d (by omega)
    obtain ⟨ao, cap, sl, rfl, hop, hn, hnm, _⟩ := hS.out
    have hD : ((((d + 1 : Nat) : Int)) == 0) = false := by simp; omega
    by_cases hM0 : M = 0
    · rw [sz_none (.inl hM0)]
      exact rs_m0 x ao cap _ _ w hD (by simp [hM0])
    · have hM1 : ((M : Int) == 0) = false := by simp; omega
      have hsplit := fields_split x.op x.n x.name x.args.length
      by_cases hm : manyI x.op = (x.args.length : Int)
      · rw [decide_eq_true hm, Bool.true_and] at hsplit
        have hm' := many_eq hm
        have bad : fldOk x.op x.n x.name = false → sz (d + 1) M x = none := fun h => sz_none (.inr (hsplit.trans h))
        have good : fldOk x.op x.n x.name = true → sz (d + 1) M x = szL (sz d) M 1 x.args := fun h => by rw [sz, if_neg (by rw [hsplit, h]; simp [hM0])]
        have leaf : x.args.length = 0 → szL (sz d) M 1 x.args = some 1 := fun h => by rw [List.eq_nil_of_length_eq_zero h]; rfl
        unfold fldOk at bad good
        by_cases h1 : x.op = 1
        · rw [if_pos h1] at bad good
          have e1 := eqN (b := 1) h1
          have hl : x.args.length = 0 := by rw [h1] at hm; have : manyI 1 = 0 := by decide
                                            omega
          by_cases h0 : x.n < 0
          · rw [bad (by rw [decide_eq_false (by omega)]; rfl)]
            exact rs_1a x ao cap _ _ w hD hM1 hm' e1 h0
          · rw [decide_eq_true (by omega)] at bad good
            by_cases he : x.name.size = 0
            · rw [good (by rw [decide_eq_true he]; rfl), leaf hl]
              exact rs_1c x ao cap _ _ w hD hM1 hm' e1 h0 (empty_yes he) hl
            · rw [bad (by rw [decide_eq_false he]; rfl)]
              exact rs_1b x ao cap _ _ w hD hM1 hm' e1 h0 (empty_no he)
        · rw [if_neg h1] at bad good
          have e1 := neN (b := 1) h1
          by_cases h2 : x.op = 2
          · rw [if_pos h2] at bad good
            have e2 := eqN (b := 2) h2
            have hl : x.args.length = 0 := by rw [h2] at hm; have : manyI 2 = 0 := by decide
                                              omega
            by_cases h0 : x.n = 0
            · rw [decide_eq_true h0] at bad good
              by_cases he : x.name.size = 0
              · rw [good (by rw [decide_eq_true he]; rfl), leaf hl]
                exact rs_2d x ao cap _ _ w hD hM1 hm' e1 e2 (inn h0) (empty_yes he) hl
              · rw [bad (by rw [decide_eq_false he]; rfl)]
                exact rs_2b x ao cap _ _ w hD hM1 hm' e1 e2 (inn h0) (empty_no he)
            · rw [decide_eq_false h0] at bad good
              by_cases h01 : x.n = 1
              · rw [decide_eq_true h01] at bad good
                by_cases he : x.name.size = 0
                · rw [good (by rw [decide_eq_true he]; rfl), leaf hl]
                  exact rs_2e x ao cap _ _ w hD hM1 hm' e1 e2 (inq h0) (inn h01) (empty_yes he) hl
                · rw [bad (by rw [decide_eq_false he]; rfl)]
                  exact rs_2c x ao cap _ _ w hD hM1 hm' e1 e2 (inq h0) (inn h01) (empty_no he)
              · rw [decide_eq_false h01] at bad
                rw [bad rfl]
                exact rs_2a x ao cap _ _ w hD hM1 hm' e1 e2 (inq h0) (inq h01)
          · rw [if_neg h2] at bad good
            have e2 := neN (b := 2) h2
            by_cases h3 : x.op = 3
            · rw [if_pos h3] at bad good
              have e3 := eqN (b := 3) h3
              have hl : x.args.length = 0 := by rw [h3] at hm; have : manyI 3 = 0 := by decide
                                                omega
              by_cases h0 : x.n = 0
              · rw [decide_eq_true h0] at bad good
                cases hb : isName x.name with
                | false =>
                  rw [bad (by rw [hb]; rfl)]
                  exact rs_3b x ao cap _ _ w hD hM1 hm' e1 e2 e3 (inn h0) hnm hb
                | true =>
                  rw [good (by rw [hb]; rfl), leaf hl]
                  exact rs_3c x ao cap _ _ w hD hM1 hm' e1 e2 e3 (inn h0) hnm hb hl
              · rw [decide_eq_false h0] at bad
                rw [bad rfl]
                exact rs_3a x ao cap _ _ w hD hM1 hm' e1 e2 e3 (inq h0)
            · rw [if_neg h3] at bad good
              have e3 := neN (b := 3) h3
              by_cases h0 : x.n = 0
              · rw [decide_eq_true h0] at bad good
                by_cases he : x.name.size = 0
                · rw [good (by rw [decide_eq_true he]; rfl)]
                  exact rs_4c x ao cap _ _ w d ih hd rfl M rfl (by omega) hM hD hM1 hm' e1 e2 e3 (inn h0) (empty_yes he) hS
                · rw [bad (by rw [decide_eq_false he]; rfl)]
                  exact rs_4b x ao cap _ _ w hD hM1 hm' e1 e2 e3 (inn h0) (empty_no he)
              · rw [decide_eq_false h0] at bad
                rw [bad rfl]
                exact rs_4a x ao cap _ _ w hD hM1 hm' e1 e2 e3 (inq h0)
      · rw [decide_eq_false hm, Bool.false_and] at hsplit
        rw [sz_none (.inr hsplit)]
        exact rs_mn x ao cap _ _ w hD hM1 (many_ne hm)
set_option maxRecDepth 100000 in
/-- The document's own Check. -/
theorem rcheck (x : Ex) (w : World) (s : Value) (hS : St w x s) : Calls Tryd.prog 75 #[exV x s] w fun e w' => e = .returned (.bool (chk x)) ∧ Below w.heap.size w w' := by
  obtain ⟨ao, cap, sl, rfl, _⟩ := hS.out
  have b1 := (Below.refl w.heap.size w).alloc (Nat.le_refl _) (.cells #[.int .u8 (x.op : Int), .int .i64 x.n, .string x.name, .slice ao x.args.length cap] 53)
  have c := rsize_any 32 (Nat.le_refl _) x _ _ 200 (Nat.le_refl _) (hS.keep b1)
  have H1 := hid b1
  unfold chk
  cases hz : sz 32 200 x with
  | none =>
    rw [hz] at c
    simp only [szI] at c
    clear hS b1
    go_enter Tryd.func75, Tryd.ntmps75
    go_wp2_with (go_at_call 83; refine c.mono ?_; rintro e w3 ⟨rfl, hb3⟩)
    go_ret
    exact ⟨rfl, bstep H1.out hb3⟩
  | some k =>
    have hk := sz_le _ _ _ _ hz
    have hk' : (0 : Int) < (k : Int) := by omega
    rw [hz] at c
    simp only [szI] at c
    clear hS b1 hz
    go_enter Tryd.func75, Tryd.ntmps75
    go_wp2_with (go_at_call 83; refine c.mono ?_; rintro e w3 ⟨rfl, hb3⟩)
    go_ret
    exact ⟨by first | rfl | (simp; omega), bstep H1.out hb3⟩
end Go.Proofs.YtmlapodhpinhmaaDoor.Lex
namespace Go.Proofs.YtmlapodhpinhmaaDoor.Lex
open Go.ChangeShapes Go.WideShapes Go.ChangeAt Go.RowKit Go.Shelf
set_option maxRecDepth 100000 in
set_option maxHeartbeats 2000000 in
theorem ris (p : Pg) (nm : ByteArray) (ty : Nat) (st : Int) (w : World) (A B C : Value) (hs : nm.size ≤ 140737488355328) :
    Calls Tryd.prog 74 #[pgV p A B C, .string nm, .int .u8 (ty : Int), .int .i64 st] w fun e w' => e = .returned (.bool (hdOk ⟨nm, ty, st⟩ p.st)) ∧ Below w.heap.size w w' := by
  have B0 := hid ((Below.refl w.heap.size w).alloc (Nat.le_refl _) (.cells (pgC p A B C) 26))
  have z0 := (row4 (heap_alloc_new w (.cells (pgC p A B C) 26))).1
  have cN := refName nm (w.alloc (.cells (pgC p A B C) 26)) hs
  have hd : hdOk ⟨nm, ty, st⟩ p.st = (isName nm && ((ty == 1 || ty == 2) && (decide (1 ≤ st) && decide (st ≤ p.st)))) := rfl
  have HD := hid hd
  clear hd
  cases hnm : isName nm with
  | false =>
    rw [hnm] at cN
    have HV : Hid (hdOk ⟨nm, ty, st⟩ p.st = false) := hid (by rw [HD.out, hnm]; rfl)
    clear hnm
    go_enter Tryd.func74, Tryd.ntmps74
    go_wp2_with (fail)
    refine cN.mono ?_
    rintro e w1 ⟨rfl, hb1⟩
    have q0 := cell_kept z0 hb1
    have hB := hid (bstep B0.out hb1)
    go_wp2_with (fail)
    go_ret
    exact ⟨by rw [HV.out]; first | rfl | (show Ending.returned (.bool (decide (st ≤ p.st))) = _; rw [decide_eq_false (by omega)]), hB.out⟩
  | true =>
    rw [hnm] at cN
    by_cases h1 : ty = 1
    · have e1 : ((ty : Int) == 1) = true := by rw [beq_iff_eq]; omega
      have hb1 : (ty == 1) = true := by rw [beq_iff_eq]; exact h1
      by_cases h3 : 1 ≤ st
      · by_cases h4 : st ≤ p.st
        · have HV : Hid (hdOk ⟨nm, ty, st⟩ p.st = true) := hid (by rw [HD.out, hnm, hb1, decide_eq_true h3, decide_eq_true h4]; rfl)
          clear hnm h1 hb1
          go_enter Tryd.func74, Tryd.ntmps74
          go_wp2_with (fail)
          refine cN.mono ?_
          rintro e w1 ⟨rfl, hb1⟩
          have q0 := cell_kept z0 hb1
          have hB := hid (bstep B0.out hb1)
          go_wp2_with (fail)
          go_ret
          exact ⟨by rw [HV.out]; first | rfl | (show Ending.returned (.bool (decide (st ≤ p.st))) = _; rw [decide_eq_false (by omega)]), hB.out⟩
        · have HV : Hid (hdOk ⟨nm, ty, st⟩ p.st = false) := hid (by rw [HD.out, hnm, hb1, decide_eq_true h3, decide_eq_false h4]; rfl)
          clear hnm h1 hb1
          go_enter Tryd.func74, Tryd.ntmps74
          go_wp2_with (fail)
          refine cN.mono ?_
          rintro e w1 ⟨rfl, hb1⟩
          have q0 := cell_kept z0 hb1
          have hB := hid (bstep B0.out hb1)
          go_wp2_with (fail)
          go_ret
          exact ⟨by rw [HV.out]; first | rfl | (show Ending.returned (.bool (decide (st ≤ p.st))) = _; rw [decide_eq_false (by omega)]), hB.out⟩
      · have HV : Hid (hdOk ⟨nm, ty, st⟩ p.st = false) := hid (by rw [HD.out, hnm, hb1, decide_eq_false h3]; rfl)
        clear hnm h1 hb1
        go_enter Tryd.func74, Tryd.ntmps74
        go_wp2_with (fail)
        refine cN.mono ?_
        rintro e w1 ⟨rfl, hb1⟩
        have q0 := cell_kept z0 hb1
        have hB := hid (bstep B0.out hb1)
        go_wp2_with (fail)
        go_ret
        exact ⟨by rw [HV.out]; first | rfl | (show Ending.returned (.bool (decide (st ≤ p.st))) = _; rw [decide_eq_false (by omega)]), hB.out⟩
    · have e1 : ((ty : Int) == 1) = false := by rw [beq_eq_false_iff_ne]; omega
      have hb1 : (ty == 1) = false := by rw [beq_eq_false_iff_ne]; exact h1
      by_cases h2 : ty = 2
      · have e2 : ((ty : Int) == 2) = true := by rw [beq_iff_eq]; omega
        have hb2 : (ty == 2) = true := by rw [beq_iff_eq]; exact h2
        by_cases h3 : 1 ≤ st
        · by_cases h4 : st ≤ p.st
          · have HV : Hid (hdOk ⟨nm, ty, st⟩ p.st = true) := hid (by rw [HD.out, hnm, hb1, hb2, decide_eq_true h3, decide_eq_true h4]; rfl)
            clear hnm h1 h2 hb1 hb2
            go_enter Tryd.func74, Tryd.ntmps74
            go_wp2_with (fail)
            refine cN.mono ?_
            rintro e w1 ⟨rfl, hb1⟩
            have q0 := cell_kept z0 hb1
            have hB := hid (bstep B0.out hb1)
            go_wp2_with (fail)
            go_ret
            exact ⟨by rw [HV.out]; first | rfl | (show Ending.returned (.bool (decide (st ≤ p.st))) = _; rw [decide_eq_false (by omega)]), hB.out⟩
          · have HV : Hid (hdOk ⟨nm, ty, st⟩ p.st = false) := hid (by rw [HD.out, hnm, hb1, hb2, decide_eq_true h3, decide_eq_false h4]; rfl)
            clear hnm h1 h2 hb1 hb2
            go_enter Tryd.func74, Tryd.ntmps74
            go_wp2_with (fail)
            refine cN.mono ?_
            rintro e w1 ⟨rfl, hb1⟩
            have q0 := cell_kept z0 hb1
            have hB := hid (bstep B0.out hb1)
            go_wp2_with (fail)
            go_ret
            exact ⟨by rw [HV.out]; first | rfl | (show Ending.returned (.bool (decide (st ≤ p.st))) = _; rw [decide_eq_false (by omega)]), hB.out⟩
        · have HV : Hid (hdOk ⟨nm, ty, st⟩ p.st = false) := hid (by rw [HD.out, hnm, hb1, hb2, decide_eq_false h3]; rfl)
          clear hnm h1 h2 hb1 hb2
          go_enter Tryd.func74, Tryd.ntmps74
          go_wp2_with (fail)
          refine cN.mono ?_
          rintro e w1 ⟨rfl, hb1⟩
          have q0 := cell_kept z0 hb1
          have hB := hid (bstep B0.out hb1)
          go_wp2_with (fail)
          go_ret
          exact ⟨by rw [HV.out]; first | rfl | (show Ending.returned (.bool (decide (st ≤ p.st))) = _; rw [decide_eq_false (by omega)]), hB.out⟩
      · have e2 : ((ty : Int) == 2) = false := by rw [beq_eq_false_iff_ne]; omega
        have hb2 : (ty == 2) = false := by rw [beq_eq_false_iff_ne]; exact h2
        have HV : Hid (hdOk ⟨nm, ty, st⟩ p.st = false) := hid (by rw [HD.out, hnm, hb1, hb2]; rfl)
        clear hnm h1 h2 hb1 hb2
        go_enter Tryd.func74, Tryd.ntmps74
        go_wp2_with (fail)
        refine cN.mono ?_
        rintro e w1 ⟨rfl, hb1⟩
        have q0 := cell_kept z0 hb1
        have hB := hid (bstep B0.out hb1)
        go_wp2_with (fail)
        go_ret
        exact ⟨by rw [HV.out]; first | rfl | (show Ending.returned (.bool (decide (st ≤ p.st))) = _; rw [decide_eq_false (by omega)]), hB.out⟩
theorem pg_room {p : Pg} (h : ¬ ((1 ≤ p.st ∧ p.st ≤ 8) ∧ p.ins.length ≤ 64 ∧ p.flows.length ≤ 128 ∧ p.outs.length ≤ p.ins.length + p.flows.length)) : pgOk p = false := by
  cases e : pgOk p with
  | false => rfl
  | true =>
    unfold pgOk roomOk inR at e
    simp only [Bool.and_eq_true, decide_eq_true_eq] at e
    exact (h ⟨e.1.1, e.1.2.1, e.1.2.2.1, e.1.2.2.2⟩).elim
theorem pg_in {p : Pg} {x : Hd} (hx : x ∈ p.ins) (h : hdOk x p.st = false) : pgOk p = false := by
  cases e : pgOk p with
  | false => rfl
  | true =>
    unfold pgOk at e
    simp only [Bool.and_eq_true, List.all_eq_true] at e
    rw [e.2.1 x hx] at h; cases h
theorem pg_flow {p : Pg} {x : Fl} (hx : x ∈ p.flows) (h : flOk x p.st = false) : pgOk p = false := by
  cases e : pgOk p with
  | false => rfl
  | true =>
    unfold pgOk at e
    simp only [Bool.and_eq_true, List.all_eq_true] at e
    rw [e.2.2.1 x hx] at h; cases h
theorem pg_out {p : Pg} {x : ByteArray} (hx : x ∈ p.outs) (h : isName x = false) : pgOk p = false := by
  cases e : pgOk p with
  | false => rfl
  | true =>
    unfold pgOk at e
    simp only [Bool.and_eq_true, List.all_eq_true] at e
    rw [e.2.2.2 x hx] at h; cases h
theorem take_all {α : Type} {P : α → Prop} {l : List α} {k : Nat} (hk : k < l.length) (h : ∀ x ∈ l.take k, P x) (hy : P l[k]) : ∀ x ∈ l.take (k + 1), P x := fun x hx => by
  rw [List.take_succ_eq_append_getElem hk] at hx
  rcases List.mem_append.1 hx with hx | hx
  · exact h x hx
  · rw [List.mem_singleton.1 hx]; exact hy
set_option maxRecDepth 100000 in
set_option maxHeartbeats 4000000 in
theorem rprog (p : Pg) (w : World) (a b c : Value) (hP : PgAt w p a b c) (hR : TabR w) (hJ : TabJ w) : Calls Tryd.prog 58 #[pgV p a b c] w fun e w' => e = .returned (.bool (pgOk p)) ∧ Below w.heap.size w w' := by
  obtain ⟨a0, a1, rfl, hl1, _, ho1, hc1⟩ := hP.ins
  obtain ⟨b0, b1, sl, rfl, hl2, _, ho2, hc2, hs2⟩ := hP.flows
  obtain ⟨c0, c1, rfl, hl3, _, ho3, hc3⟩ := hP.outs
  have HC1 := hid hc1
  have HC2 := hid hc2
  have HC3 := hid hc3
  have HS2 := hid hs2
  have HO1 := hid ho1
  have HO2 := hid ho2
  have HO3 := hid ho3
  have fv0 := hid (FV.new hP hR hJ)
  obtain ⟨p0, p1, p2, p3⟩ := row4 fv0.out.row
  clear hP hR hJ hc1 hc2 hc3 hs2 ho1 ho2 ho3
  by_cases h1 : p.st < 1
  · have HV : Hid (pgOk p = false) := hid (pg_room (by omega))
    go_enter Tryd.func58, Tryd.ntmps58
    go_wp2_with (fail)
    go_ret
    exact ⟨by rw [HV.out]; rfl, fv0.out.below⟩
  by_cases h2 : 8 < p.st
  · have HV : Hid (pgOk p = false) := hid (pg_room (by omega))
    go_enter Tryd.func58, Tryd.ntmps58
    go_wp2_with (fail)
    go_ret
    exact ⟨by rw [HV.out]; rfl, fv0.out.below⟩
  by_cases h3 : 64 < p.ins.length
  · have h3' : (64 : Int) < (p.ins.length : Int) := by omega
    have HV : Hid (pgOk p = false) := hid (pg_room (by omega))
    go_enter Tryd.func58, Tryd.ntmps58
    go_wp2_with (fail)
    go_ret
    exact ⟨by rw [HV.out]; rfl, fv0.out.below⟩
  have h3' : ¬ (64 : Int) < (p.ins.length : Int) := by omega
  by_cases h4 : 128 < p.flows.length
  · have h4' : (128 : Int) < (p.flows.length : Int) := by omega
    have HV : Hid (pgOk p = false) := hid (pg_room (by omega))
    go_enter Tryd.func58, Tryd.ntmps58
    go_wp2_with (fail)
    go_ret
    exact ⟨by rw [HV.out]; rfl, fv0.out.below⟩
  have h4' : ¬ (128 : Int) < (p.flows.length : Int) := by omega
  have hwr : IntKind.i64.wrap ((p.ins.length : Int) + (p.flows.length : Int)) = (p.ins.length : Int) + (p.flows.length : Int) := by rw [IntKind.wrap_i64]; omega
  by_cases h5 : p.ins.length + p.flows.length < p.outs.length
  · have h5' : (p.ins.length : Int) + (p.flows.length : Int) < (p.outs.length : Int) := by omega
    have HV : Hid (pgOk p = false) := hid (pg_room (by omega))
    go_enter Tryd.func58, Tryd.ntmps58
    go_wp2_with (fail)
    go_ret
    exact ⟨by rw [HV.out]; rfl, fv0.out.below⟩
  have h5' : ¬ (p.ins.length : Int) + (p.flows.length : Int) < (p.outs.length : Int) := by omega
  have HRM : Hid ((inR p.st 8 && roomOk p) = true) := hid (by unfold inR roomOk; simp only [Bool.and_eq_true, decide_eq_true_eq]; exact ⟨⟨by omega, by omega⟩, by omega, by omega, by omega⟩)
  go_enter Tryd.func58, Tryd.ntmps58
  go_wp2_with (fail)
  go_loopw [3] (fun i wr => ∃ k : Nat, k ≤ p.ins.length ∧ i = .int .i64 (k : Int) ∧ Hid (∀ x ∈ p.ins.take k, hdOk x p.st = true) ∧ Hid (FV w p (.slice a0 p.ins.length a1) (.slice b0 p.flows.length b1) (.slice c0 p.outs.length c1) wr)) (fun i _ => p.ins.length - (intOf i).toNat)
  case atStart => exact ⟨0, Nat.zero_le _, rfl, hid (by simp), fv0⟩
  case round =>
    clear p0 p1 p2 p3
    obtain ⟨k, hk, rfl, HA, hF⟩ := hrel
    obtain ⟨s0, s1, s2, s3⟩ := row4 hF.out.row
    by_cases hlt : k < p.ins.length
    · have hlt' : (k : Int) < (p.ins.length : Int) := by omega
      have hk0 : (0 : Int) ≤ (k : Int) := by omega
      obtain ⟨bb, o, rfl, hcc⟩ := HC1.out.resolve_left (by omega)
      obtain ⟨s4, s5, s6⟩ := (hcc k hlt).keep hF.out.below
      have FA := hid (hF.out.keep ((Below.refl _ _).alloc (Nat.le_refl _) (.cells #[.string p.ins[k].name, .int .u8 (p.ins[k].ty : Int), .int .i64 p.ins[k].st] 59)))
      have c47 := ris p p.ins[k].name p.ins[k].ty p.ins[k].st (wr.alloc (.cells #[.string p.ins[k].name, .int .u8 (p.ins[k].ty : Int), .int .i64 p.ins[k].st] 59)) (.slice (some ⟨bb, o, none⟩) p.ins.length a1) (.slice b0 p.flows.length b1) (.slice c0 p.outs.length c1) (HO1.out _ (List.getElem_mem hlt)).1
      have HT := hid (fun (h : hdOk p.ins[k] p.st = true) => take_all hlt HA.out h)
      have HFL := hid (fun (h : hdOk p.ins[k] p.st = false) => pg_in (List.getElem_mem hlt) h)
      obtain ⟨r0, r1, r2, r3⟩ := row4 FA.out.row
      clear hcc s0 s1 s2 s3
      obtain ⟨s0, s1, s2, s3⟩ := row4 hF.out.row
      generalize p.ins[k] = y at *
      go_wp2_with (fail)
      refine c47.mono ?_
      rintro e w3 ⟨rfl, hb3⟩
      have F3 := hid (FA.out.keep hb3)
      cases hy : hdOk ⟨y.name, y.ty, y.st⟩ p.st with
      | true =>
        have HT2 := hid (HT.out hy)
        go_wp2_with (fail)
        go_roundw
        case rel => exact ⟨k + 1, by omega, by go_num, HT2, F3⟩
        case measure => simp [intOf]; omega
      | false =>
        have HV := hid (HFL.out hy)
        go_wp2_with (fail)
        go_ret
        exact ⟨by rw [HV.out]; rfl, F3.out.below⟩
    · have hlt' : ¬ (k : Int) < (p.ins.length : Int) := by omega
      obtain rfl : k = p.ins.length := by omega
      have HI : Hid (∀ x ∈ p.ins, hdOk x p.st = true) := hid (by have := HA.out; rwa [List.take_length] at this)
      clear HA hk hlt
      go_wp2_with (fail)
      go_loopw [5] (fun i wr => ∃ k : Nat, k ≤ p.flows.length ∧ i = .int .i64 (k : Int) ∧ Hid (∀ x ∈ p.flows.take k, flOk x p.st = true) ∧ Hid (FV w p (.slice a0 p.ins.length a1) (.slice b0 p.flows.length b1) (.slice c0 p.outs.length c1) wr)) (fun i _ => p.flows.length - (intOf i).toNat)
      case atStart => exact ⟨0, Nat.zero_le _, rfl, hid (by simp), hF⟩
      case round =>
        clear s0 s1 s2 s3 hF hlt'
        obtain ⟨k, hk, rfl, HA, hF⟩ := hrel
        obtain ⟨s0, s1, s2, s3⟩ := row4 hF.out.row
        by_cases hlt : k < p.flows.length
        · have hlt' : (k : Int) < (p.flows.length : Int) := by omega
          have hk0 : (0 : Int) ≤ (k : Int) := by omega
          obtain ⟨bb, o, rfl, hcc⟩ := HC2.out.resolve_left (by omega)
          obtain ⟨a3, c3, _, e3, _⟩ := (HS2.out k hlt).out
          have X := (hcc k hlt).keep hF.out.below
          have HST := hid (HS2.out k hlt)
          rw [e3] at X HST
          obtain ⟨s4, s5, s6, s7, s8, s9, s10, s11⟩ := X
          have hdf := (HO2.out _ (List.getElem_mem hlt)).2.2.2
          have hns := (HO2.out _ (List.getElem_mem hlt)).1
          have HT := hid (fun (h : flOk p.flows[k] p.st = true) => take_all hlt HA.out h)
          have HFL := hid (fun (h : flOk p.flows[k] p.st = false) => pg_flow (List.getElem_mem hlt) h)
          have HFD : Hid (flOk p.flows[k] p.st = (hdOk ⟨p.flows[k].name, p.flows[k].ty, p.flows[k].st⟩ p.st && (!(p.flows[k].df == -9223372036854775808) && chk p.flows[k].body))) := hid rfl
          clear hcc e3
          generalize p.flows[k] = y at *
          have FA := hid (hF.out.keep ((Below.refl _ _).alloc (Nat.le_refl _) (.cells #[.string y.name, .int .u8 (y.ty : Int), .int .i64 y.st, .int .i64 y.df, .int .u8 (y.body.op : Int), .int .i64 y.body.n, .string y.body.name, .slice a3 y.body.args.length c3] 55)))
          have XA := hid (heap_alloc_new wr (.cells #[.string y.name, .int .u8 (y.ty : Int), .int .i64 y.st, .int .i64 y.df, .int .u8 (y.body.op : Int), .int .i64 y.body.n, .string y.body.name, .slice a3 y.body.args.length c3] 55))
          have c47 := ris p y.name y.ty y.st (wr.alloc (.cells #[.string y.name, .int .u8 (y.ty : Int), .int .i64 y.st, .int .i64 y.df, .int .u8 (y.body.op : Int), .int .i64 y.body.n, .string y.body.name, .slice a3 y.body.args.length c3] 55)) (.slice a0 p.ins.length a1) (.slice (some ⟨bb, o, none⟩) p.flows.length b1) (.slice c0 p.outs.length c1) hns
          obtain ⟨r0, r1, r2, r3⟩ := row4 FA.out.row
          go_wp2_with (fail)
          refine c47.mono ?_
          rintro e w3 ⟨rfl, hb3⟩
          have F3 := hid (FA.out.keep hb3)
          have X3 := hid (keep_row XA.out hb3)
          have z := fun j v (h : (#[.string y.name, .int .u8 (y.ty : Int), .int .i64 y.st, .int .i64 y.df, .int .u8 (y.body.op : Int), .int .i64 y.body.n, .string y.body.name, .slice a3 y.body.args.length c3] : Array Value)[j]? = some v) => (cell_of_row w3 wr.heap.size j _ 55 (0, 0) X3.out).trans h
          have z3 := z 3 _ rfl
          have z4 := z 4 _ rfl
          have z5 := z 5 _ rfl
          have z6 := z 6 _ rfl
          have z7 := z 7 _ rfl
          clear z hb3 c47 r0 r1 r2 r3 s0 s1 s2 s3 s4 s5 s6 s7 s8 s9 s10 s11
          cases hy : hdOk ⟨y.name, y.ty, y.st⟩ p.st with
          | false =>
            have HV := hid (HFL.out (by rw [HFD.out, hy]; rfl))
            go_wp2_with (fail)
            go_ret
            exact ⟨by rw [HV.out]; rfl, F3.out.below⟩
          | true =>
            by_cases hd : y.df = -9223372036854775808
            · have HV := hid (HFL.out (by rw [HFD.out, hy, hd]; rfl))
              have hd' : y.df < -9223372036854775807 := by omega
              clear hd
              go_wp2_with (fail)
              go_ret
              exact ⟨by rw [HV.out]; rfl, F3.out.below⟩
            · have hd' : ¬ y.df < -9223372036854775807 := by omega
              have hdb : (y.df == -9223372036854775808) = false := by rw [beq_eq_false_iff_ne]; exact hd
              have c48 := rcheck y.body w3 _ (HST.out.keep F3.out.below)
              have HCB := hid (fun (v : Bool) (h : chk y.body = v) => show flOk y p.st = v by rw [HFD.out, hy, hdb, h]; cases v <;> rfl)
              clear hd hdb
              cases hc : chk y.body with
              | true =>
                rw [hc] at c48
                have HT2 := hid (HT.out (HCB.out _ hc))
                go_wp2_with (fail)
                refine c48.mono ?_
                rintro e w4 ⟨rfl, hb4⟩
                have F4 := hid (F3.out.keep hb4)
                go_wp2_with (fail)
                go_roundw
                case rel => exact ⟨k + 1, by omega, by go_num, HT2, F4⟩
                case measure => simp [intOf]; omega
              | false =>
                rw [hc] at c48
                have HV := hid (HFL.out (HCB.out _ hc))
                go_wp2_with (fail)
                refine c48.mono ?_
                rintro e w4 ⟨rfl, hb4⟩
                have hB := (F3.out.keep hb4).below
                go_wp2_with (fail)
                go_ret
                exact ⟨by rw [HV.out]; rfl, hB⟩
        · have hlt' : ¬ (k : Int) < (p.flows.length : Int) := by omega
          obtain rfl : k = p.flows.length := by omega
          have HFS : Hid (∀ x ∈ p.flows, flOk x p.st = true) := hid (by have := HA.out; rwa [List.take_length] at this)
          clear HA hk hlt
          go_wp2_with (fail)
          go_loopw [7] (fun i wr => ∃ k : Nat, k ≤ p.outs.length ∧ i = .int .i64 (k : Int) ∧ Hid (∀ x ∈ p.outs.take k, isName x = true) ∧ Hid (FV w p (.slice a0 p.ins.length a1) (.slice b0 p.flows.length b1) (.slice c0 p.outs.length c1) wr)) (fun i _ => p.outs.length - (intOf i).toNat)
          case atStart => exact ⟨0, Nat.zero_le _, rfl, hid (by simp), hF⟩
          case round =>
            clear s0 s1 s2 s3 hF hlt'
            obtain ⟨k, hk, rfl, HA, hF⟩ := hrel
            obtain ⟨s0, s1, s2, s3⟩ := row4 hF.out.row
            by_cases hlt : k < p.outs.length
            · have hlt' : (k : Int) < (p.outs.length : Int) := by omega
              have hk0 : (0 : Int) ≤ (k : Int) := by omega
              obtain ⟨bb, o, rfl, hcc⟩ := HC3.out.resolve_left (by omega)
              have s4 := cell_kept (hcc k hlt) hF.out.below
              have c49 := refName p.outs[k] wr (HO3.out _ (List.getElem_mem hlt))
              have HT := hid (fun (h : isName p.outs[k] = true) => take_all hlt HA.out h)
              have HFL := hid (fun (h : isName p.outs[k] = false) => pg_out (List.getElem_mem hlt) h)
              clear hcc
              generalize p.outs[k] = y at *
              cases hy : isName y with
              | true =>
                rw [hy] at c49
                have HT2 := hid (HT.out hy)
                go_wp2_with (fail)
                refine c49.mono ?_
                rintro e w4 ⟨rfl, hb4⟩
                have F4 := hid (hF.out.keep hb4)
                go_wp2_with (fail)
                go_roundw
                case rel => exact ⟨k + 1, by omega, by go_num, HT2, F4⟩
                case measure => simp [intOf]; omega
              | false =>
                rw [hy] at c49
                have HV := hid (HFL.out hy)
                go_wp2_with (fail)
                refine c49.mono ?_
                rintro e w4 ⟨rfl, hb4⟩
                have hB := (hF.out.keep hb4).below
                go_wp2_with (fail)
                go_ret
                exact ⟨by rw [HV.out]; rfl, hB⟩
            · have hlt' : ¬ (k : Int) < (p.outs.length : Int) := by omega
              obtain rfl : k = p.outs.length := by omega
              have HO : Hid (∀ x ∈ p.outs, isName x = true) := hid (by have := HA.out; rwa [List.take_length] at this)
              have HV : Hid (pgOk p = true) := hid (by unfold pgOk; rw [HRM.out, List.all_eq_true.2 HI.out, List.all_eq_true.2 HFS.out, List.all_eq_true.2 HO.out]; rfl)
              go_wp2_with (fail)
              go_ret
              exact ⟨by rw [HV.out]; rfl, hF.out.below⟩
end Go.Proofs.YtmlapodhpinhmaaDoor.Lex
