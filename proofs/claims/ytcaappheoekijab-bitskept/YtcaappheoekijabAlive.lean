/-
  The contracts as told from a law's first world on; alive: some answers that the document fixes.
-/
import Derived.Test.YtcaappheoekijabKit
namespace Go.Proofs.Ytcaappheoekijab.Bits
open Go.ChangeShapes Go.WideShapes Go.ChangeAt Go.RowKit Go.Shelf
/-- A writer all of whose memory lies at or beyond block B. -/
structure Pen (B : Nat) (w : World) (a r : Nat) (v : Value) (L : List Bool) : Prop where
  wr : Wr w a r v L
  lo : B ≤ r
  own : ∀ g, v.ownBlock = some g → B ≤ g
theorem Wr.kept {w w' : World} {a r : Nat} {v : Value} {L : List Bool} (h : Wr w a r v L) (hb : Below w.heap.size w w') : Wr w' a r v L := by
  refine ⟨(hb.block a (Array.getElem?_eq_some_iff.1 h.ptr).1).trans h.ptr, (hb.block r (Array.getElem?_eq_some_iff.1 h.row.row).1).trans h.row.row, h.row.own.kept (row := none) ⟨hb.os, hb.tape, hb.output, hb.size, fun k hk _ => hb.block k hk⟩ ?_⟩
  cases v.ownBlock <;> simp
theorem Pen.kept {B : Nat} {w w' : World} {a r : Nat} {v : Value} {L : List Bool} (h : Pen B w a r v L) (hb : Below w.heap.size w w') : Pen B w' a r v L := ⟨h.wr.kept hb, h.lo, h.own⟩
theorem Put.below {B r : Nat} {v v' : Value} {w w' : World} (h : Put r v v' w w') (hB : B ≤ w.heap.size) (hr : B ≤ r) (hv : ∀ g, v.ownBlock = some g → B ≤ g) : Below B w w' :=
  ⟨h.os, h.tape, h.output, h.size, fun k hk => h.block k (by omega) (by omega) (fun e => by have := hv k e.symm; omega)⟩
theorem put_a (w0 : World) (a r : Nat) (v : Value) (L : List Bool) (N k : Nat) (w : World) (hb : Below w0.heap.size w0 w) (hP : Pen w0.heap.size w a r v L) (hk : k ≤ 64) (hN : N < 2 ^ k) (hL : L.length + k < 1099511627776) :
    Calls Try.prog 6 #[.pointer (some ⟨a, 0, none⟩), .int .u64 (N : Int), .int .i64 (k : Int)] w fun e w' => e = .returned (.int .i64 0) ∧ ∃ v', Pen w0.heap.size w' a r v' (L ++ bitsOf N k) ∧ Below w0.heap.size w0 w' :=
  (put_ok a r v L N k w hP.wr hk hN hL).mono fun e w' ⟨he, v', hW, hp⟩ => ⟨he, v', ⟨hW, hP.lo, fun g hg => by
    rcases hp.where_ with e | ⟨g', e, hg'⟩
    · exact hP.own g (e ▸ hg)
    · rw [hg] at e; cases e; exact Nat.le_trans hb.size hg'⟩, hb.trans (hp.below hb.size hP.lo hP.own)⟩
theorem below_alloc (w : World) (o : Obj) : Below w.heap.size w (w.alloc o) := (Below.refl _ w).alloc (Nat.le_refl _) o
theorem bad_a (w0 : World) (a r : Nat) (v : Value) (L : List Bool) (N : Nat) (k : Int) (w : World) (hb : Below w0.heap.size w0 w) (hP : Pen w0.heap.size w a r v L) (hbad : ¬ (0 ≤ k ∧ k ≤ 64) ∨ ∃ q : Nat, k = q ∧ q ≤ 64 ∧ 2 ^ q ≤ N) :
    Calls Try.prog 6 #[.pointer (some ⟨a, 0, none⟩), .int .u64 (N : Int), .int .i64 k] w fun e w' => e = .returned (.int .i64 1) ∧ Pen w0.heap.size w' a r v L ∧ Below w0.heap.size w0 w' :=
  (put_bad a r v L N k w hP.wr hbad).mono fun e w' ⟨he, o, ho⟩ => by
    subst ho
    exact ⟨he, hP.kept (below_alloc w o), bstep hb (below_alloc w o)⟩
theorem new_a (w0 w : World) (hb : Below w0.heap.size w0 w) :
    Calls Try.prog 5 #[] w fun e w' => ∃ a r, e = .returned (.pointer (some ⟨a, 0, none⟩)) ∧ Pen w0.heap.size w' a r (.slice none 0 0) [] ∧ Below w0.heap.size w0 w' :=
  (new w).mono fun e w' ⟨he, _, hW, hb'⟩ => ⟨_, _, he, ⟨hW, hb.size, fun g hg => by simp [Value.ownBlock] at hg⟩, bstep hb hb'⟩
theorem bits53 : bitsOf 5 3 = [true, false, true] := by decide
theorem bits12 : bitsOf 1 2 = [false, true] := by decide
theorem pack_a8 : pack [true, false, true, false, true] = [168] := by decide
theorem part_a8 : val (part [168] 0 3) = 5 := by decide
theorem put53 (w0 : World) (a r : Nat) (w : World) (hb : Below w0.heap.size w0 w) (hP : Pen w0.heap.size w a r (.slice none 0 0) []) :
    Calls Try.prog 6 #[.pointer (some ⟨a, 0, none⟩), .int .u64 5, .int .i64 3] w fun e w' => e = .returned (.int .i64 0) ∧ ∃ v', Pen w0.heap.size w' a r v' [true, false, true] ∧ Below w0.heap.size w0 w' :=
  (put_a w0 a r _ [] 5 3 w hb hP (by decide) (by decide) (by decide)).mono fun e w' h => by rw [bits53] at h; exact h
theorem put12 (w0 : World) (a r : Nat) (v : Value) (w : World) (hb : Below w0.heap.size w0 w) (hP : Pen w0.heap.size w a r v [true, false, true]) :
    Calls Try.prog 6 #[.pointer (some ⟨a, 0, none⟩), .int .u64 1, .int .i64 2] w fun e w' => e = .returned (.int .i64 0) ∧ ∃ v', Pen w0.heap.size w' a r v' [true, false, true, false, true] ∧ Below w0.heap.size w0 w' :=
  (put_a w0 a r v [true, false, true] 1 2 w hb hP (by decide) (by decide) (by decide)).mono fun e w' h => by rw [bits12] at h; exact h
theorem put83 (w0 : World) (a r : Nat) (v : Value) (L : List Bool) (w : World) (hb : Below w0.heap.size w0 w) (hP : Pen w0.heap.size w a r v L) :
    Calls Try.prog 6 #[.pointer (some ⟨a, 0, none⟩), .int .u64 8, .int .i64 3] w fun e w' => e = .returned (.int .i64 1) ∧ Pen w0.heap.size w' a r v L ∧ Below w0.heap.size w0 w' :=
  bad_a w0 a r v L 8 3 w hb hP (.inr ⟨3, rfl, by decide, by decide⟩)
theorem bytes_a8 : ∀ i, i < [(168 : Int)].length → 0 ≤ [(168 : Int)].getD i 0 ∧ [(168 : Int)].getD i 0 < 256 := by
  intro i hi
  obtain rfl : i = 0 := by simpa using hi
  decide
theorem elems_a8 (w : World) : Elems (w.alloc (.cells #[.int .u8 168] 5)) (some ⟨w.heap.size, 0, none⟩) 1 [168] :=
  ⟨rfl, by decide, fun i hi => by obtain rfl : i = 0 := by omega
                                  decide, .inr ⟨_, 0, rfl, fun i hi => by obtain rfl : i = 0 := by omega
                                                                          simp⟩⟩
theorem get03 (w0 : World) (w : World) (hb : Below w0.heap.size w0 w) :
    Calls Try.prog 17 #[.slice (some ⟨w.heap.size, 0, none⟩) 1 1, .int .i64 0, .int .i64 3] (w.alloc (.cells #[.int .u8 168] 5)) fun e w' => e = .returned (.tuple #[.int .u64 5, .int .i64 0]) ∧ Below w.heap.size w w' ∧ Below w0.heap.size w0 w' :=
  (get_ok _ 1 1 [168] 0 3 _ (elems_a8 w) (by decide) (by decide)).mono fun e w' h => by
    rw [part_a8] at h
    have := bstep (below_alloc w _) h.2
    exact ⟨h.1, this, bstep hb this⟩
theorem get63 (w0 : World) (w : World) (hb : Below w0.heap.size w0 w) :
    Calls Try.prog 17 #[.slice (some ⟨w.heap.size, 0, none⟩) 1 1, .int .i64 6, .int .i64 3] (w.alloc (.cells #[.int .u8 168] 5)) fun e w' => e = .returned (.tuple #[.int .u64 0, .int .i64 4]) ∧ Below w.heap.size w w' ∧ Below w0.heap.size w0 w' :=
  (get_short _ 1 1 6 3 _ (by decide) (by decide) (by decide) (by decide)).mono fun e w' h => by
    have := below_alloc w (.cells #[.int .u8 168] 5)
    rw [← h.2] at this
    exact ⟨h.1, this, bstep hb this⟩
theorem bytes5 (w0 : World) (a r : Nat) (v : Value) (w : World) (hb : Below w0.heap.size w0 w) (hP : Pen w0.heap.size w a r v [true, false, true, false, true]) :
    Calls Try.prog 10 #[.pointer (some ⟨a, 0, none⟩)] w fun e w' => ∃ g, e = .returned (.slice (some ⟨g, 0, none⟩) 1 1) ∧ Blk w' g [168] ∧ Below w0.heap.size w0 w' :=
  (bytes a r v _ w hP.wr (by decide)).mono fun e w' h => by
    rw [pack_a8] at h
    exact ⟨_, h.1, h.2.1, bstep hb h.2.2⟩
theorem same5 (w0 : World) (g : Nat) (w : World) (hb : Below w0.heap.size w0 w) (hB : Blk w g [168]) :
    Calls Try.prog 12 #[.slice (some ⟨g, 0, none⟩) 1 1, .slice (some ⟨w.heap.size, 0, none⟩) 1 1] (w.alloc (.cells #[.int .u8 168] 5)) fun e w' => e = .returned (.bool true) ∧ Below w0.heap.size w0 w' :=
  (same_b _ _ 1 1 1 [168] _ ((hB.elems bytes_a8 (by decide)).below (below_alloc w _)) (elems_a8 w)).mono fun e w' h => ⟨h.1, bstep (bstep hb (below_alloc w _)) h.2⟩
theorem alive (w : World) : Calls Try.prog 8 #[] w fun e w' => e = .returned (.bool true) ∧ Below w.heap.size w w' := by
  have hb0 := Below.refl w.heap.size w
  have p1 : Hid True := trivial
  have p2 : Hid True := trivial
  have p3 : Hid True := trivial
  have q1 : Hid True := trivial
  have q2 : Hid True := trivial
  go_enter Try.func8, Try.ntmps8
  go_wp2_with (first
    | (go_at_call 5; refine (new_a w _ hb0).mono ?_; rintro e w1 ⟨a, r, rfl, hP1, hb1⟩)
    | (go_at_call 6; first
      | (clear p1; refine (put53 w _ _ _ hb1 hP1).mono ?_; rintro e w2 ⟨rfl, v2, hP2, hb2⟩)
      | (clear p2; refine (put12 w _ _ _ _ hb2 hP2).mono ?_; rintro e w3 ⟨rfl, v3, hP3, hb3⟩)
      | (clear p3; refine (put83 w _ _ _ _ _ hb3 hP3).mono ?_; rintro e w4 ⟨rfl, hP4, hb4⟩))
    | (go_at_call 17; first
      | (clear q1; refine (get03 w _ hb4).mono ?_; rintro e w5 ⟨rfl, hk5, hb5⟩; have hP5 := hP4.kept hk5)
      | (clear q2; refine (get63 w _ hb5).mono ?_; rintro e w6 ⟨rfl, hk6, hb6⟩; have hP6 := hP5.kept hk6))
    | (go_at_call 9; refine (len _ _ _ _ _ hP6.wr).mono ?_; rintro e w7 ⟨rfl, h7⟩; rw [h7]; clear h7 w7)
    | (go_at_call 10; refine (bytes5 w _ _ _ _ hb6 hP6).mono ?_; rintro e w8 ⟨g, rfl, hB8, hb8⟩)
    | (go_at_call 12; refine (same5 w _ _ hb8 hB8).mono ?_; rintro e w9 ⟨rfl, hb9⟩))
  go_ret
  exact ⟨rfl, hb9⟩
end Go.Proofs.Ytcaappheoekijab.Bits
