/-
  The contracts as told from a law's first world on.
-/
import Derived.Test.YtmbkdalmnfcbfabDoorKit
namespace Go.Proofs.YtmbkdalmnfcbfabDoor.Bits
open Go.ChangeShapes Go.WideShapes Go.ChangeAt Go.RowKit Go.Shelf
/-- A writer all of whose memory lies at or beyond block B. -/
structure Pen (B : Nat) (w : World) (a r : Nat) (v : Value) (L : List Bool) : Prop where
  wr : Wr w a r v L
  lo : B ≤ r
  own : ∀ g, v.ownBlock = some g → B ≤ g
theorem Wr.kept {w w' : World} {a r : Nat} {v : Value} {L : List Bool} (h : Wr w a r v L) (hb : Below w.heap.size w w') : Wr w' a r v L := by
  refine ⟨(hb.block a (Array.getElem?_eq_some_iff.1 h.ptr).1).trans h.ptr, (hb.block r (Array.getElem?_eq_some_iff.1 h.row.row).1).trans h.row.row, h.row.own.kept (row := none) ⟨hb.os, hb.tape, hb.output, hb.size, fun k hk _ => hb.block k hk⟩ ?_⟩
  cases v.ownBlock <;> simp
theorem Pen.kept {B : Nat} {w w' : World} {a r : Nat} {v : Value} {L : List Bool} (h : Pen B w a r v L) (hb : Below w.heap.size w w') : Pen B w' a r v L := ⟨h.wr.kept hb, h.lo, h.own⟩
theorem Put.below {B r : Nat} {v v' : Value} {w w' : World} (h : Put r v v' w w') (hB : B ≤ w.heap.size) (hr : B ≤ r) (hv : ∀ g, v.ownBlock = some g → B ≤ g) : Below B w w' :=
  ⟨h.os, h.tape, h.output, h.size, fun k hk => h.block k (by omega) (by omega) (fun e => by have := hv k e.symm; omega)⟩
theorem put_a (w0 : World) (a r : Nat) (v : Value) (L : List Bool) (N k : Nat) (w : World) (hb : Below w0.heap.size w0 w) (hP : Pen w0.heap.size w a r v L) (hk : k ≤ 64) (hN : N < 2 ^ k) (hL : L.length + k < 1099511627776) :
    Calls Tryd.prog 23 #[.pointer (some ⟨a, 0, none⟩), .int .u64 (N : Int), .int .i64 (k : Int)] w fun e w' => e = .returned (.int .i64 0) ∧ ∃ v', Pen w0.heap.size w' a r v' (L ++ bitsOf N k) ∧ Below w0.heap.size w0 w' :=
  (put_ok a r v L N k w hP.wr hk hN hL).mono fun e w' ⟨he, v', hW, hp⟩ => ⟨he, v', ⟨hW, hP.lo, fun g hg => by
    rcases hp.where_ with e | ⟨g', e, hg'⟩
    · exact hP.own g (e ▸ hg)
    · rw [hg] at e; cases e; exact Nat.le_trans hb.size hg'⟩, hb.trans (hp.below hb.size hP.lo hP.own)⟩
theorem below_alloc (w : World) (o : Obj) : Below w.heap.size w (w.alloc o) := (Below.refl _ w).alloc (Nat.le_refl _) o
theorem bad_a (w0 : World) (a r : Nat) (v : Value) (L : List Bool) (N : Nat) (k : Int) (w : World) (hb : Below w0.heap.size w0 w) (hP : Pen w0.heap.size w a r v L) (hbad : ¬ (0 ≤ k ∧ k ≤ 64) ∨ ∃ q : Nat, k = q ∧ q ≤ 64 ∧ 2 ^ q ≤ N) :
    Calls Tryd.prog 23 #[.pointer (some ⟨a, 0, none⟩), .int .u64 (N : Int), .int .i64 k] w fun e w' => e = .returned (.int .i64 1) ∧ Pen w0.heap.size w' a r v L ∧ Below w0.heap.size w0 w' :=
  (put_bad a r v L N k w hP.wr hbad).mono fun e w' ⟨he, o, ho⟩ => by
    subst ho
    exact ⟨he, hP.kept (below_alloc w o), bstep hb (below_alloc w o)⟩
theorem new_a (w0 w : World) (hb : Below w0.heap.size w0 w) :
    Calls Tryd.prog 22 #[] w fun e w' => ∃ a r, e = .returned (.pointer (some ⟨a, 0, none⟩)) ∧ Pen w0.heap.size w' a r (.slice none 0 0) [] ∧ Below w0.heap.size w0 w' :=
  (new w).mono fun e w' ⟨he, _, hW, hb'⟩ => ⟨_, _, he, ⟨hW, hb.size, fun g hg => by simp [Value.ownBlock] at hg⟩, bstep hb hb'⟩
end Go.Proofs.YtmbkdalmnfcbfabDoor.Bits
