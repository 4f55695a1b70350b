/-
  Two writers side by side: what is put in one leaves the other as it was.
-/
import Derived.Test.YtcaappheoekijaaAcc
namespace Go.Proofs.Ytcaappheoekijaa.Bits
open Go.ChangeShapes Go.WideShapes Go.ChangeAt Go.RowKit
structure Two (B : Nat) (w : World) (a r : Nat) (v : Value) (L : List Bool) (a2 r2 : Nat) (v2 : Value) (L2 : List Bool) : Prop where
  one : Pen B w a r v L
  two : Pen B w a2 r2 v2 L2
  ne : r ≠ r2
  sep : ∀ g, v.ownBlock = some g → v2.ownBlock ≠ some g
theorem Two.symm {B : Nat} {w : World} {a r : Nat} {v : Value} {L : List Bool} {a2 r2 : Nat} {v2 : Value} {L2 : List Bool} (h : Two B w a r v L a2 r2 v2 L2) : Two B w a2 r2 v2 L2 a r v L :=
  ⟨h.two, h.one, fun e => h.ne e.symm, fun g e e' => h.sep g e' e⟩
theorem Two.kept {B : Nat} {w w' : World} {a r : Nat} {v : Value} {L : List Bool} {a2 r2 : Nat} {v2 : Value} {L2 : List Bool} (h : Two B w a r v L a2 r2 v2 L2) (hb : Below w.heap.size w w') : Two B w' a r v L a2 r2 v2 L2 :=
  ⟨h.one.kept hb, h.two.kept hb, h.ne, h.sep⟩
/-- A block of another make than bytes is not the bytes of a row. -/
theorem Row.own_other {w : World} {r : Nat} {v : Value} {L : List Bool} (h : Row w r v L) {k : Nat} {c : Array Value} {t : TypeId} {f : Nat × Nat} (hk : w.heap[k]? = some (.cells c t f)) (ht : t ≠ 5) : some k ≠ v.ownBlock := by
  intro e
  rcases h.own.2 with ⟨rfl, _⟩ | ⟨g, cap, cur, rfl, _, hgb, _⟩
  · simp [Value.ownBlock] at e
  · simp only [Value.ownBlock, Option.some.injEq] at e
    subst e
    rw [hk] at hgb
    simp at hgb
    exact ht hgb.2.1
theorem Two.step {B : Nat} {w w' : World} {a r : Nat} {v v' : Value} {L L' : List Bool} {a2 r2 : Nat} {v2 : Value} {L2 : List Bool} (h : Two B w a r v L a2 r2 v2 L2) (hB : B ≤ w.heap.size) (hP : Put r v v' w w') (hW : Wr w' a r v' L') : Two B w' a r v' L' a2 r2 v2 L2 := by
  have w1 := h.one.wr
  have w2 := h.two.wr
  have la : a2 < w.heap.size := (Array.getElem?_eq_some_iff.1 w2.ptr).1
  have lr : r2 < w.heap.size := (Array.getElem?_eq_some_iff.1 w2.row.row).1
  have ea : w'.heap[a2]? = w.heap[a2]? := hP.block a2 la (fun e => by subst e; have := w2.ptr.symm.trans w1.row.row; simp at this) (w1.row.own_other w2.ptr (by decide))
  have er : w'.heap[r2]? = w.heap[r2]? := hP.block r2 lr (fun e => h.ne e.symm) (w1.row.own_other w2.row.row (by decide))
  refine ⟨⟨hW, h.one.lo, fun g hg => ?_⟩, ⟨⟨ea.trans w2.ptr, er.trans w2.row.row, ?_⟩, h.two.lo, h.two.own⟩, h.ne, fun g hg hg2 => ?_⟩
  · rcases hP.where_ with e | ⟨g', e, hg'⟩
    · exact h.one.own g (e ▸ hg)
    · rw [hg] at e; cases e; omega
  · refine ⟨w2.row.own.1, ?_⟩
    rcases w2.row.own.2 with h2 | ⟨g, cap, cur, rfl, hb, hgb, rest⟩
    · exact .inl h2
    · refine .inr ⟨g, cap, cur, rfl, hb, ?_, rest⟩
      rw [hP.block g (Array.getElem?_eq_some_iff.1 hgb).1 (fun e => by subst e; have := w1.row.row.symm.trans hgb; simp at this) (fun e => h.sep g e.symm rfl)]
      exact hgb
  · rcases hP.where_ with e | ⟨g', e, hg'⟩
    · exact h.sep g (e ▸ hg) hg2
    · have := w2.row.own_lt hg2
      rw [hg] at e; cases e; omega
theorem put_1 (w0 : World) (a r : Nat) (v : Value) (L : List Bool) (a2 r2 : Nat) (v2 : Value) (L2 : List Bool) (N k : Nat) (w : World) (hb : Below w0.heap.size w0 w) (h : Two w0.heap.size w a r v L a2 r2 v2 L2) (hk : k ≤ 64) (hN : N < 2 ^ k) (hL : L.length + k < 1099511627776) :
    Calls Try.prog 15 #[.pointer (some ⟨a, 0, none⟩), .int .u64 (N : Int), .int .i64 (k : Int)] w fun e w' => e = .returned (.int .i64 0) ∧ ∃ v', Two w0.heap.size w' a r v' (L ++ bitsOf N k) a2 r2 v2 L2 ∧ Below w0.heap.size w0 w' :=
  (put_ok a r v L N k w h.one.wr hk hN hL).mono fun _ _ ⟨he, v', hW, hp⟩ => ⟨he, v', h.step hb.size hp hW, hb.trans (hp.below hb.size h.one.lo h.one.own)⟩
theorem put_2 (w0 : World) (a r : Nat) (v : Value) (L : List Bool) (a2 r2 : Nat) (v2 : Value) (L2 : List Bool) (N k : Nat) (w : World) (hb : Below w0.heap.size w0 w) (h : Two w0.heap.size w a r v L a2 r2 v2 L2) (hk : k ≤ 64) (hN : N < 2 ^ k) (hL : L2.length + k < 1099511627776) :
    Calls Try.prog 15 #[.pointer (some ⟨a2, 0, none⟩), .int .u64 (N : Int), .int .i64 (k : Int)] w fun e w' => e = .returned (.int .i64 0) ∧ ∃ v', Two w0.heap.size w' a r v L a2 r2 v' (L2 ++ bitsOf N k) ∧ Below w0.heap.size w0 w' :=
  (put_1 w0 a2 r2 v2 L2 a r v L N k w hb h.symm hk hN hL).mono fun _ _ ⟨he, v', h', hb'⟩ => ⟨he, v', h'.symm, hb'⟩
theorem new_2 (w0 : World) (a r : Nat) (v : Value) (L : List Bool) (w : World) (hb : Below w0.heap.size w0 w) (hP : Pen w0.heap.size w a r v L) :
    Calls Try.prog 14 #[] w fun e w' => ∃ a2 r2, e = .returned (.pointer (some ⟨a2, 0, none⟩)) ∧ Two w0.heap.size w' a r v L a2 r2 (.slice none 0 0) [] ∧ Below w0.heap.size w0 w' :=
  (new w).mono fun _ _ ⟨he, _, hW, hb'⟩ => ⟨_, _, he, ⟨hP.kept hb', ⟨hW, hb.size, fun g hg => by simp [Value.ownBlock] at hg⟩, fun e => by have := (Array.getElem?_eq_some_iff.1 hP.wr.row.row).1; omega, fun g _ hg => by simp [Value.ownBlock] at hg⟩, bstep hb hb'⟩
theorem bytes_k (w0 : World) (a r : Nat) (v : Value) (L : List Bool) (w : World) (hb : Below w0.heap.size w0 w) (hP : Pen w0.heap.size w a r v L) (hL : L.length ≤ 8388608) :
    Calls Try.prog 17 #[.pointer (some ⟨a, 0, none⟩)] w fun e w' => ∃ g, e = .returned (.slice (some ⟨g, 0, none⟩) (pack L).length (pack L).length) ∧ Elems w' (some ⟨g, 0, none⟩) (pack L).length (pack L) ∧ Below w.heap.size w w' ∧ Below w0.heap.size w0 w' :=
  (bytes a r v L w hP.wr (by omega)).mono fun e w' h => ⟨_, h.1, h.2.1.elems (pack_bytes L) (by rw [pack_length]; omega), h.2.2, bstep hb h.2.2⟩
end Go.Proofs.Ytcaappheoekijaa.Bits
