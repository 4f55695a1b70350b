/-
  Lists of bytes that are read, and two rows that grow side by side.
-/
import Derived.Test.YtdhjedpgdhageaaRisM
import Derived.Test.YtdhjedpgdhageaaRinW
namespace Go.Proofs.Ytdhjedpgdhageaa.Ord
open Go.ChangeShapes Go.WideShapes Go.ChangeAt Go.RowKit Go.Joins
def RU (W : World) (lo : Nat) (v : Value) (r : List Nat) : Prop := ∃ ao c, v = .slice ao r.length c ∧ (r.length ≤ c ∧ c ≤ 9223372036854775807 ∧ r.length ≤ 281474976710656) ∧ (r = [] ∨ ∃ b o, ao = some ⟨b, o, none⟩ ∧ b < lo ∧ ∀ i, i < r.length → W.cell? ⟨b, o + i, none⟩ = some (.int .u8 ((r.getD i 0 : Nat) : Int)) ∧ r.getD i 0 < 256)
theorem RU.keep {W W' : World} {lo : Nat} {v : Value} {r : List Nat} (h : RU W lo v r) (hb : Below lo W W') : RU W' lo v r := by
  obtain ⟨ao, c, h1, h3, h4⟩ := h
  refine ⟨ao, c, h1, h3, h4.imp id ?_⟩
  rintro ⟨b, o, e, hlt, hc⟩
  exact ⟨b, o, e, hlt, fun i hi => ⟨(hb.cell (p := ⟨b, o + i, none⟩) hlt).trans (hc i hi).1, (hc i hi).2⟩⟩
theorem RU.up {W : World} {lo lo' : Nat} {v : Value} {r : List Nat} (h : RU W lo v r) (hl : lo ≤ lo') : RU W lo' v r := by
  obtain ⟨ao, c, h1, h3, h4⟩ := h
  refine ⟨ao, c, h1, h3, h4.imp id ?_⟩
  rintro ⟨b, o, e, hlt, hc⟩
  exact ⟨b, o, e, by omega, hc⟩
def LU (W : World) (lo : Nat) (v : Value) (l : List (List Nat)) : Prop := ∃ ao c, v = .slice ao l.length c ∧ (l.length ≤ c ∧ c ≤ 9223372036854775807 ∧ l.length ≤ 17592186044416) ∧ ∃ sl : Nat → Value, (l.length = 0 ∨ ∃ b o, ao = some ⟨b, o, none⟩ ∧ b < lo ∧ ∀ i, i < l.length → W.cell? ⟨b, o + i, none⟩ = some (sl i)) ∧ ∀ i, i < l.length → RU W lo (sl i) (l.getD i [])
theorem LU.keep {W W' : World} {lo : Nat} {v : Value} {l : List (List Nat)} (h : LU W lo v l) (hb : Below lo W W') : LU W' lo v l := by
  obtain ⟨ao, c, h1, h3, sl, h4, h5⟩ := h
  refine ⟨ao, c, h1, h3, sl, h4.imp id ?_, fun i hi => (h5 i hi).keep hb⟩
  rintro ⟨b, o, e, hlt, hc⟩
  exact ⟨b, o, e, hlt, fun i hi => (hb.cell (p := ⟨b, o + i, none⟩) hlt).trans (hc i hi)⟩
theorem LU.up {W : World} {lo lo' : Nat} {v : Value} {l : List (List Nat)} (h : LU W lo v l) (hl : lo ≤ lo') : LU W lo' v l := by
  obtain ⟨ao, c, h1, h3, sl, h4, h5⟩ := h
  refine ⟨ao, c, h1, h3, sl, h4.imp id ?_, fun i hi => (h5 i hi).up hl⟩
  rintro ⟨b, o, e, hlt, hc⟩
  exact ⟨b, o, e, by omega, hc⟩
theorem LU.row {W : World} {lo : Nat} {ao : Option Addr} {c : Nat} {l : List (List Nat)} (h : LU W lo (.slice ao l.length c) l) {i : Nat} (hi : i < l.length) : ∃ b o ao2 c2, ao = some ⟨b, o, none⟩ ∧ b < lo ∧ W.cell? ⟨b, o + i, none⟩ = some (.slice ao2 (l.getD i []).length c2) ∧ RU W lo (.slice ao2 (l.getD i []).length c2) (l.getD i []) := by
  obtain ⟨ao', c', e, _, sl, hcs, hrd⟩ := h
  injection e with e1 _ e3
  subst e1 e3
  obtain ⟨b, o, e, hlt, hc⟩ := hcs.resolve_left (by omega)
  have h1 := hrd i hi
  obtain ⟨ao2, c2, e2, _⟩ := hrd i hi
  rw [e2] at h1
  exact ⟨b, o, ao2, c2, e, hlt, by rw [hc i hi, e2], h1⟩
theorem RU.cellAt {W : World} {lo : Nat} {ao : Option Addr} {c : Nat} {r : List Nat} (h : RU W lo (.slice ao r.length c) r) {i : Nat} (hi : i < r.length) : ∃ b o, ao = some ⟨b, o, none⟩ ∧ b < lo ∧ W.cell? ⟨b, o + i, none⟩ = some (.int .u8 ((r.getD i 0 : Nat) : Int)) ∧ r.getD i 0 < 256 := by
  obtain ⟨ao', c', e, _, hcs⟩ := h
  injection e with e1 _ _
  subst e1
  obtain ⟨b, o, e, hlt, hc⟩ := hcs.resolve_left (by intro e; rw [e] at hi; simp at hi)
  exact ⟨b, o, e, hlt, (hc i hi).1, (hc i hi).2⟩
/-- Two rows in new memory. -/
structure AB (W wr : World) (av bv : Value) (P Q : List Int) : Prop where
  a : Row wr W.heap.size av P
  b : Row wr W.heap.size bv Q
  ne : ∀ g, av.ownBlock = some g → bv.ownBlock ≠ some g
  below : Below W.heap.size W wr
theorem AB.start (W : World) : AB W W (.slice none 0 0) (.slice none 0 0) [] [] := ⟨Row.none0 _ _, Row.none0 _ _, fun g e => (by cases e), Below.refl _ _⟩
theorem AB.stepA {W wr w2 : World} {av bv : Value} {P Q : List Int} {z : Int} {g cap : Nat} {o : Obj} (h : AB W wr av bv P Q) (hg : (wr.alloc o).grownBy w2 av.ownBlock) (hown : w2.ownsRow W.heap.size 3 1 (.slice (some ⟨g, 0, none⟩) (P.length + 1) cap) (P.length + 1) (ints P ++ [.int .i64 z])) (hat : av.ownBlock = some g ∨ g = wr.heap.size + 1) :
    AB W w2 (.slice (some ⟨g, 0, none⟩) (P.length + 1) cap) bv (P ++ [z]) Q := by
  have hall : wr.grownBy w2 av.ownBlock := (World.grownBy_alloc wr o _).trans hg
  refine ⟨?_, h.b.grown hall (fun b hb e => h.ne b e hb), fun b hb e => ?_, h.below.grown hall h.below.size (fun b e => (h.a.lo b e).1)⟩
  · unfold Row
    rw [List.length_append, ints_snoc]
    exact hown
  · have e1 : g = b := by simpa [Value.ownBlock] using hb
    subst e1
    rcases hat with e2 | e2
    · exact h.ne g e2 e
    · have := (h.b.lo g e).2; omega
theorem AB.swap {W wr : World} {av bv : Value} {P Q : List Int} (h : AB W wr av bv P Q) : AB W wr bv av Q P := ⟨h.b, h.a, fun g e e2 => h.ne g e2 e, h.below⟩
theorem AB.stepB {W wr w2 : World} {av bv : Value} {P Q : List Int} {z : Int} {g cap : Nat} {o : Obj} (h : AB W wr av bv P Q) (hg : (wr.alloc o).grownBy w2 bv.ownBlock) (hown : w2.ownsRow W.heap.size 3 1 (.slice (some ⟨g, 0, none⟩) (Q.length + 1) cap) (Q.length + 1) (ints Q ++ [.int .i64 z])) (hat : bv.ownBlock = some g ∨ g = wr.heap.size + 1) :
    AB W w2 av (.slice (some ⟨g, 0, none⟩) (Q.length + 1) cap) P (Q ++ [z]) := (h.swap.stepA hg hown hat).swap
theorem Row.low {W : World} {lo lo' : Nat} {v : Value} {l : List Int} (h : Row W lo v l) (hl : lo' ≤ lo) : Row W lo' v l := ownsRow_mono h hl
theorem Row.far {W w1 w2 : World} {v wv : Value} {l A : List Int} (h : Row w2 w1.heap.size v l) (hw : Row w1 W.heap.size wv A) : ∀ g, v.ownBlock = some g → wv.ownBlock ≠ some g := fun g e e2 => by
  have h1 := (h.lo g e).1
  have h2 := (hw.lo g e2).2
  omega
theorem emodN {x i : Nat} : ((x : Int)) % (i : Int) = ((x % i : Nat) : Int) := rfl
theorem tmodN {x i : Nat} : ((x : Int)).tmod (i : Int) = ((x % i : Nat) : Int) := rfl
end Go.Proofs.Ytdhjedpgdhageaa.Ord
