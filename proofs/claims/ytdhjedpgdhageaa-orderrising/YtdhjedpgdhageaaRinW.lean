/-
  Two lists of rows, and a row, that grow side by side.
-/
import Derived.Test.YtdhjedpgdhageaaLasW
import Derived.Test.YtdhjedpgdhageaaRinM
namespace Go.Proofs.Ytdhjedpgdhageaa.Ord
open Go.ChangeShapes Go.WideShapes Go.ChangeAt Go.RowKit Go.Joins
/-- An outer row of one's own, and what its rows are. -/
structure OG (W wr : World) (v : Value) (ys : List Value) (l : List (List Int)) (wv : Value) : Prop where
  own : wr.ownsRow W.heap.size 25 1 v l.length ys
  rows : ∀ i, i < l.length → ∃ y, ys[i]? = some y ∧ Row wr W.heap.size y (l.getD i []) ∧ ∀ g, y.ownBlock = some g → wv.ownBlock ≠ some g
theorem kinds_ne {wr : World} {lo lo2 n m : Nat} {v y : Value} {ys xs : List Value} {g : Nat} (h1 : wr.ownsRow lo 25 1 v n ys) (h2 : wr.ownsRow lo2 3 1 y m xs) (hv : v.ownBlock = some g) : y.ownBlock ≠ some g := fun e => by
  obtain ⟨_, ⟨e1, _⟩ | ⟨g1, c1, cur1, e1, _, r1, _⟩⟩ := h1
  · rw [e1] at hv; cases hv
  · obtain ⟨_, ⟨e2, _⟩ | ⟨g2, c2, cur2, e2, _, r2, _⟩⟩ := h2
    · rw [e2] at e; cases e
    · rw [e1] at hv
      rw [e2] at e
      have a1 : g1 = g := by simpa [Value.ownBlock] using hv
      have a2 : g2 = g := by simpa [Value.ownBlock] using e
      rw [a1] at r1
      rw [a2, r1] at r2
      simp at r2
theorem OG.keep {W wr w2 : World} {v wv : Value} {ys : List Value} {l : List (List Int)} {r : Option Nat} (h : OG W wr v ys l wv) (hg : wr.grownBy w2 r) (h1 : ∀ g, v.ownBlock = some g → r ≠ some g) (h2 : ∀ (i : Nat) (y : Value), i < l.length → ys[i]? = some y → Row wr W.heap.size y (l.getD i []) → (∀ g, y.ownBlock = some g → wv.ownBlock ≠ some g) → ∀ g, y.ownBlock = some g → r ≠ some g) : OG W w2 v ys l wv :=
  ⟨own_carry h.own (fun i e => hg.block i (own_lo h.own i e).2 (fun e2 => h1 i e e2.symm)), fun i hi => by obtain ⟨y, e1, e2, e3⟩ := h.rows i hi; exact ⟨y, e1, e2.grown hg (fun b hb => h2 i y hi e1 e2 e3 b hb), e3⟩⟩
theorem OG.grow {W wr w2 : World} {v wv y : Value} {ys : List Value} {l : List (List Int)} {r : List Int} {g cap : Nat} {o : Obj} (h : OG W wr v ys l wv) (hy : Row wr W.heap.size y r) (hyw : ∀ g, y.ownBlock = some g → wv.ownBlock ≠ some g) (hg : (wr.alloc o).grownBy w2 v.ownBlock) (hown : w2.ownsRow W.heap.size 25 1 (.slice (some ⟨g, 0, none⟩) (l.length + 1) cap) (l.length + 1) (ys ++ [y])) : OG W w2 (.slice (some ⟨g, 0, none⟩) (l.length + 1) cap) (ys ++ [y]) (l ++ [r]) wv := by
  have hall : wr.grownBy w2 v.ownBlock := (World.grownBy_alloc wr o _).trans hg
  have hys : ys.length = l.length := by have := h.own.1; omega
  have hlen : (l ++ [r]).length = l.length + 1 := by simp
  refine ⟨by rw [hlen]; exact hown, fun i hi => ?_⟩
  by_cases e : i < l.length
  · obtain ⟨u, e1, e2, e3⟩ := h.rows i e
    refine ⟨u, by rw [List.getElem?_append_left (by omega)]; exact e1, ?_, e3⟩
    have e4 : (l ++ [r]).getD i [] = l.getD i [] := by simp [List.getElem?_append_left e]
    rw [e4]
    exact e2.grown hall (fun b hb e5 => kinds_ne h.own e2 e5 hb)
  · obtain rfl : i = l.length := by omega
    refine ⟨y, by rw [← hys]; simp, ?_, hyw⟩
    have e4 : (l ++ [r]).getD l.length [] = r := by simp
    rw [e4]
    exact hy.grown hall (fun b hb e5 => kinds_ne h.own hy e5 hb)
theorem OG.ll {W wr : World} {v wv : Value} {ys : List Value} {l : List (List Int)} (h : OG W wr v ys l wv) (hl : l.length ≤ 1048576) (hr : ∀ i, i < l.length → (l.getD i []).length ≤ 1048576) : LL wr wr.heap.size v l :=
  LL.own h.own (by omega) (fun i hi => by obtain ⟨y, e1, e2, _⟩ := h.rows i hi; exact ⟨y, e1, e2.rd (by have := hr i hi; omega)⟩)
/-- Both, and the row. -/
structure RI (W wr : World) (rv ov wv : Value) (rs os : List Value) (R O : List (List Int)) (A : List Int) : Prop where
  r : OG W wr rv rs R wv
  o : OG W wr ov os O wv
  w : Row wr W.heap.size wv A
  ne : ∀ g, rv.ownBlock = some g → ov.ownBlock ≠ some g
  below : Below W.heap.size W wr
theorem RI.start (W : World) : RI W W (.slice none 0 0) (.slice none 0 0) (.slice none 0 0) [] [] [] [] [] :=
  ⟨⟨⟨rfl, .inl ⟨rfl, rfl⟩⟩, fun i hi => by simp at hi⟩, ⟨⟨rfl, .inl ⟨rfl, rfl⟩⟩, fun i hi => by simp at hi⟩, Row.none0 _ _, fun g e => (by cases e), Below.refl _ _⟩
theorem RI.below_ {W wr w2 : World} {rv ov wv : Value} {rs os : List Value} {R O : List (List Int)} {A : List Int} (h : RI W wr rv ov wv rs os R O A) (hb : Below wr.heap.size wr w2) : RI W w2 rv ov wv rs os R O A := by
  have hg : wr.grownBy w2 none := ⟨hb.os, hb.tape, hb.output, hb.size, fun k hk _ => hb.block k hk⟩
  exact ⟨h.r.keep hg (by simp) (fun _ _ _ _ _ _ _ _ => by simp), h.o.keep hg (by simp) (fun _ _ _ _ _ _ _ _ => by simp), h.w.below hb, h.ne, h.below.trans (hb.mono h.below.size)⟩
theorem RI.ring {W wr w2 : World} {rv ov wv y : Value} {rs os : List Value} {R O : List (List Int)} {A r : List Int} {g cap : Nat} {o : Obj} (h : RI W wr rv ov wv rs os R O A) (hy : Row wr W.heap.size y r) (hyw : ∀ g, y.ownBlock = some g → wv.ownBlock ≠ some g) (hg : (wr.alloc o).grownBy w2 rv.ownBlock) (hown : w2.ownsRow W.heap.size 25 1 (.slice (some ⟨g, 0, none⟩) (R.length + 1) cap) (R.length + 1) (rs ++ [y])) (hat : rv.ownBlock = some g ∨ g = wr.heap.size + 1) :
    RI W w2 (.slice (some ⟨g, 0, none⟩) (R.length + 1) cap) ov wv (rs ++ [y]) os (R ++ [r]) O A ∧ Row w2 W.heap.size y r := by
  have hall : wr.grownBy w2 rv.ownBlock := (World.grownBy_alloc wr o _).trans hg
  refine ⟨⟨h.r.grow hy hyw hg hown, h.o.keep hall (fun b hb e => h.ne b e hb) (fun i u _ _ hu _ b hb e => kinds_ne h.r.own hu e hb), h.w.grown hall (fun b hb e => kinds_ne h.r.own h.w e hb), fun b hb e => ?_, h.below.grown hall h.below.size (fun b e => (own_lo h.r.own b e).1)⟩, hy.grown hall (fun b hb e => kinds_ne h.r.own hy e hb)⟩
  have e1 : g = b := by simpa [Value.ownBlock] using hb
  subst e1
  rcases hat with e2 | e2
  · exact h.ne g e2 e
  · have := (own_lo h.o.own g e).2; omega
theorem RI.row {W wr w2 : World} {rv ov wv y : Value} {rs os : List Value} {R O : List (List Int)} {A r : List Int} {g cap : Nat} {o : Obj} (h : RI W wr rv ov wv rs os R O A) (hy : Row wr W.heap.size y r) (hyw : ∀ g, y.ownBlock = some g → wv.ownBlock ≠ some g) (hg : (wr.alloc o).grownBy w2 ov.ownBlock) (hown : w2.ownsRow W.heap.size 25 1 (.slice (some ⟨g, 0, none⟩) (O.length + 1) cap) (O.length + 1) (os ++ [y])) (hat : ov.ownBlock = some g ∨ g = wr.heap.size + 1) :
    RI W w2 rv (.slice (some ⟨g, 0, none⟩) (O.length + 1) cap) wv rs (os ++ [y]) R (O ++ [r]) A := by
  have hall : wr.grownBy w2 ov.ownBlock := (World.grownBy_alloc wr o _).trans hg
  refine ⟨h.r.keep hall (fun b hb e => h.ne b hb e) (fun i u _ _ hu _ b hb e => kinds_ne h.o.own hu e hb), h.o.grow hy hyw hg hown, h.w.grown hall (fun b hb e => kinds_ne h.o.own h.w e hb), fun b hb e => ?_, h.below.grown hall h.below.size (fun b e => (own_lo h.o.own b e).1)⟩
  have e1 : g = b := by simpa [Value.ownBlock] using e
  subst e1
  rcases hat with e2 | e2
  · exact h.ne g hb e2
  · have := (own_lo h.r.own g hb).2; omega
theorem RI.want {W wr w2 : World} {rv ov wv : Value} {rs os : List Value} {R O : List (List Int)} {A : List Int} {z : Int} {g cap : Nat} {o : Obj} (h : RI W wr rv ov wv rs os R O A) (hg : (wr.alloc o).grownBy w2 wv.ownBlock) (hown : w2.ownsRow W.heap.size 3 1 (.slice (some ⟨g, 0, none⟩) (A.length + 1) cap) (A.length + 1) (ints A ++ [.int .i64 z])) (hat : wv.ownBlock = some g ∨ g = wr.heap.size + 1) :
    RI W w2 rv ov (.slice (some ⟨g, 0, none⟩) (A.length + 1) cap) rs os R O (A ++ [z]) := by
  have hall : wr.grownBy w2 wv.ownBlock := (World.grownBy_alloc wr o _).trans hg
  have fixO : ∀ {v : Value} {ys : List Value} {l : List (List Int)}, OG W wr v ys l wv → OG W w2 v ys l (.slice (some ⟨g, 0, none⟩) (A.length + 1) cap) := fun {v ys l} hO => by
    have h1 := hO.keep hall (fun b hb e => kinds_ne hO.own h.w hb e) (fun i u _ _ _ hne b hb e => hne b hb e)
    refine ⟨h1.own, fun i hi => ?_⟩
    obtain ⟨u, e1, e2, e3⟩ := hO.rows i hi
    obtain ⟨u', f1, f2, _⟩ := h1.rows i hi
    rw [e1] at f1
    injection f1 with f1
    subst f1
    refine ⟨u, e1, f2, fun b hb e => ?_⟩
    have e4 : g = b := by simpa [Value.ownBlock] using e
    subst e4
    rcases hat with e5 | e5
    · exact e3 g hb e5
    · have := (e2.lo g hb).2; omega
  refine ⟨fixO h.r, fixO h.o, ?_, h.ne, h.below.grown hall h.below.size (fun b e => (h.w.lo b e).1)⟩
  unfold Row
  rw [List.length_append, ints_snoc]
  exact hown
end Go.Proofs.Ytdhjedpgdhageaa.Ord
