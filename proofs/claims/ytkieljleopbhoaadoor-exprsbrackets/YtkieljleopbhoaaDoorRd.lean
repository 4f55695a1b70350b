/-
  What holds while Read goes through a text.
-/
import Derived.Test.YtkieljleopbhoaaDoorRead
import Derived.WalkSmall
import Derived.Maps.AppendAt
import Derived.Laws.OwnMore
namespace Go.Proofs.YtkieljleopbhoaaDoor.Lex
open Go.RowKit
/-- A token's cells. -/
def tokV (t : Tok) : List Value := [.int .u8 (t.kind : Int), .string ⟨t.text.toArray⟩, .int .i64 (t.at_ : Int)]
def toksV (ts : List Tok) : List Value := ts.flatMap tokV
theorem toksV_app (ts us : List Tok) : toksV (ts ++ us) = toksV ts ++ toksV us := by simp [toksV]
theorem toksV_len (ts : List Tok) : (toksV ts).length = ts.length * 3 := by
  induction ts with
  | nil => rfl
  | cons t ts ih => simp only [toksV, List.flatMap_cons, List.length_append, List.length_cons] at ih ⊢; rw [ih]; simp [tokV]; omega
theorem ownsRow_below {w w' : World} {base e size n : Nat} {v : Value} {xs : List Value} (h : w.ownsRow base e size v n xs) (hb : Below w.heap.size w w') : w'.ownsRow base e size v n xs := by
  refine ⟨h.1, ?_⟩
  rcases h.2 with hn | ⟨g, cap, cur, rfl, hg0, hg, rest⟩
  · exact .inl hn
  · exact .inr ⟨g, cap, cur, rfl, hg0, (hb.block g (Array.getElem?_eq_some_iff.1 hg).1).trans hg, rest⟩
/-- What holds while Read goes through a text. -/
structure Rd (w : World) (b : Nat) (s : ByteArray) (pos : Nat) (v : Value) (ts : List Tok) (W : World) : Prop where
  below : Below w.heap.size w W
  tab : TabS W
  base : w.heap.size ≤ b
  lens : W.heap[b]? = some (.cells lenF 64 (0, 0))
  iter : W.heap[b + 1]? = some (.stringIter s pos)
  row : W.ownsRow (b + 2) 45 3 v ts.length (toksV ts)
theorem Rd.lt {w W : World} {b pos : Nat} {s : ByteArray} {v : Value} {ts : List Tok} (h : Rd w b s pos v ts W) : b + 2 ≤ W.heap.size := (Array.getElem?_eq_some_iff.1 h.iter).1
theorem Rd.step {w W W' : World} {b pos : Nat} {s : ByteArray} {v : Value} {ts : List Tok} (h : Rd w b s pos v ts W) (hb : Below W.heap.size W W') : Rd w b s pos v ts W' where
  below := bstep h.below hb
  tab := h.tab.below hb
  base := h.base
  lens := (hb.block _ (Array.getElem?_eq_some_iff.1 h.lens).1).trans h.lens
  iter := (hb.block _ (Array.getElem?_eq_some_iff.1 h.iter).1).trans h.iter
  row := ownsRow_below h.row hb
theorem Rd.next {w W : World} {b pos : Nat} {s : ByteArray} {v : Value} {ts : List Tok} (h : Rd w b s pos v ts W) (h1 : 1 < w.heap.size) (pos' : Nat) : Rd w b s pos' v ts (W.iterAt (b + 1) s pos') where
  below := Lib.below_iterAt h.below (by have := h.base; omega) s pos'
  tab := by
    obtain ⟨t, fz, hh⟩ := h.tab
    have := h.base
    exact ⟨t, fz, by rw [Lib.iterAt_other _ _ _ _ _ (by omega)]; exact hh⟩
  base := h.base
  lens := by rw [Lib.iterAt_other _ _ _ _ _ (by omega)]; exact h.lens
  iter := Lib.iterAt_heap W (b + 1) s pos pos' h.iter
  row := ownsRow_iterAt h.row (by omega) s pos'
theorem Rd.grow {w W W' : World} {b pos : Nat} {s : ByteArray} {v v' : Value} {ts : List Tok} (h : Rd w b s pos v ts W) (h1 : 1 < w.heap.size) (t : Tok) (hg : W.grownBy W' v.ownBlock) (hr : W'.ownsRow (b + 2) 45 3 v' (ts.length + 1) (toksV ts ++ tokV t)) : Rd w b s pos v' (ts ++ [t]) W' := by
  have hlt := h.row.lt
  have hne : ∀ k, k < b + 2 → some k ≠ v.ownBlock := fun k hk e => by have := (hlt k e.symm).1; omega
  have hl := h.lt
  have hb := h.base
  refine ⟨h.below.grown hg (by omega) (fun k hk => by have := (hlt k hk).1; omega), ?_, h.base, ?_, ?_, ?_⟩
  · obtain ⟨t, fz, hh⟩ := h.tab
    exact ⟨t, fz, by rw [hg.block 1 (by omega) (hne 1 (by omega))]; exact hh⟩
  · rw [hg.block b (by omega) (hne b (by omega))]; exact h.lens
  · rw [hg.block (b + 1) (by omega) (hne (b + 1) (by omega))]; exact h.iter
  · rw [List.length_append, toksV_app]
    have e : toksV [t] = tokV t := by simp [toksV]
    rw [e]
    exact hr
end Go.Proofs.YtkieljleopbhoaaDoor.Lex
