/-
  The reader goes on by a token: the contracts of yes, no, name, number, pass.
-/
import Derived.Test.YtkieljleopbhoaaDoorJoinAt
namespace Go.Proofs.YtkieljleopbhoaaDoor.Lex
open Go.ChangeShapes Go.WideShapes Go.ChangeAt Go.RowKit Go.Joins
theorem MarksAt.carry {w w' : World} {v : Value} {ts : List Mark} (h : MarksAt w v ts) (hb : ∀ a n c, v = .slice (some a) n c → a.block < w.heap.size → w'.heap[a.block]? = w.heap[a.block]?) : MarksAt w' v ts := by
  obtain ⟨a, cap, rfl, hc⟩ := h
  refine ⟨a, cap, rfl, ?_⟩
  rcases hc with h0 | ⟨g, o, rfl, hc⟩
  · exact .inl h0
  · refine .inr ⟨g, o, rfl, fun i hi => ?_⟩
    obtain ⟨m0, m1, at_, m2⟩ := hc i hi
    have hlt : g < w.heap.size := World.block_lt_of_cell? w ⟨g, o + i * 3, none⟩ m0
    have hk : ∀ {q x}, w.cell? ⟨g, q, none⟩ = some x → w'.cell? ⟨g, q, none⟩ = some x := fun {q x} hx => by
      rw [World.cell?_of_block (w := w) (a := ⟨g, q, none⟩) (hb ⟨g, o, none⟩ _ _ rfl hlt)]
      exact hx
    exact ⟨hk m0, hk m1, at_, hk m2⟩
theorem Rdr.step {r mp : Nat} {v : Value} {ts : List Mark} {p : Nat} {w w' : World} (h : Rdr r mp v ts p w) (hb : Below w.heap.size w w') : Rdr r mp v ts p w' :=
  ⟨(hb.block r (Array.getElem?_eq_some_iff.1 h.cell).1).trans h.cell, h.toks.carry fun a _ _ _ hlt => hb.block a.block hlt, h.le, h.few, h.far, h.own⟩
theorem set_same' {w : World} {b : Nat} {c : Array Value} {t : TypeId} {f : Nat × Nat} (h : w.heap[b]? = some (.cells c t f)) (i : Nat) (u : Value) : (w.setCell ⟨b, i, none⟩ u).heap[b]? = some (.cells (c.setIfInBounds i u) t f) := by
  obtain ⟨hlt, hk⟩ := Array.getElem?_eq_some_iff.1 h
  show (w.heap.modify b _)[b]? = _
  rw [Array.getElem?_eq_getElem (by rw [Array.size_modify]; exact hlt), Array.getElem_modify_self, hk]
  rfl
/-- The reader goes to another place. -/
theorem Rdr.move {r mp : Nat} {v : Value} {ts : List Mark} {p : Nat} {w : World} (h : Rdr r mp v ts p w) (q : Nat) (hq : q ≤ ts.length) : Rdr r mp v ts q (w.setCell ⟨r, 1, none⟩ (.int .i64 (q : Int))) :=
  ⟨set_same' h.cell 1 _, h.toks.carry fun a n c e _ => Below.heap_setCell w ⟨r, 1, none⟩ _ a.block (h.far a n c e), hq, h.few, h.far, h.own⟩
end Go.Proofs.YtkieljleopbhoaaDoor.Lex
