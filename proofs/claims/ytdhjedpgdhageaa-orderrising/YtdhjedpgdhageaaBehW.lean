/-
  The walk of OrderBehind: what its loops keep.
-/
import Derived.Test.YtdhjedpgdhageaaAlv
import Derived.Test.YtdhjedpgdhageaaOrdF
namespace Go.Proofs.Ytdhjedpgdhageaa.Ord
open Go.ChangeShapes Go.WideShapes Go.ChangeAt Go.RowKit Go.Joins
theorem Row.put {W : World} {base b c i : Nat} {v : Value} {l : List Int} (h : Row W base v l) (hv : v = .slice (some ⟨b, 0, none⟩) l.length c) (z : Int) : Row (W.setCell ⟨b, i, none⟩ (.int .i64 z)) base v (l.set i z) := by
  have := own_set (i := i) h hv (.int .i64 z)
  unfold Row
  rw [ints_set, List.length_set]
  exact this
theorem ga_set {l : List Int} {i : Nat} (hi : i < l.length) (z : Int) (k : Nat) : ga (l.set i z) k = if k = i then z else ga l k := by
  by_cases e : k = i
  · subst e
    rw [if_pos rfl]
    simp [ga, hi]
  · rw [if_neg e]
    simp [ga, Ne.symm e]
theorem mk_ints (n : Nat) (hn : n ≤ 1099511627776) (w : World) : (Instr.makeSlice 25 (.int .i64 (n : Int)) (.int .i64 (n : Int))).run Try.prog w = .ok (.slice (some ⟨w.heap.size, 0, none⟩) n n) (w.alloc (.cells (madeCells #[.int .i64 0] n) 3)) := by
  obtain ⟨i0, hi, hz0, hz1, hz2⟩ := info_parts inf3
  have := run_make (P := Try.prog) w 25 3 i0 _ Try.underlying25 hi hz0 .i64 .i64 (n : Int) (n : Int) (by omega) (by omega) (by rw [hz2]; omega) (by omega)
  rw [hz1] at this
  simpa [Value.cells] using this
theorem made_ints (W : World) (n lo : Nat) (hlo : lo ≤ W.heap.size) (hn : n ≤ 1099511627776) : Row (W.alloc (.cells (madeCells #[.int .i64 0] n) 3)) lo (.slice (some ⟨W.heap.size, 0, none⟩) n n) (List.replicate n 0) := by
  unfold Row
  rw [List.length_replicate]
  refine ⟨by simp [ints], .inr ⟨W.heap.size, n, _, rfl, hlo, heap_alloc_new W _, Nat.le_refl _, by unfold maxLen; omega, by rw [size_madeCells]; omega, ?_⟩⟩
  rw [Nat.mul_one]
  refine List.ext_getElem? (fun i => ?_)
  by_cases hi : i < n
  · simp [madeCells, ints, hi, Nat.mod_one]
  · rw [List.getElem?_eq_none (by simp; omega), List.getElem?_eq_none (by simp [ints]; omega)]
/-- The lists, the order, and a row of places. -/
structure BS (W wr : World) (vl : Value) (l : List (List Int)) (xb xc : Nat) (x : List Int) (ab : Nat) (A : List Int) : Prop where
  L : LL wr W.heap.size vl l
  X : x = [] ∨ Row wr W.heap.size (.slice (some ⟨xb, 0, none⟩) x.length xc) x
  Ar : Row wr W.heap.size (.slice (some ⟨ab, 0, none⟩) l.length l.length) A
  len : A.length = l.length
  ne : x = [] ∨ xb ≠ ab
  below : Below W.heap.size W wr
theorem BS.put {W wr : World} {vl : Value} {l : List (List Int)} {xb xc : Nat} {x : List Int} {ab : Nat} {A : List Int} (h : BS W wr vl l xb xc x ab A) (i : Nat) (z : Int) : BS W (wr.setCell ⟨ab, i, none⟩ (.int .i64 z)) vl l xb xc x ab (A.set i z) := by
  have hb : Below W.heap.size wr (wr.setCell ⟨ab, i, none⟩ (.int .i64 z)) := (mv_cell wr ⟨ab, i, none⟩ _).toBelow h.below.size (fun j e => by rw [e]; exact (h.Ar.lo ab rfl).1)
  refine ⟨h.L.keep hb, ?_, h.Ar.put (by rw [h.len]) z, by rw [List.length_set]; exact h.len, h.ne, h.below.trans hb⟩
  rcases h.X with e | e
  · exact .inl e
  · rcases h.ne with e2 | e2
    · exact .inl e2
    · exact .inr (e.carry (fun b hb => Below.heap_setCell _ _ _ _ (fun e3 => e2 (by
        have h1 : xb = b := by simpa [Value.ownBlock] using hb
        have h2 : b = ab := e3
        omega))))
theorem BS.drew {W wr : World} {vl : Value} {l : List (List Int)} {xb xc : Nat} {x : List Int} {ab : Nat} {A : List Int} (h : BS W wr vl l xb xc x ab A) (q : Nat) : BS W (wr.drewN q) vl l xb xc x ab A :=
  ⟨h.L.keep ((bdrew wr q).mono h.below.size), h.X.imp id (fun e => e), h.Ar, h.len, h.ne, h.below.trans ((bdrew wr q).mono h.below.size)⟩
theorem BS.cx {W wr : World} {vl : Value} {l : List (List Int)} {xb xc : Nat} {x : List Int} {ab : Nat} {A : List Int} (h : BS W wr vl l xb xc x ab A) {i : Nat} (hi : i < x.length) : wr.cell? ⟨xb, i, none⟩ = some (.int .i64 (ga x i)) :=
  (Row.cell (h.X.resolve_left (by intro e; rw [e] at hi; simp at hi)) hi).1
theorem BS.ca {W wr : World} {vl : Value} {l : List (List Int)} {xb xc : Nat} {x : List Int} {ab : Nat} {A : List Int} (h : BS W wr vl l xb xc x ab A) {i : Nat} (hi : i < l.length) : wr.cell? ⟨ab, i, none⟩ = some (.int .i64 (ga A i)) ∧ wr.frozen? ⟨ab, i, none⟩ = false := by
  have := h.Ar
  rw [← h.len] at this
  exact Row.cell (c := A.length) this (by rw [h.len]; exact hi)
/-- One list of the lists: its cell, and what it reads. -/
theorem LL.row {W : World} {lo : Nat} {ao : Option Addr} {c : Nat} {l : List (List Int)} (h : LL W lo (.slice ao l.length c) l) {i : Nat} (hi : i < l.length) : ∃ b o ao2 c2, ao = some ⟨b, o, none⟩ ∧ b < lo ∧ W.cell? ⟨b, o + i, none⟩ = some (.slice ao2 (l.getD i []).length c2) ∧ Rd W lo (.slice ao2 (l.getD i []).length c2) (l.getD i []) := by
  obtain ⟨ao', c', e, _, _, sl, hcs, hrd⟩ := h
  injection e with e1 _ e3
  subst e1 e3
  obtain ⟨b, o, e, hlt, hc⟩ := hcs.resolve_left (by omega)
  have h1 := hrd i hi
  obtain ⟨ao2, c2, e2, _⟩ := hrd i hi
  rw [e2] at h1
  exact ⟨b, o, ao2, c2, e, hlt, by rw [hc i hi, e2], h1⟩
theorem Rd.cellAt {W : World} {lo : Nat} {ao : Option Addr} {c : Nat} {r : List Int} (h : Rd W lo (.slice ao r.length c) r) {i : Nat} (hi : i < r.length) : ∃ b o, ao = some ⟨b, o, none⟩ ∧ b < lo ∧ W.cell? ⟨b, o + i, none⟩ = some (.int .i64 (ga r i)) := by
  obtain ⟨ao', c', e, _, _, hcs⟩ := h
  injection e with e1 _ _
  subst e1
  obtain ⟨b, o, e, hlt, hc⟩ := hcs.resolve_left (by intro e; rw [e] at hi; simp at hi)
  exact ⟨b, o, e, hlt, hc i hi⟩
end Go.Proofs.Ytdhjedpgdhageaa.Ord
