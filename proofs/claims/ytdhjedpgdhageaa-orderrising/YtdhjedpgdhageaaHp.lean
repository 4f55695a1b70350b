/-
  The heap: up and down.
-/
import Derived.Test.YtdhjedpgdhageaaLst
import Derived.Test.YtdhjedpgdhageaaHpM
namespace Go.Proofs.Ytdhjedpgdhageaa.Ord
open Go.ChangeShapes Go.WideShapes Go.ChangeAt Go.RowKit Go.Joins
theorem ints_get {l : List Int} {i : Nat} (h : i < l.length) : (ints l)[i]? = some (.int .i64 (ga l i)) := by simp [ints, ga, h]
theorem take_get {cur : Array Value} {l : List Int} (ht : cur.toList.take l.length = ints l) {i : Nat} (h : i < l.length) : cur[i]? = some (.int .i64 (ga l i)) := by
  have h1 := ints_get h
  rw [← ht, List.getElem?_take, if_pos h] at h1
  simpa using h1
theorem Row.cell {W : World} {base g c : Nat} {l : List Int} (h : Row W base (.slice (some ⟨g, 0, none⟩) l.length c) l) {i : Nat} (hi : i < l.length) : W.cell? ⟨g, i, none⟩ = some (.int .i64 (ga l i)) ∧ W.frozen? ⟨g, i, none⟩ = false := by
  obtain ⟨g', cap, cur, e, _, hr, _, _, _, ht⟩ := h.full (by omega)
  injection e with e1 _ _
  injection e1 with e1
  injection e1 with e1
  subst e1
  refine ⟨?_, ?_⟩
  · rw [cell_of_row W g i cur 3 (0, 0) hr]
    exact take_get ht hi
  · unfold World.frozen?
    rw [hr]
    simp
theorem ints_set (l : List Int) (i : Nat) (x : Int) : ints (l.set i x) = (ints l).set i (.int .i64 x) := by simp [ints, List.map_set]
theorem Row.swap {W : World} {base g c : Nat} {l : List Int} (h : Row W base (.slice (some ⟨g, 0, none⟩) l.length c) l) {i j : Nat} (hj : j < l.length) (q : Nat) :
    Row ((W.setCell ⟨g, i, none⟩ (.int .i64 (ga l j))).setCell ⟨g, j, none⟩ (.int .i64 (ga l i)) |>.drewN q) base (.slice (some ⟨g, 0, none⟩) l.length c) (sw l i j) ∧
    W.grownBy ((W.setCell ⟨g, i, none⟩ (.int .i64 (ga l j))).setCell ⟨g, j, none⟩ (.int .i64 (ga l i)) |>.drewN q) (some g) := by
  obtain ⟨g', cap, cur, e, hg, hr, hc, hm, hs, ht⟩ := h.full (by omega)
  injection e with e1 _ e3
  injection e1 with e1
  injection e1 with e1
  subst e1 e3
  refine ⟨?_, ?_⟩
  · have h1 := heap_setCell_same W g i cur 3 (.int .i64 (ga l j)) hr
    have h2 := heap_setCell_same _ g j _ 3 (.int .i64 (ga l i)) h1
    have hl : (sw l i j).length = l.length := sw_len l i j
    rw [← hl]
    refine Row.make hg h2 (by omega) hm (by simpa using hs) ?_
    rw [hl]
    simp only [Array.toList_setIfInBounds, List.take_set, ht]
    unfold sw
    rw [ints_set, ints_set]
  · refine ⟨rfl, rfl, rfl, ?_, fun k _ hk => ?_⟩
    · simp [World.setCell]
    · have hk' : k ≠ g := fun e => hk (by rw [e])
      show ((W.setCell _ _).setCell _ _).heap[k]? = _
      rw [Below.heap_setCell _ _ _ _ hk', Below.heap_setCell _ _ _ _ hk']
/-- The pointer to the heap's variable: its methods. -/
theorem m_less0 (w : World) (b o : Nat) : Sem.run Try.prog (method 175 49 (.pointer (some ⟨b, o, none⟩)) "Less") w = Sem.run Try.prog (do let v ← loadVar 43 ⟨b, o, none⟩; pure (42, v)) w := by kernel_rfl
theorem load43 (w : World) (b o : Nat) (v : Value) (h : w.cell? ⟨b, o, none⟩ = some v) : Sem.run Try.prog (loadVar 43 ⟨b, o, none⟩) w = .ok v w := by
  simp [loadVar, Result.andThen, h]
theorem m_less (w : World) (b o : Nat) (v : Value) (h : w.cell? ⟨b, o, none⟩ = some v) : Sem.run Try.prog (method 175 49 (.pointer (some ⟨b, o, none⟩)) "Less") w = .ok (42, v) w := by
  rw [m_less0]
  simp [load43 w b o v h, Result.andThen]
theorem m_swap0 (w : World) (b o : Nat) : Sem.run Try.prog (method 175 49 (.pointer (some ⟨b, o, none⟩)) "Swap") w = Sem.run Try.prog (do let v ← loadVar 43 ⟨b, o, none⟩; pure (43, v)) w := by kernel_rfl
theorem m_swap (w : World) (b o : Nat) (v : Value) (h : w.cell? ⟨b, o, none⟩ = some v) : Sem.run Try.prog (method 175 49 (.pointer (some ⟨b, o, none⟩)) "Swap") w = .ok (43, v) w := by
  rw [m_swap0]
  simp [load43 w b o v h, Result.andThen]
theorem m_len0 (w : World) (b o : Nat) : Sem.run Try.prog (method 175 49 (.pointer (some ⟨b, o, none⟩)) "Len") w = Sem.run Try.prog (do let v ← loadVar 43 ⟨b, o, none⟩; pure (20, v)) w := by kernel_rfl
theorem m_len (w : World) (b o : Nat) (v : Value) (h : w.cell? ⟨b, o, none⟩ = some v) : Sem.run Try.prog (method 175 49 (.pointer (some ⟨b, o, none⟩)) "Len") w = .ok (20, v) w := by
  rw [m_len0]
  simp [load43 w b o v h, Result.andThen]
theorem m_push (w : World) (b o : Nat) : Sem.run Try.prog (method 175 49 (.pointer (some ⟨b, o, none⟩)) "Push") w = .ok (45, .pointer (some ⟨b, o, none⟩)) w := by kernel_rfl
theorem m_pop (w : World) (b o : Nat) : Sem.run Try.prog (method 175 49 (.pointer (some ⟨b, o, none⟩)) "Pop") w = .ok (44, .pointer (some ⟨b, o, none⟩)) w := by kernel_rfl
theorem half {j : Nat} (h : 0 < j) : ((j : Int) - 1).tdiv 2 = (((j - 1) / 2 : Nat) : Int) := by
  rw [show ((j : Int) - 1) = ((j - 1 : Nat) : Int) by omega]
  rfl
end Go.Proofs.Ytdhjedpgdhageaa.Ord
