/-
  Some answers that the document fixes.
-/
import Derived.Test.YtdhjedpgdhageaaGrt
namespace Go.Proofs.Ytdhjedpgdhageaa.Ord
open Go.ChangeShapes Go.WideShapes Go.ChangeAt Go.RowKit Go.Joins
theorem Rd.make {W : World} {lo b : Nat} {cs : Array Value} {r : List Int} (h : W.heap[b]? = some (.cells cs 3 (0, 0))) (hb : b < lo) (hl : r.length ≤ 17592186044416) (hc : ∀ i, i < r.length → cs[i]? = some (.int .i64 (ga r i))) : Rd W lo (.slice (some ⟨b, 0, none⟩) r.length r.length) r :=
  ⟨_, _, rfl, Nat.le_refl _, ⟨by omega, hl⟩, .inr ⟨b, 0, rfl, hb, fun i hi => by rw [Nat.zero_add, cell_of_row W b i cs 3 (0, 0) h]; exact hc i hi⟩⟩
theorem LL.make {W : World} {lo b : Nat} {cs : Array Value} {l : List (List Int)} (h : W.heap[b]? = some (.cells cs 25 (0, 0))) (hb : b < lo) (hl : l.length ≤ 17592186044416) (hc : ∀ i, i < l.length → ∃ x, cs[i]? = some x ∧ Rd W lo x (l.getD i [])) : LL W lo (.slice (some ⟨b, 0, none⟩) l.length l.length) l := by
  refine ⟨_, _, rfl, Nat.le_refl _, ⟨by omega, hl⟩, fun i => (cs[i]?).getD undef, .inr ⟨b, 0, rfl, hb, fun i hi => ?_⟩, fun i hi => ?_⟩
  · obtain ⟨x, h1, _⟩ := hc i hi
    show W.cell? ⟨b, 0 + i, none⟩ = some ((cs[i]?).getD undef)
    rw [Nat.zero_add, cell_of_row W b i cs 25 (0, 0) h, h1]
    rfl
  · obtain ⟨x, h1, h2⟩ := hc i hi
    show Rd W lo ((cs[i]?).getD undef) _
    rw [h1]
    exact h2
theorem one_c (x : Int) : ∀ i, i < [x].length → (#[.int .i64 x] : Array Value)[i]? = some (.int .i64 (ga [x] i)) := fun i hi => by
  have h0 : i = 0 := Nat.lt_one_iff.1 hi
  subst h0
  rfl
theorem no_c : ∀ i, i < ([] : List Int).length → (#[] : Array Value)[i]? = some (.int .i64 (ga [] i)) := fun i hi => (Nat.not_lt_zero i hi).elim
theorem lit0 (w : World) : LL ((((w.alloc (.cells #[.int .i64 2] 3)).alloc (.cells #[] 3)).alloc (.cells #[.int .i64 1] 3)).alloc (.cells #[.slice (some ⟨w.heap.size, 0, none⟩) 1 1, .slice (some ⟨w.heap.size + 1, 0, none⟩) 0 0, .slice (some ⟨w.heap.size + 1 + 1, 0, none⟩) 1 1] 25)) ((((w.alloc (.cells #[.int .i64 2] 3)).alloc (.cells #[] 3)).alloc (.cells #[.int .i64 1] 3)).alloc (.cells #[.slice (some ⟨w.heap.size, 0, none⟩) 1 1, .slice (some ⟨w.heap.size + 1, 0, none⟩) 0 0, .slice (some ⟨w.heap.size + 1 + 1, 0, none⟩) 1 1] 25)).heap.size (.slice (some ⟨w.heap.size + 1 + 1 + 1, 0, none⟩) 3 3) [[2], [], [1]] ∧ Below w.heap.size w ((((w.alloc (.cells #[.int .i64 2] 3)).alloc (.cells #[] 3)).alloc (.cells #[.int .i64 1] 3)).alloc (.cells #[.slice (some ⟨w.heap.size, 0, none⟩) 1 1, .slice (some ⟨w.heap.size + 1, 0, none⟩) 0 0, .slice (some ⟨w.heap.size + 1 + 1, 0, none⟩) 1 1] 25)) := by
  have h0 : ((((w.alloc (.cells #[.int .i64 2] 3)).alloc (.cells #[] 3)).alloc (.cells #[.int .i64 1] 3)).alloc (.cells #[.slice (some ⟨w.heap.size, 0, none⟩) 1 1, .slice (some ⟨w.heap.size + 1, 0, none⟩) 0 0, .slice (some ⟨w.heap.size + 1 + 1, 0, none⟩) 1 1] 25)).heap[w.heap.size]? = some (.cells #[.int .i64 2] 3 (0, 0)) := (push_old (push_old (push_old (push_new w _ (w.heap.size) (by simp)))))
  have h1 : ((((w.alloc (.cells #[.int .i64 2] 3)).alloc (.cells #[] 3)).alloc (.cells #[.int .i64 1] 3)).alloc (.cells #[.slice (some ⟨w.heap.size, 0, none⟩) 1 1, .slice (some ⟨w.heap.size + 1, 0, none⟩) 0 0, .slice (some ⟨w.heap.size + 1 + 1, 0, none⟩) 1 1] 25)).heap[w.heap.size + 1]? = some (.cells #[] 3 (0, 0)) := (push_old (push_old (push_new (w.alloc (.cells #[.int .i64 2] 3)) _ (w.heap.size + 1) (by simp))))
  have h2 : ((((w.alloc (.cells #[.int .i64 2] 3)).alloc (.cells #[] 3)).alloc (.cells #[.int .i64 1] 3)).alloc (.cells #[.slice (some ⟨w.heap.size, 0, none⟩) 1 1, .slice (some ⟨w.heap.size + 1, 0, none⟩) 0 0, .slice (some ⟨w.heap.size + 1 + 1, 0, none⟩) 1 1] 25)).heap[w.heap.size + 1 + 1]? = some (.cells #[.int .i64 1] 3 (0, 0)) := (push_old (push_new ((w.alloc (.cells #[.int .i64 2] 3)).alloc (.cells #[] 3)) _ (w.heap.size + 1 + 1) (by simp)))
  have h3 : ((((w.alloc (.cells #[.int .i64 2] 3)).alloc (.cells #[] 3)).alloc (.cells #[.int .i64 1] 3)).alloc (.cells #[.slice (some ⟨w.heap.size, 0, none⟩) 1 1, .slice (some ⟨w.heap.size + 1, 0, none⟩) 0 0, .slice (some ⟨w.heap.size + 1 + 1, 0, none⟩) 1 1] 25)).heap[w.heap.size + 1 + 1 + 1]? = some (.cells #[.slice (some ⟨w.heap.size, 0, none⟩) 1 1, .slice (some ⟨w.heap.size + 1, 0, none⟩) 0 0, .slice (some ⟨w.heap.size + 1 + 1, 0, none⟩) 1 1] 25 (0, 0)) := (push_new (((w.alloc (.cells #[.int .i64 2] 3)).alloc (.cells #[] 3)).alloc (.cells #[.int .i64 1] 3)) _ (w.heap.size + 1 + 1 + 1) (by simp))
  have hs : ((((w.alloc (.cells #[.int .i64 2] 3)).alloc (.cells #[] 3)).alloc (.cells #[.int .i64 1] 3)).alloc (.cells #[.slice (some ⟨w.heap.size, 0, none⟩) 1 1, .slice (some ⟨w.heap.size + 1, 0, none⟩) 0 0, .slice (some ⟨w.heap.size + 1 + 1, 0, none⟩) 1 1] 25)).heap.size = w.heap.size + 1 + 1 + 1 + 1 := by simp
  have b0 := Below.refl w.heap.size w
  have b1 := bstep b0 ((Below.refl _ _).alloc (Nat.le_refl _) (.cells #[.int .i64 2] 3))
  have b2 := bstep b1 ((Below.refl _ _).alloc (Nat.le_refl _) (.cells #[] 3))
  have b3 := bstep b2 ((Below.refl _ _).alloc (Nat.le_refl _) (.cells #[.int .i64 1] 3))
  have b4 := bstep b3 ((Below.refl _ _).alloc (Nat.le_refl _) (.cells #[.slice (some ⟨w.heap.size, 0, none⟩) 1 1, .slice (some ⟨w.heap.size + 1, 0, none⟩) 0 0, .slice (some ⟨w.heap.size + 1 + 1, 0, none⟩) 1 1] 25))
  refine ⟨?_, b4⟩
  refine LL.make (l := [[2], [], [1]]) h3 (by rw [hs]; omega) (by decide) (fun i hi => ?_)
  have hi' : i < 3 := hi
  rcases (by omega : i = 0 ∨ i = 1 ∨ i = 2) with rfl | rfl | rfl
  · exact ⟨_, rfl, Rd.make (r := [2]) h0 (by rw [hs]; omega) (by decide) (one_c 2)⟩
  · exact ⟨_, rfl, Rd.make (r := []) h1 (by rw [hs]; omega) (by decide) no_c⟩
  · exact ⟨_, rfl, Rd.make (r := [1]) h2 (by rw [hs]; omega) (by decide) (one_c 1)⟩
theorem lit1 (w : World) : LL (((((w.alloc (.cells #[.int .i64 3] 3)).alloc (.cells #[] 3)).alloc (.cells #[] 3)).alloc (.cells #[] 3)).alloc (.cells #[.slice (some ⟨w.heap.size, 0, none⟩) 1 1, .slice (some ⟨w.heap.size + 1, 0, none⟩) 0 0, .slice (some ⟨w.heap.size + 1 + 1, 0, none⟩) 0 0, .slice (some ⟨w.heap.size + 1 + 1 + 1, 0, none⟩) 0 0] 25)) (((((w.alloc (.cells #[.int .i64 3] 3)).alloc (.cells #[] 3)).alloc (.cells #[] 3)).alloc (.cells #[] 3)).alloc (.cells #[.slice (some ⟨w.heap.size, 0, none⟩) 1 1, .slice (some ⟨w.heap.size + 1, 0, none⟩) 0 0, .slice (some ⟨w.heap.size + 1 + 1, 0, none⟩) 0 0, .slice (some ⟨w.heap.size + 1 + 1 + 1, 0, none⟩) 0 0] 25)).heap.size (.slice (some ⟨w.heap.size + 1 + 1 + 1 + 1, 0, none⟩) 4 4) [[3], [], [], []] ∧ Below w.heap.size w (((((w.alloc (.cells #[.int .i64 3] 3)).alloc (.cells #[] 3)).alloc (.cells #[] 3)).alloc (.cells #[] 3)).alloc (.cells #[.slice (some ⟨w.heap.size, 0, none⟩) 1 1, .slice (some ⟨w.heap.size + 1, 0, none⟩) 0 0, .slice (some ⟨w.heap.size + 1 + 1, 0, none⟩) 0 0, .slice (some ⟨w.heap.size + 1 + 1 + 1, 0, none⟩) 0 0] 25)) := by
  have h0 : (((((w.alloc (.cells #[.int .i64 3] 3)).alloc (.cells #[] 3)).alloc (.cells #[] 3)).alloc (.cells #[] 3)).alloc (.cells #[.slice (some ⟨w.heap.size, 0, none⟩) 1 1, .slice (some ⟨w.heap.size + 1, 0, none⟩) 0 0, .slice (some ⟨w.heap.size + 1 + 1, 0, none⟩) 0 0, .slice (some ⟨w.heap.size + 1 + 1 + 1, 0, none⟩) 0 0] 25)).heap[w.heap.size]? = some (.cells #[.int .i64 3] 3 (0, 0)) := (push_old (push_old (push_old (push_old (push_new w _ (w.heap.size) (by simp))))))
  have h1 : (((((w.alloc (.cells #[.int .i64 3] 3)).alloc (.cells #[] 3)).alloc (.cells #[] 3)).alloc (.cells #[] 3)).alloc (.cells #[.slice (some ⟨w.heap.size, 0, none⟩) 1 1, .slice (some ⟨w.heap.size + 1, 0, none⟩) 0 0, .slice (some ⟨w.heap.size + 1 + 1, 0, none⟩) 0 0, .slice (some ⟨w.heap.size + 1 + 1 + 1, 0, none⟩) 0 0] 25)).heap[w.heap.size + 1]? = some (.cells #[] 3 (0, 0)) := (push_old (push_old (push_old (push_new (w.alloc (.cells #[.int .i64 3] 3)) _ (w.heap.size + 1) (by simp)))))
  have h2 : (((((w.alloc (.cells #[.int .i64 3] 3)).alloc (.cells #[] 3)).alloc (.cells #[] 3)).alloc (.cells #[] 3)).alloc (.cells #[.slice (some ⟨w.heap.size, 0, none⟩) 1 1, .slice (some ⟨w.heap.size + 1, 0, none⟩) 0 0, .slice (some ⟨w.heap.size + 1 + 1, 0, none⟩) 0 0, .slice (some ⟨w.heap.size + 1 + 1 + 1, 0, none⟩) 0 0] 25)).heap[w.heap.size + 1 + 1]? = some (.cells #[] 3 (0, 0)) := (push_old (push_old (push_new ((w.alloc (.cells #[.int .i64 3] 3)).alloc (.cells #[] 3)) _ (w.heap.size + 1 + 1) (by simp))))
  have h3 : (((((w.alloc (.cells #[.int .i64 3] 3)).alloc (.cells #[] 3)).alloc (.cells #[] 3)).alloc (.cells #[] 3)).alloc (.cells #[.slice (some ⟨w.heap.size, 0, none⟩) 1 1, .slice (some ⟨w.heap.size + 1, 0, none⟩) 0 0, .slice (some ⟨w.heap.size + 1 + 1, 0, none⟩) 0 0, .slice (some ⟨w.heap.size + 1 + 1 + 1, 0, none⟩) 0 0] 25)).heap[w.heap.size + 1 + 1 + 1]? = some (.cells #[] 3 (0, 0)) := (push_old (push_new (((w.alloc (.cells #[.int .i64 3] 3)).alloc (.cells #[] 3)).alloc (.cells #[] 3)) _ (w.heap.size + 1 + 1 + 1) (by simp)))
  have h4 : (((((w.alloc (.cells #[.int .i64 3] 3)).alloc (.cells #[] 3)).alloc (.cells #[] 3)).alloc (.cells #[] 3)).alloc (.cells #[.slice (some ⟨w.heap.size, 0, none⟩) 1 1, .slice (some ⟨w.heap.size + 1, 0, none⟩) 0 0, .slice (some ⟨w.heap.size + 1 + 1, 0, none⟩) 0 0, .slice (some ⟨w.heap.size + 1 + 1 + 1, 0, none⟩) 0 0] 25)).heap[w.heap.size + 1 + 1 + 1 + 1]? = some (.cells #[.slice (some ⟨w.heap.size, 0, none⟩) 1 1, .slice (some ⟨w.heap.size + 1, 0, none⟩) 0 0, .slice (some ⟨w.heap.size + 1 + 1, 0, none⟩) 0 0, .slice (some ⟨w.heap.size + 1 + 1 + 1, 0, none⟩) 0 0] 25 (0, 0)) := (push_new ((((w.alloc (.cells #[.int .i64 3] 3)).alloc (.cells #[] 3)).alloc (.cells #[] 3)).alloc (.cells #[] 3)) _ (w.heap.size + 1 + 1 + 1 + 1) (by simp))
  have hs : (((((w.alloc (.cells #[.int .i64 3] 3)).alloc (.cells #[] 3)).alloc (.cells #[] 3)).alloc (.cells #[] 3)).alloc (.cells #[.slice (some ⟨w.heap.size, 0, none⟩) 1 1, .slice (some ⟨w.heap.size + 1, 0, none⟩) 0 0, .slice (some ⟨w.heap.size + 1 + 1, 0, none⟩) 0 0, .slice (some ⟨w.heap.size + 1 + 1 + 1, 0, none⟩) 0 0] 25)).heap.size = w.heap.size + 1 + 1 + 1 + 1 + 1 := by simp
  have b0 := Below.refl w.heap.size w
  have b1 := bstep b0 ((Below.refl _ _).alloc (Nat.le_refl _) (.cells #[.int .i64 3] 3))
  have b2 := bstep b1 ((Below.refl _ _).alloc (Nat.le_refl _) (.cells #[] 3))
  have b3 := bstep b2 ((Below.refl _ _).alloc (Nat.le_refl _) (.cells #[] 3))
  have b4 := bstep b3 ((Below.refl _ _).alloc (Nat.le_refl _) (.cells #[] 3))
  have b5 := bstep b4 ((Below.refl _ _).alloc (Nat.le_refl _) (.cells #[.slice (some ⟨w.heap.size, 0, none⟩) 1 1, .slice (some ⟨w.heap.size + 1, 0, none⟩) 0 0, .slice (some ⟨w.heap.size + 1 + 1, 0, none⟩) 0 0, .slice (some ⟨w.heap.size + 1 + 1 + 1, 0, none⟩) 0 0] 25))
  refine ⟨?_, b5⟩
  refine LL.make (l := [[3], [], [], []]) h4 (by rw [hs]; omega) (by decide) (fun i hi => ?_)
  have hi' : i < 4 := hi
  rcases (by omega : i = 0 ∨ i = 1 ∨ i = 2 ∨ i = 3) with rfl | rfl | rfl | rfl
  · exact ⟨_, rfl, Rd.make (r := [3]) h0 (by rw [hs]; omega) (by decide) (one_c 3)⟩
  · exact ⟨_, rfl, Rd.make (r := []) h1 (by rw [hs]; omega) (by decide) no_c⟩
  · exact ⟨_, rfl, Rd.make (r := []) h2 (by rw [hs]; omega) (by decide) no_c⟩
  · exact ⟨_, rfl, Rd.make (r := []) h3 (by rw [hs]; omega) (by decide) no_c⟩
theorem lit2 (w : World) : LL (((w.alloc (.cells #[.int .i64 1] 3)).alloc (.cells #[.int .i64 0] 3)).alloc (.cells #[.slice (some ⟨w.heap.size, 0, none⟩) 1 1, .slice (some ⟨w.heap.size + 1, 0, none⟩) 1 1] 25)) (((w.alloc (.cells #[.int .i64 1] 3)).alloc (.cells #[.int .i64 0] 3)).alloc (.cells #[.slice (some ⟨w.heap.size, 0, none⟩) 1 1, .slice (some ⟨w.heap.size + 1, 0, none⟩) 1 1] 25)).heap.size (.slice (some ⟨w.heap.size + 1 + 1, 0, none⟩) 2 2) [[1], [0]] ∧ Below w.heap.size w (((w.alloc (.cells #[.int .i64 1] 3)).alloc (.cells #[.int .i64 0] 3)).alloc (.cells #[.slice (some ⟨w.heap.size, 0, none⟩) 1 1, .slice (some ⟨w.heap.size + 1, 0, none⟩) 1 1] 25)) := by
  have h0 : (((w.alloc (.cells #[.int .i64 1] 3)).alloc (.cells #[.int .i64 0] 3)).alloc (.cells #[.slice (some ⟨w.heap.size, 0, none⟩) 1 1, .slice (some ⟨w.heap.size + 1, 0, none⟩) 1 1] 25)).heap[w.heap.size]? = some (.cells #[.int .i64 1] 3 (0, 0)) := (push_old (push_old (push_new w _ (w.heap.size) (by simp))))
  have h1 : (((w.alloc (.cells #[.int .i64 1] 3)).alloc (.cells #[.int .i64 0] 3)).alloc (.cells #[.slice (some ⟨w.heap.size, 0, none⟩) 1 1, .slice (some ⟨w.heap.size + 1, 0, none⟩) 1 1] 25)).heap[w.heap.size + 1]? = some (.cells #[.int .i64 0] 3 (0, 0)) := (push_old (push_new (w.alloc (.cells #[.int .i64 1] 3)) _ (w.heap.size + 1) (by simp)))
  have h2 : (((w.alloc (.cells #[.int .i64 1] 3)).alloc (.cells #[.int .i64 0] 3)).alloc (.cells #[.slice (some ⟨w.heap.size, 0, none⟩) 1 1, .slice (some ⟨w.heap.size + 1, 0, none⟩) 1 1] 25)).heap[w.heap.size + 1 + 1]? = some (.cells #[.slice (some ⟨w.heap.size, 0, none⟩) 1 1, .slice (some ⟨w.heap.size + 1, 0, none⟩) 1 1] 25 (0, 0)) := (push_new ((w.alloc (.cells #[.int .i64 1] 3)).alloc (.cells #[.int .i64 0] 3)) _ (w.heap.size + 1 + 1) (by simp))
  have hs : (((w.alloc (.cells #[.int .i64 1] 3)).alloc (.cells #[.int .i64 0] 3)).alloc (.cells #[.slice (some ⟨w.heap.size, 0, none⟩) 1 1, .slice (some ⟨w.heap.size + 1, 0, none⟩) 1 1] 25)).heap.size = w.heap.size + 1 + 1 + 1 := by simp
  have b0 := Below.refl w.heap.size w
  have b1 := bstep b0 ((Below.refl _ _).alloc (Nat.le_refl _) (.cells #[.int .i64 1] 3))
  have b2 := bstep b1 ((Below.refl _ _).alloc (Nat.le_refl _) (.cells #[.int .i64 0] 3))
  have b3 := bstep b2 ((Below.refl _ _).alloc (Nat.le_refl _) (.cells #[.slice (some ⟨w.heap.size, 0, none⟩) 1 1, .slice (some ⟨w.heap.size + 1, 0, none⟩) 1 1] 25))
  refine ⟨?_, b3⟩
  refine LL.make (l := [[1], [0]]) h2 (by rw [hs]; omega) (by decide) (fun i hi => ?_)
  have hi' : i < 2 := hi
  rcases (by omega : i = 0 ∨ i = 1) with rfl | rfl
  · exact ⟨_, rfl, Rd.make (r := [1]) h0 (by rw [hs]; omega) (by decide) (one_c 1)⟩
  · exact ⟨_, rfl, Rd.make (r := [0]) h1 (by rw [hs]; omega) (by decide) (one_c 0)⟩
theorem lit3 (w : World) : LL ((w.alloc (.cells #[.int .i64 1] 3)).alloc (.cells #[.slice (some ⟨w.heap.size, 0, none⟩) 1 1] 25)) ((w.alloc (.cells #[.int .i64 1] 3)).alloc (.cells #[.slice (some ⟨w.heap.size, 0, none⟩) 1 1] 25)).heap.size (.slice (some ⟨w.heap.size + 1, 0, none⟩) 1 1) [[1]] ∧ Below w.heap.size w ((w.alloc (.cells #[.int .i64 1] 3)).alloc (.cells #[.slice (some ⟨w.heap.size, 0, none⟩) 1 1] 25)) := by
  have h0 : ((w.alloc (.cells #[.int .i64 1] 3)).alloc (.cells #[.slice (some ⟨w.heap.size, 0, none⟩) 1 1] 25)).heap[w.heap.size]? = some (.cells #[.int .i64 1] 3 (0, 0)) := (push_old (push_new w _ (w.heap.size) (by simp)))
  have h1 : ((w.alloc (.cells #[.int .i64 1] 3)).alloc (.cells #[.slice (some ⟨w.heap.size, 0, none⟩) 1 1] 25)).heap[w.heap.size + 1]? = some (.cells #[.slice (some ⟨w.heap.size, 0, none⟩) 1 1] 25 (0, 0)) := (push_new (w.alloc (.cells #[.int .i64 1] 3)) _ (w.heap.size + 1) (by simp))
  have hs : ((w.alloc (.cells #[.int .i64 1] 3)).alloc (.cells #[.slice (some ⟨w.heap.size, 0, none⟩) 1 1] 25)).heap.size = w.heap.size + 1 + 1 := by simp
  have b0 := Below.refl w.heap.size w
  have b1 := bstep b0 ((Below.refl _ _).alloc (Nat.le_refl _) (.cells #[.int .i64 1] 3))
  have b2 := bstep b1 ((Below.refl _ _).alloc (Nat.le_refl _) (.cells #[.slice (some ⟨w.heap.size, 0, none⟩) 1 1] 25))
  refine ⟨?_, b2⟩
  refine LL.make (l := [[1]]) h1 (by rw [hs]; omega) (by decide) (fun i hi => ?_)
  have hi' : i < 1 := hi
  rcases (by omega : i = 0) with rfl
  · exact ⟨_, rfl, Rd.make (r := [1]) h0 (by rw [hs]; omega) (by decide) (one_c 1)⟩
theorem v0 : ofV [[2], [], [1]] = ([1, 2, 0], 0) := by decide +kernel
theorem v1 : ofV [[3], [], [], []] = ([1, 2, 3, 0], 0) := by decide +kernel
theorem v2 : ofV [[1], [0]] = ([], 8) := by decide +kernel
theorem v3 : ofV [[1]] = ([], 1) := by decide +kernel
set_option maxRecDepth 100000 in
set_option maxHeartbeats 1000000 in
theorem alive_at (w : World) : Calls Try.prog 8 #[] w fun e w' => e = .returned (.bool true) ∧ Below w.heap.size w w' := by
  go_enter Try.func8, Try.ntmps8
  go_wp2_with (fail)
  have L0 := hid (lit0 w)
  generalize ((((w.alloc (.cells #[.int .i64 2] 3)).alloc (.cells #[] 3)).alloc (.cells #[.int .i64 1] 3)).alloc (.cells #[.slice (some ⟨w.heap.size, 0, none⟩) 1 1, .slice (some ⟨w.heap.size + 1, 0, none⟩) 0 0, .slice (some ⟨w.heap.size + 1 + 1, 0, none⟩) 1 1] 25)) = X0 at *
  refine (of_at X0 _ _ L0.out.1 (by decide)).mono ?_
  rintro e w0 ⟨a0, rfl, hr0, hb0⟩
  rw [v0] at hr0 ⊢
  obtain ⟨p0, c0, hf0, _⟩ := hr0.at
  subst hf0
  have R0 := hid hr0
  have B0 := hid (bstep L0.out.2 hb0)
  clear hr0 hb0
  go_wp2_with (fail)
  have L1 := hid (lit1 w0)
  generalize (((((w0.alloc (.cells #[.int .i64 3] 3)).alloc (.cells #[] 3)).alloc (.cells #[] 3)).alloc (.cells #[] 3)).alloc (.cells #[.slice (some ⟨w0.heap.size, 0, none⟩) 1 1, .slice (some ⟨w0.heap.size + 1, 0, none⟩) 0 0, .slice (some ⟨w0.heap.size + 1 + 1, 0, none⟩) 0 0, .slice (some ⟨w0.heap.size + 1 + 1 + 1, 0, none⟩) 0 0] 25)) = X1 at *
  refine (of_at X1 _ _ L1.out.1 (by decide)).mono ?_
  rintro e w1 ⟨a1, rfl, hr1, hb1⟩
  rw [v1] at hr1 ⊢
  obtain ⟨p1, c1, hf1, _⟩ := hr1.at
  subst hf1
  have R1 := hid hr1
  have B1 := hid (bstep L1.out.2 hb1)
  clear hr1 hb1
  go_wp2_with (fail)
  have L2 := hid (lit2 w1)
  generalize (((w1.alloc (.cells #[.int .i64 1] 3)).alloc (.cells #[.int .i64 0] 3)).alloc (.cells #[.slice (some ⟨w1.heap.size, 0, none⟩) 1 1, .slice (some ⟨w1.heap.size + 1, 0, none⟩) 1 1] 25)) = X2 at *
  refine (of_at X2 _ _ L2.out.1 (by decide)).mono ?_
  rintro e w2 ⟨a2, rfl, hr2, hb2⟩
  rw [v2] at hr2 ⊢
  obtain ⟨p2, c2, hf2, _⟩ := hr2.at
  subst hf2
  have R2 := hid hr2
  have B2 := hid (bstep L2.out.2 hb2)
  clear hr2 hb2
  go_wp2_with (fail)
  have L3 := hid (lit3 w2)
  generalize ((w2.alloc (.cells #[.int .i64 1] 3)).alloc (.cells #[.slice (some ⟨w2.heap.size, 0, none⟩) 1 1] 25)) = X3 at *
  refine (of_at X3 _ _ L3.out.1 (by decide)).mono ?_
  rintro e w3 ⟨a3, rfl, hr3, hb3⟩
  rw [v3] at hr3 ⊢
  obtain ⟨p3, c3, hf3, _⟩ := hr3.at
  subst hf3
  have R3 := hid hr3
  have B3 := hid (bstep L3.out.2 hb3)
  clear hr3 hb3
  have C0 := hid ((B1.out.trans (B2.out.mono B1.out.size)).trans (B3.out.mono (Nat.le_trans B1.out.size B2.out.size)))
  have C1 := hid (B2.out.trans (B3.out.mono B2.out.size))
  go_wp2_with (fail)
  have A1 : Hid (Below w3.heap.size w3 (w3.alloc (.cells #[.int .i64 1, .int .i64 2, .int .i64 0] 3))) := hid ((Below.refl _ _).alloc (Nat.le_refl _) _)
  have N1 : Hid ((w3.alloc (.cells #[.int .i64 1, .int .i64 2, .int .i64 0] 3)).heap[w3.heap.size]? = some (.cells #[.int .i64 1, .int .i64 2, .int .i64 0] 3 (0, 0))) := hid (heap_alloc_new w3 _)
  have Z1 : (w3.alloc (.cells #[.int .i64 1, .int .i64 2, .int .i64 0] 3)).heap.size = w3.heap.size + 1 := by simp
  have HZ1 := hid Z1
  clear Z1
  generalize (w3.alloc (.cells #[.int .i64 1, .int .i64 2, .int .i64 0] 3)) = Y1 at *
  have Ra : Rd Y1 Y1.heap.size (.slice p0 3 c0) [1, 2, 0] := (R0.out.below (C0.out.trans (A1.out.mono C0.out.size))).rd (by decide)
  have Rb : Rd Y1 Y1.heap.size (.slice (some ⟨w3.heap.size, 0, none⟩) 3 3) [1, 2, 0] := Rd.make (r := [1, 2, 0]) N1.out (by rw [HZ1.out]; omega) (by decide) (fun i hi => by
    have hi' : i < 3 := hi
    rcases (by omega : i = 0 ∨ i = 1 ∨ i = 2) with rfl | rfl | rfl <;> rfl)
  refine (same_at Y1 _ _ _ _ [1, 2, 0] [1, 2, 0] Ra Rb).mono ?_
  clear Ra Rb
  rintro e y1 ⟨rfl, q1, rfl⟩
  have D1 : decide (([1, 2, 0] : List Int) = [1, 2, 0]) = true := by decide
  rw [D1]
  clear D1
  go_wp2_with (fail)
  have A2 : Hid (Below Y1.heap.size Y1 ((Y1.drewN q1).alloc (.cells #[.int .i64 1, .int .i64 2, .int .i64 3, .int .i64 0] 3))) := hid (bstep (bdrew Y1 q1) ((Below.refl _ _).alloc (Nat.le_refl _) _))
  have N2 : Hid (((Y1.drewN q1).alloc (.cells #[.int .i64 1, .int .i64 2, .int .i64 3, .int .i64 0] 3)).heap[Y1.heap.size]? = some (.cells #[.int .i64 1, .int .i64 2, .int .i64 3, .int .i64 0] 3 (0, 0))) := hid (heap_alloc_new (Y1.drewN q1) _)
  have HZ2 : Hid (((Y1.drewN q1).alloc (.cells #[.int .i64 1, .int .i64 2, .int .i64 3, .int .i64 0] 3)).heap.size = Y1.heap.size + 1) := hid (by simp)
  generalize ((Y1.drewN q1).alloc (.cells #[.int .i64 1, .int .i64 2, .int .i64 3, .int .i64 0] 3)) = Y2 at *
  have Rc : Rd Y2 Y2.heap.size (.slice p1 4 c1) [1, 2, 3, 0] := (R1.out.below ((C1.out.trans (A1.out.mono C1.out.size)).trans (A2.out.mono (Nat.le_trans C1.out.size A1.out.size)))).rd (by decide)
  have Rd2 : Rd Y2 Y2.heap.size (.slice (some ⟨Y1.heap.size, 0, none⟩) 4 4) [1, 2, 3, 0] := Rd.make (r := [1, 2, 3, 0]) N2.out (by rw [HZ2.out]; omega) (by decide) (fun i hi => by
    have hi' : i < 4 := hi
    rcases (by omega : i = 0 ∨ i = 1 ∨ i = 2 ∨ i = 3) with rfl | rfl | rfl | rfl <;> rfl)
  refine (same_at Y2 _ _ _ _ [1, 2, 3, 0] [1, 2, 3, 0] Rc Rd2).mono ?_
  clear Rc Rd2
  rintro e y2 ⟨rfl, q2, rfl⟩
  have D2 : decide (([1, 2, 3, 0] : List Int) = [1, 2, 3, 0]) = true := by decide
  rw [D2]
  clear D2
  go_wp2_with (fail)
  go_ret
  exact ⟨rfl, ((B0.out.trans (C0.out.mono B0.out.size)).trans (A1.out.mono (Nat.le_trans B0.out.size C0.out.size))).trans ((bstep A2.out (bdrew Y2 q2)).mono (Nat.le_trans (Nat.le_trans B0.out.size C0.out.size) A1.out.size))⟩
end Go.Proofs.Ytdhjedpgdhageaa.Ord
