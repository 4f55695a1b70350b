/-
  Plain mathematics: one more number, that waits for all, or that all wait for.
-/
import Derived.Test.YtdhjedpgdhageaaLesM
namespace Go.Proofs.Ytdhjedpgdhageaa.Ord
theorem full_mem {t : List Int} {n : Nat} (hn : t.Nodup) (hb : ∀ z ∈ t, 0 ≤ z ∧ z < (n : Int)) (hl : t.length = n) {z : Int} (h0 : 0 ≤ z) (h1 : z < (n : Int)) : z ∈ t := by
  refine Decidable.byContradiction fun hno => ?_
  have := nodup_bound (t := z :: t) (n := n) (List.nodup_cons.2 ⟨hno, hn⟩) (fun y hy => by
    rcases List.mem_cons.1 hy with e | e
    · rw [e]; exact ⟨h0, h1⟩
    · exact hb y e)
  simp only [List.length_cons] at this
  omega
theorem rowOf_lt {l m : List (List Int)} {z : Int} (h : z.toNat < l.length) : rowOf (l ++ m) z = rowOf l z := by
  unfold rowOf
  rw [List.getD_eq_getElem?_getD, List.getD_eq_getElem?_getD, List.getElem?_append_left h]
theorem rowOf_last (l : List (List Int)) (r : List Int) : rowOf (l ++ [r]) (l.length : Int) = r := by simp [rowOf]
theorem ofV_full {l : List (List Int)} {t : List Int} (ht : there l = true) (h : Goes l t) (hl : t.length = l.length) : ofV l = (t, 0) := by
  rw [ofV_yes ht, ord_eq h hl, if_neg (by omega)]
theorem ofV_last {l : List (List Int)} (h : (ofV l).2 = 0) : ofV (l ++ [nums l.length]) = (ord l ++ [(l.length : Int)], 0) := by
  obtain ⟨ht, _, hl⟩ := ofV_ok h
  have hg := ord_goes l
  have hlen : (l ++ [nums l.length]).length = l.length + 1 := by simp
  have hc : ((l ++ [nums l.length]).length : Int) = (l.length : Int) + 1 := by rw [hlen]; omega
  have htm : there (l ++ [nums l.length]) = true := by
    rw [there_iff]
    intro i hi y hy
    rw [hc]
    by_cases e : i < l.length
    · rw [List.getD_eq_getElem?_getD, List.getElem?_append_left e, ← List.getD_eq_getElem?_getD] at hy
      have := (there_iff l).1 ht i e y hy
      omega
    · obtain rfl : i = l.length := by omega
      simp at hy
      have := mem_nums.1 hy
      omega
  refine ofV_full htm (fun j hj => ?_) (by simp [hl])
  have hj2 : j < l.length + 1 := by simpa [hl] using hj
  by_cases e : j < l.length
  · rw [List.take_append_of_le_length (by omega)]
    have hgj : ga (ord l ++ [(l.length : Int)]) j = ga (ord l) j := by simp [ga, List.getElem?_append_left (show j < (ord l).length by omega)]
    rw [hgj]
    obtain ⟨⟨b0, b1⟩, ⟨r1, r2⟩, r3⟩ := hg.mem (show j < (ord l).length by omega)
    refine nxt_some.2 ⟨⟨b0, by omega⟩, ⟨r1, fun y hy => r2 y ?_⟩, fun y y0 hy hr => r3 y y0 hy ⟨hr.1, fun z hz => hr.2 z ?_⟩⟩
    · rwa [rowOf_lt (by omega)] at hy
    · rwa [rowOf_lt (by omega)]
  · obtain rfl : j = l.length := by omega
    have hgj : ga (ord l ++ [(l.length : Int)]) l.length = (l.length : Int) := by rw [← hl]; simp [ga]
    rw [hgj, ← hl, List.take_append_of_le_length (Nat.le_refl _), List.take_length, hl]
    refine nxt_some.2 ⟨⟨by omega, by omega⟩, ⟨fun e => by have := hg.bound _ e; omega, fun y hy => ?_⟩, fun y y0 hy hr => ?_⟩
    · rw [rowOf_last] at hy
      have := mem_nums.1 hy
      exact full_mem hg.nodup hg.bound hl this.1 this.2
    · exact hr.1 (full_mem hg.nodup hg.bound hl y0 hy)
/-- Each list tells one more number, that tells none. -/
def fst (l : List (List Int)) : List (List Int) := l.map (fun r => r ++ [(l.length : Int)]) ++ [[]]
theorem fst_row {l : List (List Int)} {z : Int} (hz : z.toNat < l.length) : rowOf (fst l) z = rowOf l z ++ [(l.length : Int)] := by
  unfold fst rowOf
  rw [List.getD_eq_getElem?_getD, List.getElem?_append_left (by simpa using hz), List.getElem?_map, List.getD_eq_getElem?_getD, List.getElem?_eq_getElem hz]
  rfl
theorem fst_last (l : List (List Int)) : rowOf (fst l) (l.length : Int) = [] := by
  unfold fst rowOf
  simp
theorem ofV_first {l : List (List Int)} (h : (ofV l).2 = 0) : ofV (fst l) = ((l.length : Int) :: ord l, 0) := by
  obtain ⟨ht, _, hl⟩ := ofV_ok h
  have hg := ord_goes l
  have hlen : (fst l).length = l.length + 1 := by simp [fst]
  have hc : ((fst l).length : Int) = (l.length : Int) + 1 := by rw [hlen]; omega
  have htm : there (fst l) = true := by
    rw [there_iff]
    intro i hi y hy
    rw [hc]
    by_cases e : i < l.length
    · have h1 : (fst l).getD i [] = rowOf (fst l) (i : Int) := by simp [rowOf]
      rw [h1, fst_row (by simpa using e), List.mem_append, List.mem_singleton] at hy
      rcases hy with hy | hy
      · have := there_row ht hy
        omega
      · omega
    · obtain rfl : i = l.length := by omega
      have h1 : (fst l).getD l.length [] = rowOf (fst l) (l.length : Int) := by simp [rowOf]
      rw [h1, fst_last] at hy
      simp at hy
  refine ofV_full htm (fun j hj => ?_) (by simp [hl, hlen])
  cases j with
  | zero =>
    show nxt (fst l) [] = some (l.length : Int)
    refine nxt_some.2 ⟨⟨by omega, by omega⟩, ⟨by simp, fun y hy => ?_⟩, fun y y0 hy hr => ?_⟩
    · rw [fst_last] at hy; exact hy
    · have := hr.2 (l.length : Int) (by rw [fst_row (by omega)]; simp)
      simp at this
  | succ j =>
    have hj2 : j < (ord l).length := by simpa using hj
    show nxt (fst l) ((l.length : Int) :: (ord l).take j) = some (ga (ord l) j)
    obtain ⟨⟨b0, b1⟩, ⟨r1, r2⟩, r3⟩ := hg.mem hj2
    refine nxt_some.2 ⟨⟨b0, by omega⟩, ⟨fun e => ?_, fun y hy => ?_⟩, fun y y0 hy hr => r3 y y0 hy ⟨fun e => hr.1 (List.mem_cons_of_mem _ e), fun w hw => ?_⟩⟩
    · rcases List.mem_cons.1 e with e | e
      · omega
      · exact r1 e
    · rw [fst_row (by omega), List.mem_append, List.mem_singleton] at hy
      rcases hy with hy | hy
      · exact List.mem_cons_of_mem _ (r2 y hy)
      · rw [hy]; simp
    · have h1 := hr.2 w (by rw [fst_row (by omega), List.mem_append]; exact .inl hw)
      have h2 := there_row ht hw
      rcases List.mem_cons.1 h1 with e | e
      · omega
      · exact e
end Go.Proofs.Ytdhjedpgdhageaa.Ord
