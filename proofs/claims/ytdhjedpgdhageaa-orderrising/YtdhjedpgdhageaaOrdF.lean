/-
  Plain mathematics: what the order is.
-/
import Derived.Test.YtdhjedpgdhageaaOrdM
import Derived.Test.YtdhjedpgdhageaaHpM
namespace Go.Proofs.Ytdhjedpgdhageaa.Ord
/-- Each of a list is the next one behind those ahead of it. -/
def Goes (l : List (List Int)) (t : List Int) : Prop := ∀ j, j < t.length → nxt l (t.take j) = some (ga t j)
theorem take_ga {t : List Int} {j : Nat} (h : j < t.length) : t.take (j + 1) = t.take j ++ [ga t j] := by
  rw [List.take_add_one, List.getElem?_eq_getElem h, ga_lt h]
  rfl
theorem Goes.snoc {l : List (List Int)} {t : List Int} {z : Int} (h : Goes l t) (hz : nxt l t = some z) : Goes l (t ++ [z]) := fun j hj => by
  have hlen : (t ++ [z]).length = t.length + 1 := by simp
  by_cases e : j < t.length
  · rw [List.take_append_of_le_length (by omega), h j e]
    simp [ga, List.getElem?_append_left e]
  · obtain rfl : j = t.length := by omega
    rw [List.take_append_of_le_length (Nat.le_refl _), List.take_length, hz]
    simp [ga]
theorem ordN_goes (l : List (List Int)) : ∀ k, Goes l (ordN l k)
  | 0 => fun j hj => by simp [ordN] at hj
  | k + 1 => by
    show Goes l (stp l (ordN l k))
    cases h : nxt l (ordN l k) with
    | none => rw [stp_none h]; exact ordN_goes l k
    | some z => rw [stp_some h]; exact (ordN_goes l k).snoc h
theorem ordN_of {l : List (List Int)} {t : List Int} (h : Goes l t) : ∀ j, j ≤ t.length → ordN l j = t.take j
  | 0, _ => rfl
  | j + 1, hj => by
    show stp l (ordN l j) = _
    rw [ordN_of h j (by omega), stp_some (h j (by omega)), take_ga (by omega)]
theorem Goes.mem {l : List (List Int)} {t : List Int} (h : Goes l t) {j : Nat} (hj : j < t.length) : (0 ≤ ga t j ∧ ga t j < (l.length : Int)) ∧ rdy l (t.take j) (ga t j) ∧ ∀ y, 0 ≤ y → y < ga t j → ¬ rdy l (t.take j) y := nxt_some.1 (h j hj)
theorem Goes.bound {l : List (List Int)} {t : List Int} (h : Goes l t) : ∀ z ∈ t, 0 ≤ z ∧ z < (l.length : Int) := fun z hz => by
  obtain ⟨j, hj, rfl⟩ := List.getElem_of_mem hz
  rw [← ga_lt hj]
  exact (h.mem hj).1
theorem mem_take {t : List Int} {i j : Nat} (hj : j < t.length) (h : i < j) : ga t i ∈ t.take j := by
  rw [List.mem_take_iff_getElem]
  exact ⟨i, by omega, (ga_lt (by omega)).symm⟩
theorem mem_take_inv {t : List Int} {j : Nat} {z : Int} (h : z ∈ t.take j) : ∃ i, i < j ∧ i < t.length ∧ ga t i = z := by
  obtain ⟨i, hi, e⟩ := List.mem_take_iff_getElem.1 h
  exact ⟨i, by omega, by omega, by rw [ga_lt (by omega)]; exact e⟩
theorem Goes.ne {l : List (List Int)} {t : List Int} (h : Goes l t) {i j : Nat} (hj : j < t.length) (hij : i < j) : ga t i ≠ ga t j := fun e => by
  have h1 := mem_take hj hij
  rw [e] at h1
  exact (h.mem hj).2.1.1 h1
theorem Goes.nodup {l : List (List Int)} {t : List Int} (h : Goes l t) : t.Nodup := by
  rw [List.Nodup, List.pairwise_iff_getElem]
  intro i j hi hj hij
  have := h.ne hj hij
  rwa [ga_lt hi, ga_lt hj] at this
/-- All that a list of t's tells stands ahead. -/
theorem Goes.behind {l : List (List Int)} {t : List Int} (h : Goes l t) {i : Nat} (hi : i < t.length) {y : Int} (hy : y ∈ rowOf l (ga t i)) : ∃ j, j < i ∧ ga t j = y := by
  obtain ⟨j, h1, _, h2⟩ := mem_take_inv ((h.mem hi).2.1.2 y hy)
  exact ⟨j, h1, h2⟩
/-- What goes behind a greater one could not go ahead of it. -/
theorem Goes.waits {l : List (List Int)} {t : List Int} (h : Goes l t) {i : Nat} (hi : i + 1 < t.length) (hlt : ga t (i + 1) < ga t i) : ga t i ∈ rowOf l (ga t (i + 1)) := by
  refine Decidable.byContradiction fun hno => ?_
  obtain ⟨⟨b0, _⟩, ⟨r1, r2⟩, _⟩ := h.mem hi
  refine (h.mem (j := i) (by omega)).2.2 _ b0 hlt ⟨fun e => r1 ?_, fun y hy => ?_⟩
  · rw [take_ga (by omega)]
    exact List.mem_append_left _ e
  · have := r2 y hy
    rw [take_ga (by omega), List.mem_append, List.mem_singleton] at this
    rcases this with e | e
    · exact e
    · rw [e] at hy; exact (hno hy).elim
theorem ord_goes (l : List (List Int)) : Goes l (ord l) := ordN_goes l _
theorem ord_len (l : List (List Int)) : (ord l).length ≤ l.length := nodup_bound (ord_goes l).nodup (ord_goes l).bound
/-- A list of all numbers, each the next one, is the order. -/
theorem ord_eq {l : List (List Int)} {t : List Int} (h : Goes l t) (hl : t.length = l.length) : ord l = t := by
  unfold ord
  rw [← hl, ordN_of h _ (Nat.le_refl _), List.take_length]
theorem ofV_no {l : List (List Int)} (h : there l = false) : ofV l = ([], 1) := if_pos h
theorem ofV_yes {l : List (List Int)} (h : there l = true) : ofV l = if (ord l).length < l.length then ([], 8) else (ord l, 0) := if_neg (by rw [h]; simp)
theorem ofV_ok {l : List (List Int)} (h : (ofV l).2 = 0) : there l = true ∧ (ofV l).1 = ord l ∧ (ord l).length = l.length := by
  by_cases ht : there l = true
  · rw [ofV_yes ht] at h ⊢
    by_cases hl : (ord l).length < l.length
    · rw [if_pos hl] at h; simp at h
    · rw [if_neg hl]
      have := ord_len l
      exact ⟨ht, rfl, by omega⟩
  · rw [ofV_no (by simpa using ht)] at h
    simp at h
theorem ofV_bad {l : List (List Int)} (h : (ofV l).2 ≠ 0) : (ofV l).1 = [] := by
  by_cases ht : there l = true
  · rw [ofV_yes ht] at h ⊢
    by_cases hl : (ord l).length < l.length
    · rw [if_pos hl]
    · rw [if_neg hl] at h; exact (h rfl).elim
  · rw [ofV_no (by simpa using ht)]
theorem ofV_len (l : List (List Int)) : (ofV l).1.length ≤ l.length := by
  by_cases h : (ofV l).2 = 0
  · rw [(ofV_ok h).2.1]; exact ord_len l
  · rw [ofV_bad h]; exact Nat.zero_le _
theorem ofV_small (l : List (List Int)) : (ofV l).2 = 0 ∨ (ofV l).2 = 1 ∨ (ofV l).2 = 8 := by
  unfold ofV
  split
  · exact .inr (.inl rfl)
  · split
    · exact .inr (.inr rfl)
    · exact .inl rfl
end Go.Proofs.Ytdhjedpgdhageaa.Ord
