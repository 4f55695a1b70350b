/-
  Plain mathematics: lists that tell less, and lists that tell twice.
-/
import Derived.Test.YtdhjedpgdhageaaOrdF
namespace Go.Proofs.Ytdhjedpgdhageaa.Ord
theorem there_iff (l : List (List Int)) : there l = true ↔ ∀ i, i < l.length → ∀ y ∈ l.getD i [], 0 ≤ y ∧ y < (l.length : Int) := by
  unfold there
  rw [List.all_eq_true]
  constructor
  · intro h i hi y hy
    rw [List.getD_eq_getElem?_getD, List.getElem?_eq_getElem hi] at hy
    have := List.all_eq_true.1 (h _ (List.getElem_mem hi)) y hy
    simpa using this
  · intro h r hr
    obtain ⟨i, hi, rfl⟩ := List.getElem_of_mem hr
    rw [List.all_eq_true]
    intro y hy
    have := h i hi y (by rw [List.getD_eq_getElem?_getD, List.getElem?_eq_getElem hi]; exact hy)
    simpa using this
/-- Lists that tell the same are the same to the order. -/
theorem ofV_alike {l m : List (List Int)} (hl : m.length = l.length) (h : ∀ i, i < l.length → ∀ y, y ∈ m.getD i [] ↔ y ∈ l.getD i []) : ofV m = ofV l := by
  have hrow : ∀ z y, y ∈ rowOf m z ↔ y ∈ rowOf l z := fun z y => by
    unfold rowOf
    by_cases hz : z.toNat < l.length
    · exact h _ hz y
    · rw [List.getD_eq_getElem?_getD, List.getD_eq_getElem?_getD, List.getElem?_eq_none (by omega), List.getElem?_eq_none (by omega)]
  have ht : there m = there l := by
    rw [Bool.eq_iff_iff, there_iff, there_iff]
    constructor
    · intro h1 i hi y hy
      have := h1 i (by omega) y ((h i hi y).2 hy)
      omega
    · intro h1 i hi y hy
      have := h1 i (by omega) y ((h i (by omega) y).1 hy)
      omega
  have hn : ∀ t, nxt m t = nxt l t := fun t => by
    unfold nxt
    rw [hl]
    congr 1
    funext z
    have : rdy m t z ↔ rdy l t z := by
      unfold rdy
      simp only [hrow]
    simp only [this]
  have ho : ∀ k, ordN m k = ordN l k := by
    intro k
    induction k with
    | zero => rfl
    | succ k ih =>
      show stp m (ordN m k) = stp l (ordN l k)
      rw [ih]
      unfold stp
      rw [hn]
  unfold ofV ord
  rw [ht, hl, ho]
/-- Lists that tell less leave an order. -/
theorem ofV_less {l m : List (List Int)} (hl : m.length = l.length) (h : ∀ i, i < l.length → ∀ y, y ∈ m.getD i [] → y ∈ l.getD i []) (he : (ofV l).2 = 0) : (ofV m).2 = 0 := by
  obtain ⟨ht, _, hx⟩ := ofV_ok he
  have hrow : ∀ z y, y ∈ rowOf m z → y ∈ rowOf l z := fun z y => by
    unfold rowOf
    by_cases hz : z.toNat < l.length
    · exact h _ hz y
    · rw [List.getD_eq_getElem?_getD, List.getElem?_eq_none (by omega)]
      intro e
      simp at e
  have htm : there m = true := by
    rw [there_iff]
    intro i hi y hy
    have := (there_iff l).1 ht i (by omega) y (h i (by omega) y hy)
    omega
  rw [ofV_yes htm]
  by_cases hlt : (ord m).length < m.length
  · exfalso
    have hnx : nxt m (ord m) = none := by
      cases hn : nxt m (ord m) with
      | none => rfl
      | some z =>
        exfalso
        have hg := (ord_goes m).snoc hn
        have h1 : ∀ k, k ≤ m.length → (ordN m k).length = k := by
          intro k hk
          induction k with
          | zero => rfl
          | succ k ih =>
            show (stp m (ordN m k)).length = k + 1
            cases hs : nxt m (ordN m k) with
            | none =>
              have h2 := ordN_stay hs (m.length - k)
              rw [show k + (m.length - k) = m.length by omega] at h2
              unfold ord at hn
              rw [h2, hs] at hn
              cases hn
            | some z => rw [stp_some hs, List.length_append, ih (by omega)]; rfl
        have := h1 m.length (Nat.le_refl _)
        unfold ord at hlt
        omega
    have hin : ∀ j, j ≤ (ord l).length → ∀ z ∈ (ord l).take j, z ∈ ord m := by
      intro j
      induction j with
      | zero => intro _ z hz; simp at hz
      | succ j ih =>
        intro hj z hz
        rw [take_ga (by omega), List.mem_append, List.mem_singleton] at hz
        rcases hz with hz | hz
        · exact ih (by omega) z hz
        · refine Decidable.byContradiction fun hno => ?_
          obtain ⟨⟨b0, b1⟩, ⟨_, r2⟩, _⟩ := (ord_goes l).mem (show j < (ord l).length by omega)
          rw [← hz] at b0 b1 r2
          exact nxt_none.1 hnx z b0 (by omega) ⟨hno, fun y hy => ih (by omega) y (r2 y (hrow z y hy))⟩
    have hall := hin (ord l).length (Nat.le_refl _)
    rw [List.take_length] at hall
    have hsub : (ord l).length ≤ (ord m).length := by
      have : ∀ (a b : List Int), a.Nodup → (∀ z ∈ a, z ∈ b) → a.length ≤ b.length := by
        intro a
        induction a with
        | nil => intro b _ _; exact Nat.zero_le _
        | cons x a ih =>
          intro b hn hs
          obtain ⟨h1, h2⟩ := List.nodup_cons.1 hn
          have hx : x ∈ b := hs x (by simp)
          have := ih (b.erase x) h2 (fun z hz => by
            have hzx : z ≠ x := fun e => h1 (e ▸ hz)
            exact (List.mem_erase_of_ne hzx).2 (hs z (by simp [hz])))
          rw [List.length_erase_of_mem hx] at this
          have hb : 0 < b.length := List.length_pos_of_mem hx
          simp only [List.length_cons]
          omega
      exact this _ _ (ord_goes l).nodup hall
    omega
  · rw [if_neg hlt]
end Go.Proofs.Ytdhjedpgdhageaa.Ord
