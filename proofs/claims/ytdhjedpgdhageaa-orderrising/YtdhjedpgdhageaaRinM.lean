/-
  Plain mathematics: numbers in a ring.
-/
import Derived.Test.YtdhjedpgdhageaaLasM
namespace Go.Proofs.Ytdhjedpgdhageaa.Ord
def nx (k z : Nat) : Nat := if z + 1 = k then 0 else z + 1
def pE (k a i : Nat) : Nat := if i ≤ a then a - i else a + k - i
theorem nx_mod {k z : Nat} (hz : z < k) : (z + 1) % k = nx k z := by
  unfold nx
  split
  · rename_i h; rw [h, Nat.mod_self]
  · rw [Nat.mod_eq_of_lt (by omega)]
theorem pE_mod {k a i : Nat} (ha : a < k) (hi : i < k) : (a + k - i) % k = pE k a i := by
  unfold pE
  split
  · rw [show a + k - i = a - i + k by omega, Nat.add_mod_right, Nat.mod_eq_of_lt (by omega)]
  · rw [Nat.mod_eq_of_lt (by omega)]
theorem nx_lt {k z : Nat} (hz : z < k) : nx k z < k := by unfold nx; split <;> omega
theorem pE_lt {k a i : Nat} (ha : a < k) (hi : i < k) : pE k a i < k := by unfold pE; split <;> omega
theorem pE_inj {k a i j : Nat} (_ : a < k) (hi : i < k) (hj : j < k) (h : pE k a i = pE k a j) : i = j := by unfold pE at h; split at h <;> split at h <;> omega
theorem pE_sur {k a y : Nat} (ha : a < k) (hy : y < k) : ∃ i, i < k ∧ pE k a i = y := by
  by_cases h : y ≤ a
  · exact ⟨a - y, by omega, by unfold pE; split <;> omega⟩
  · exact ⟨a + k - y, by omega, by unfold pE; split <;> omega⟩
theorem pE_nx {k a i : Nat} (_ : a < k) (hi : i + 1 < k) : nx k (pE k a (i + 1)) = pE k a i := by unfold nx pE; split <;> split <;> split <;> omega
theorem pE_at {k a i : Nat} (_ : a < k) (hi : i < k) : pE k a i = a ↔ i = 0 := by unfold pE; split <;> omega
def ringL (k : Nat) : List (List Int) := (List.range k).map fun i => [(nx k i : Int)]
def rowL (k a : Nat) : List (List Int) := (List.range k).map fun i => if i = a then [] else [(nx k i : Int)]
def wantL (k a : Nat) : List Int := (List.range k).map fun i => (pE k a i : Int)
theorem ringL_len (k : Nat) : (ringL k).length = k := by simp [ringL]
theorem rowL_len (k a : Nat) : (rowL k a).length = k := by simp [rowL]
theorem wantL_len (k a : Nat) : (wantL k a).length = k := by simp [wantL]
theorem ringL_row {k i : Nat} (h : i < k) : rowOf (ringL k) (i : Int) = [(nx k i : Int)] := by simp [rowOf, ringL, h]
theorem rowL_row {k a i : Nat} (h : i < k) : rowOf (rowL k a) (i : Int) = if i = a then [] else [(nx k i : Int)] := by simp [rowOf, rowL, h]
theorem wantL_ga {k a i : Nat} (h : i < k) : ga (wantL k a) i = (pE k a i : Int) := by simp [ga, wantL, h]
theorem ofV_ring {k : Nat} (hk : 0 < k) : ofV (ringL k) = ([], 8) := by
  have ht : there (ringL k) = true := by
    rw [there_iff]
    intro i hi y hy
    rw [ringL_len] at hi ⊢
    have h1 : (ringL k).getD i [] = rowOf (ringL k) (i : Int) := by simp [rowOf]
    rw [h1, ringL_row hi, List.mem_singleton] at hy
    have := nx_lt hi
    omega
  have hn : nxt (ringL k) [] = none := nxt_none.2 fun z z0 z1 hr => by
    rw [ringL_len] at z1
    obtain ⟨i, rfl⟩ := Int.eq_ofNat_of_zero_le z0
    have := hr.2 (nx k i : Int) (by rw [ringL_row (by omega)]; simp)
    simp at this
  have ho : ord (ringL k) = [] := by
    unfold ord
    have := ordN_stay (l := ringL k) (k := 0) hn (ringL k).length
    rw [Nat.zero_add] at this
    exact this
  rw [ofV_yes ht, ho, ringL_len]
  exact if_pos hk
theorem ofV_row {k a : Nat} (ha : a < k) : ofV (rowL k a) = (wantL k a, 0) := by
  have ht : there (rowL k a) = true := by
    rw [there_iff]
    intro i hi y hy
    rw [rowL_len] at hi ⊢
    have h1 : (rowL k a).getD i [] = rowOf (rowL k a) (i : Int) := by simp [rowOf]
    rw [h1, rowL_row hi] at hy
    split at hy
    · simp at hy
    · rw [List.mem_singleton] at hy
      have := nx_lt hi
      omega
  refine ofV_full ht (fun j hj => ?_) (by rw [wantL_len, rowL_len])
  rw [wantL_len] at hj
  have hmem : ∀ z, z ∈ (wantL k a).take j ↔ ∃ i, i < j ∧ (pE k a i : Int) = z := fun z => by
    constructor
    · intro h
      obtain ⟨i, h1, h2, h3⟩ := mem_take_inv h
      rw [wantL_ga (by omega)] at h3
      exact ⟨i, h1, h3⟩
    · rintro ⟨i, h1, h2⟩
      rw [← h2, ← wantL_ga (show i < k by omega)]
      exact mem_take (by rw [wantL_len]; omega) h1
  have hlt := pE_lt ha hj
  rw [wantL_ga hj]
  refine nxt_some.2 ⟨⟨by omega, by rw [rowL_len]; omega⟩, ⟨fun e => ?_, fun y hy => ?_⟩, fun y y0 hy hr => ?_⟩
  · obtain ⟨i, h1, h2⟩ := (hmem _).1 e
    have := pE_inj ha (show i < k by omega) hj (by omega)
    omega
  · rw [rowL_row hlt] at hy
    by_cases h0 : pE k a j = a
    · rw [if_pos h0] at hy; simp at hy
    · rw [if_neg h0, List.mem_singleton] at hy
      have hj0 : j ≠ 0 := fun e => h0 ((pE_at ha hj).2 e)
      obtain ⟨i, rfl⟩ : ∃ i, j = i + 1 := ⟨j - 1, by omega⟩
      rw [pE_nx ha (by omega)] at hy
      exact (hmem y).2 ⟨i, by omega, hy.symm⟩
  · obtain ⟨yn, rfl⟩ := Int.eq_ofNat_of_zero_le y0
    have hyk : yn < k := by omega
    obtain ⟨i, hi, hpi⟩ := pE_sur ha hyk
    have hij : j < i := by
      refine Decidable.byContradiction fun h => ?_
      by_cases e : i = j
      · rw [e] at hpi; omega
      · exact hr.1 ((hmem _).2 ⟨i, by omega, by omega⟩)
    have hya : yn ≠ a := fun e => by
      have := (pE_at ha hi).1 (by omega)
      omega
    obtain ⟨i', rfl⟩ : ∃ i', i = i' + 1 := ⟨i - 1, by omega⟩
    have h1 := hr.2 (nx k yn : Int) (by rw [rowL_row hyk, if_neg hya]; simp)
    rw [← hpi, pE_nx ha (by omega)] at h1
    obtain ⟨m, h2, h3⟩ := (hmem _).1 h1
    have := pE_inj ha (show m < k by omega) (show i' < k by omega) (by omega)
    omega
theorem ringL_succ (k m : Nat) : (List.range (m + 1)).map (fun i => [(nx k i : Int)]) = (List.range m).map (fun i => [(nx k i : Int)]) ++ [[(nx k m : Int)]] := by simp [List.range_succ]
end Go.Proofs.Ytdhjedpgdhageaa.Ord
