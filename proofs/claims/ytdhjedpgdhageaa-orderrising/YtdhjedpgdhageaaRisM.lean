/-
  Plain mathematics: lists that tell lesser numbers alone, and such as tell greater ones alone.
-/
import Derived.Test.YtdhjedpgdhageaaLasM
import Derived.Test.YtdhjedpgdhageaaLasW
namespace Go.Proofs.Ytdhjedpgdhageaa.Ord
theorem nums_take {n j : Nat} (h : j ≤ n) : (nums n).take j = nums j := by
  unfold nums
  rw [← List.map_take, List.take_range, Nat.min_eq_left h]
theorem ga_nums {n i : Nat} (h : i < n) : ga (nums n) i = (i : Int) := by
  rw [ga_lt (by rw [nums_len]; exact h)]
  exact nums_get h
theorem row_nat (m : List (List Int)) (i : Nat) : rowOf m (i : Int) = m.getD i [] := by simp [rowOf]
theorem ofV_low {m : List (List Int)} (h : ∀ i, i < m.length → ∀ y ∈ m.getD i [], 0 ≤ y ∧ y < (i : Int)) : ofV m = (nums m.length, 0) := by
  have ht : there m = true := by
    rw [there_iff]
    intro i hi y hy
    have := h i hi y hy
    omega
  refine ofV_full ht (fun j hj => ?_) (nums_len _)
  rw [nums_len] at hj
  rw [nums_take (by omega), ga_nums hj]
  refine nxt_some.2 ⟨⟨by omega, by omega⟩, ⟨fun e => ?_, fun y hy => ?_⟩, fun y y0 y1 hr => hr.1 (mem_nums.2 ⟨y0, y1⟩)⟩
  · have := mem_nums.1 e; omega
  · rw [row_nat] at hy
    exact mem_nums.2 (h j hj y hy)
/-- Each tells all greater ones. -/
def fuL (n : Nat) : List (List Int) := (List.range n).map fun i => (List.range (n - 1 - i)).map fun j => ((i + 1 + j : Nat) : Int)
def rvL (n : Nat) : List Int := (List.range n).map fun j => ((n - 1 - j : Nat) : Int)
theorem fuL_len (n : Nat) : (fuL n).length = n := by simp [fuL]
theorem rvL_len (n : Nat) : (rvL n).length = n := by simp [rvL]
theorem fuL_mem {n i : Nat} (hi : i < n) {y : Int} : y ∈ (fuL n).getD i [] ↔ (i : Int) < y ∧ y < (n : Int) := by
  have h1 : (fuL n).getD i [] = (List.range (n - 1 - i)).map fun j => ((i + 1 + j : Nat) : Int) := by simp [fuL, hi]
  rw [h1, List.mem_map]
  constructor
  · rintro ⟨j, hj, rfl⟩
    rw [List.mem_range] at hj
    omega
  · intro h
    exact ⟨(y - (i + 1 : Nat)).toNat, by rw [List.mem_range]; omega, by omega⟩
theorem rvL_ga {n j : Nat} (h : j < n) : ga (rvL n) j = ((n - 1 - j : Nat) : Int) := by simp [ga, rvL, h]
theorem ofV_fu (n : Nat) : ofV (fuL n) = (rvL n, 0) := by
  have ht : there (fuL n) = true := by
    rw [there_iff]
    intro i hi y hy
    rw [fuL_len] at hi ⊢
    have := (fuL_mem hi).1 hy
    omega
  refine ofV_full ht (fun j hj => ?_) (by rw [rvL_len, fuL_len])
  rw [rvL_len] at hj
  have hmem : ∀ z, z ∈ (rvL n).take j ↔ ((n - 1 - j : Nat) : Int) < z ∧ z < (n : Int) := fun z => by
    constructor
    · intro h
      obtain ⟨i, h1, h2, h3⟩ := mem_take_inv h
      rw [rvL_ga (by omega)] at h3
      omega
    · intro h
      have h1 : z = ga (rvL n) (n - 1 - z.toNat) := by rw [rvL_ga (by omega)]; omega
      rw [h1]
      exact mem_take (by rw [rvL_len]; omega) (by omega)
  rw [rvL_ga hj]
  refine nxt_some.2 ⟨⟨by omega, by rw [fuL_len]; omega⟩, ⟨fun e => ?_, fun y hy => ?_⟩, fun y y0 y1 hr => ?_⟩
  · have := (hmem _).1 e; omega
  · rw [row_nat, fuL_mem (by omega)] at hy
    exact (hmem y).2 hy
  · obtain ⟨yn, rfl⟩ := Int.eq_ofNat_of_zero_le y0
    have := hr.2 ((n - 1 - j : Nat) : Int) (by rw [row_nat, fuL_mem (by omega)]; omega)
    have := (hmem _).1 this
    omega
theorem ofV_high {m : List (List Int)} (h : ∀ i, i < m.length → ∀ y ∈ m.getD i [], (i : Int) < y ∧ y < (m.length : Int)) : (ofV m).2 = 0 ∧ (ofV m).1.length = m.length ∧ ∀ f, f < m.length → m.getD f [] = [] → (∀ i, i < f → m.getD i [] ≠ []) → ga (ofV m).1 0 = (f : Int) := by
  have h0 : (ofV m).2 = 0 := ofV_less (l := fuL m.length) (by rw [fuL_len]) (fun i hi y hy => by
    rw [fuL_len] at hi
    exact (fuL_mem hi).2 (h i hi y hy)) (by rw [ofV_fu])
  obtain ⟨_, h1, h2⟩ := ofV_ok h0
  refine ⟨h0, by rw [h1, h2], fun f hf he hne => ?_⟩
  rw [h1]
  have h3 := ord_goes m 0 (by omega)
  rw [List.take_zero] at h3
  have h4 : nxt m [] = some (f : Int) := nxt_some.2 ⟨⟨by omega, by omega⟩, ⟨by simp, fun y hy => by rw [row_nat, he] at hy; exact hy⟩, fun y y0 y1 hr => by
    obtain ⟨yn, rfl⟩ := Int.eq_ofNat_of_zero_le y0
    obtain ⟨x, hx⟩ := List.exists_mem_of_ne_nil _ (hne yn (by omega))
    have := hr.2 x (by rw [row_nat]; exact hx)
    simp at this⟩
  rw [h4] at h3
  injection h3 with h3
  exact h3.symm
/-- The first k of a row, each less than i. -/
def dnR (i : Nat) (r : List Nat) (k : Nat) : List Int := if i = 0 then [] else (r.take k).map fun x => ((x % i : Nat) : Int)
/-- The first k of a row, each greater than i and less than n. -/
def upR (n i : Nat) (r : List Nat) (k : Nat) : List Int := if i + 1 < n then (r.take k).map fun x => ((i + 1 + x % (n - 1 - i) : Nat) : Int) else []
theorem take_snoc {r : List Nat} {k : Nat} (h : k < r.length) : r.take (k + 1) = r.take k ++ [r.getD k 0] := by
  rw [List.take_add_one, List.getElem?_eq_getElem h]
  simp [h]
theorem dnR_snoc {i : Nat} {r : List Nat} {k : Nat} (hk : k < r.length) (hi : i ≠ 0) : dnR i r (k + 1) = dnR i r k ++ [((r.getD k 0 % i : Nat) : Int)] := by
  unfold dnR
  rw [if_neg hi, if_neg hi, take_snoc hk, List.map_append]
  rfl
theorem upR_snoc {n i : Nat} {r : List Nat} {k : Nat} (hk : k < r.length) (hi : i + 1 < n) : upR n i r (k + 1) = upR n i r k ++ [((i + 1 + r.getD k 0 % (n - 1 - i) : Nat) : Int)] := by
  unfold upR
  rw [if_pos hi, if_pos hi, take_snoc hk, List.map_append]
  rfl
theorem dnR_len (i : Nat) (r : List Nat) (k : Nat) : (dnR i r k).length ≤ k := by
  unfold dnR
  split
  · exact Nat.zero_le _
  · rw [List.length_map, List.length_take]; omega
theorem upR_len (n i : Nat) (r : List Nat) (k : Nat) : (upR n i r k).length ≤ k := by
  unfold upR
  split
  · rw [List.length_map, List.length_take]; omega
  · exact Nat.zero_le _
theorem dnR_mem {i : Nat} {r : List Nat} {k : Nat} {y : Int} (h : y ∈ dnR i r k) : 0 ≤ y ∧ y < (i : Int) := by
  unfold dnR at h
  split at h
  · simp at h
  · obtain ⟨x, _, rfl⟩ := List.mem_map.1 h
    have := Nat.mod_lt x (show 0 < i by omega)
    omega
theorem upR_mem {n i : Nat} {r : List Nat} {k : Nat} {y : Int} (h : y ∈ upR n i r k) : (i : Int) < y ∧ y < (n : Int) := by
  unfold upR at h
  split at h
  · obtain ⟨x, _, rfl⟩ := List.mem_map.1 h
    have := Nat.mod_lt x (show 0 < n - 1 - i by omega)
    omega
  · simp at h
/-- How many numbers of a row are looked at. -/
def mm (r : List Nat) : Nat := if r.length < 10 then r.length else 10
def dnL (l : List (List Nat)) (m : Nat) : List (List Int) := (List.range m).map fun i => dnR i (l.getD i []) (mm (l.getD i []))
def upL2 (l : List (List Nat)) (n m : Nat) : List (List Int) := (List.range m).map fun i => upR n i (l.getD i []) (mm (l.getD i []))
theorem dnL_len (l : List (List Nat)) (m : Nat) : (dnL l m).length = m := by simp [dnL]
theorem upL2_len (l : List (List Nat)) (n m : Nat) : (upL2 l n m).length = m := by simp [upL2]
theorem dnL_snoc (l : List (List Nat)) (m : Nat) : dnL l (m + 1) = dnL l m ++ [dnR m (l.getD m []) (mm (l.getD m []))] := by simp [dnL, List.range_succ]
theorem upL2_snoc (l : List (List Nat)) (n m : Nat) : upL2 l n (m + 1) = upL2 l n m ++ [upR n m (l.getD m []) (mm (l.getD m []))] := by simp [upL2, List.range_succ]
theorem dnL_row {l : List (List Nat)} {m i : Nat} (h : i < m) : (dnL l m).getD i [] = dnR i (l.getD i []) (mm (l.getD i [])) := by simp [dnL, h]
theorem upL2_row {l : List (List Nat)} {n m i : Nat} (h : i < m) : (upL2 l n m).getD i [] = upR n i (l.getD i []) (mm (l.getD i [])) := by simp [upL2, h]
theorem mm_le (r : List Nat) : mm r ≤ 10 ∧ mm r ≤ r.length := by unfold mm; split <;> omega
theorem ofV_dn (l : List (List Nat)) (n : Nat) : ofV (dnL l n) = (nums n, 0) := by
  have := ofV_low (m := dnL l n) (fun i hi y hy => by rw [dnL_len] at hi; rw [dnL_row hi] at hy; exact dnR_mem hy)
  rw [dnL_len] at this
  exact this
theorem ofV_up (l : List (List Nat)) (n : Nat) : (ofV (upL2 l n n)).2 = 0 ∧ (ofV (upL2 l n n)).1.length = n ∧ ∀ f, f < n → (upL2 l n n).getD f [] = [] → (∀ i, i < f → (upL2 l n n).getD i [] ≠ []) → ga (ofV (upL2 l n n)).1 0 = (f : Int) := by
  have := ofV_high (m := upL2 l n n) (fun i hi y hy => by rw [upL2_len] at hi ⊢; rw [upL2_row hi] at hy; exact upR_mem hy)
  rw [upL2_len] at this
  exact this
theorem up_last (l : List (List Nat)) {n : Nat} (hn : 0 < n) : (upL2 l n n).getD (n - 1) [] = [] := by
  rw [upL2_row (by omega)]
  unfold upR
  rw [if_neg (by omega)]
end Go.Proofs.Ytdhjedpgdhageaa.Ord
