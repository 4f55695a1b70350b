/-
  Plain mathematics of a heap: each number is at most those below it.
-/
namespace Go.Proofs.Ytdhjedpgdhageaa.Ord
def ga (l : List Int) (k : Nat) : Int := l.getD k 0
theorem ga_lt {l : List Int} {k : Nat} (h : k < l.length) : ga l k = l[k] := by simp [ga, h]
def Hp (n : Nat) (l : List Int) : Prop := ∀ k, 0 < k → k < n → ga l ((k - 1) / 2) ≤ ga l k
def sw (l : List Int) (i j : Nat) : List Int := (l.set i (ga l j)).set j (ga l i)
theorem sw_len (l : List Int) (i j : Nat) : (sw l i j).length = l.length := by simp [sw]
theorem sw_at {l : List Int} {i j : Nat} (hi : i < l.length) (hj : j < l.length) (k : Nat) : ga (sw l i j) k = if k = j then ga l i else if k = i then ga l j else ga l k := by
  unfold sw
  by_cases h1 : k = j
  · subst h1
    rw [if_pos rfl]
    simp [ga, hj]
  · rw [if_neg h1]
    by_cases h2 : k = i
    · subst h2
      rw [if_pos rfl]
      simp [ga, hi, Ne.symm h1]
    · rw [if_neg h2]
      simp [ga, Ne.symm h1, Ne.symm h2]
theorem sw_perm {l : List Int} {i j : Nat} (hi : i < l.length) (hj : j < l.length) : (sw l i j).Perm l := by
  have h := Array.swap_perm (xs := l.toArray) (i := i) (j := j) (by simpa using hi) (by simpa using hj)
  have e : (l.toArray.swap i j (by simpa using hi) (by simpa using hj)).toList = sw l i j := by
    unfold sw
    rw [ga_lt hi, ga_lt hj]
    simp [Array.swap]
  have h2 := Array.perm_iff_toList_perm.1 h
  rw [e] at h2
  simpa using h2
/-- But for one number that may go up. -/
def Up (n : Nat) (l : List Int) (j : Nat) : Prop := (∀ k, 0 < k → k < n → k ≠ j → ga l ((k - 1) / 2) ≤ ga l k) ∧ ∀ k, 0 < k → k < n → 0 < j → (k - 1) / 2 = j → ga l ((j - 1) / 2) ≤ ga l k
theorem Up.step {l : List Int} {j : Nat} (h : Up l.length l j) (hj : j < l.length) (h0 : 0 < j) (hlt : ga l j < ga l ((j - 1) / 2)) : Up l.length (sw l ((j - 1) / 2) j) ((j - 1) / 2) := by
  have hi : (j - 1) / 2 < l.length := by omega
  obtain ⟨h1, h2⟩ := h
  refine ⟨fun k k0 kn kj => ?_, fun k k0 kn _ ki => ?_⟩
  · rw [sw_at hi hj, sw_at hi hj]
    by_cases e1 : k = j
    · subst e1
      rw [if_neg (by omega), if_pos rfl, if_pos rfl]
      omega
    · rw [if_neg e1, if_neg kj]
      have a := h1 k k0 kn e1
      by_cases e2 : (k - 1) / 2 = j
      · rw [if_pos e2]
        exact h2 k k0 kn h0 e2
      · rw [if_neg e2]
        by_cases e3 : (k - 1) / 2 = (j - 1) / 2
        · rw [if_pos e3]
          rw [e3] at a
          omega
        · rw [if_neg e3]
          exact a
  · rw [sw_at hi hj, sw_at hi hj]
    have hij : (j - 1) / 2 ≠ j := by omega
    have hpi : ((j - 1) / 2 - 1) / 2 < (j - 1) / 2 := by omega
    rw [if_neg (by omega), if_neg (by omega)]
    have b := h1 ((j - 1) / 2) (by omega) hi hij
    by_cases e1 : k = j
    · subst e1
      rw [if_pos rfl]
      exact b
    · have a := h1 k k0 kn e1
      rw [if_neg e1, if_neg (by omega)]
      rw [ki] at a
      omega
theorem Up.done {n : Nat} {l : List Int} {j : Nat} (h : Up n l j) (he : j = 0 ∨ ga l ((j - 1) / 2) ≤ ga l j) : Hp n l := fun k k0 kn => by
  by_cases e : k = j
  · subst e
    rcases he with e | e
    · omega
    · exact e
  · exact h.1 k k0 kn e
theorem Up.start {l : List Int} (h : Hp l.length l) (x : Int) : Up (l ++ [x]).length (l ++ [x]) l.length := by
  have hlen : (l ++ [x]).length = l.length + 1 := by simp
  have hg : ∀ k, k < l.length → ga (l ++ [x]) k = ga l k := fun k hk => by simp [ga, List.getElem?_append_left hk]
  refine ⟨fun k k0 kn kj => ?_, fun k k0 kn _ e => by omega⟩
  rw [hg _ (by omega), hg _ (by omega)]
  exact h k k0 (by omega)
/-- But for one number that may go down. -/
def Dn (n : Nat) (l : List Int) (i : Nat) : Prop := (∀ k, 0 < k → k < n → (k - 1) / 2 ≠ i → ga l ((k - 1) / 2) ≤ ga l k) ∧ ∀ k, 0 < k → k < n → 0 < i → (k - 1) / 2 = i → ga l ((i - 1) / 2) ≤ ga l k
theorem Dn.step {n : Nat} {l : List Int} {i j : Nat} (h : Dn n l i) (hn : n ≤ l.length) (hj : j < n) (hc : j = 2 * i + 1 ∨ j = 2 * i + 2) (hmin : ∀ k, 0 < k → k < n → (k - 1) / 2 = i → ga l j ≤ ga l k) (hlt : ga l j < ga l i) : Dn n (sw l i j) j := by
  have hi : i < l.length := by omega
  have hj' : j < l.length := by omega
  have hpj : (j - 1) / 2 = i := by omega
  obtain ⟨h1, h2⟩ := h
  refine ⟨fun k k0 kn kj => ?_, fun k k0 kn _ ki => ?_⟩
  · rw [sw_at hi hj', sw_at hi hj', if_neg kj]
    by_cases e1 : k = j
    · subst e1
      rw [if_pos hpj, if_pos rfl]
      omega
    · rw [if_neg e1]
      by_cases e2 : (k - 1) / 2 = i
      · rw [if_pos e2, if_neg (by omega)]
        exact hmin k k0 kn e2
      · rw [if_neg e2]
        by_cases e3 : k = i
        · subst e3
          rw [if_pos rfl]
          exact h2 j (by omega) hj k0 hpj
        · rw [if_neg e3]
          exact h1 k k0 kn e2
  · rw [sw_at hi hj', sw_at hi hj', hpj, if_neg (by omega), if_pos rfl, if_neg (by omega), if_neg (by omega)]
    have := h1 k k0 kn (by omega)
    rw [ki] at this
    exact this
theorem Dn.leaf {n : Nat} {l : List Int} {i : Nat} (h : Dn n l i) (he : n ≤ 2 * i + 1) : Hp n l := fun k k0 kn => h.1 k k0 kn (by omega)
theorem Dn.done {n : Nat} {l : List Int} {i j : Nat} (h : Dn n l i) (hmin : ∀ k, 0 < k → k < n → (k - 1) / 2 = i → ga l j ≤ ga l k) (hle : ga l i ≤ ga l j) : Hp n l := fun k k0 kn => by
  by_cases e : (k - 1) / 2 = i
  · have := hmin k k0 kn e
    rw [e]
    omega
  · exact h.1 k k0 kn e
theorem Hp.least {n : Nat} {l : List Int} (h : Hp n l) : ∀ k, k < n → ga l 0 ≤ ga l k
  | 0, _ => by omega
  | k + 1, hk => by
    have h1 := h (k + 1) (by omega) hk
    have h2 := Hp.least h ((k + 1 - 1) / 2) (by omega)
    omega
/-- The first one and the last one change places: but for the first one it is a heap still, without the last one. -/
theorem Dn.start {l : List Int} (h : Hp l.length l) (h0 : 0 < l.length) : Dn (l.length - 1) (sw l 0 (l.length - 1)) 0 := by
  refine ⟨fun k k0 kn kj => ?_, fun k _ _ e _ => by omega⟩
  rw [sw_at h0 (by omega), sw_at h0 (by omega), if_neg (by omega), if_neg kj, if_neg (by omega), if_neg (by omega)]
  exact h k k0 (by omega)
theorem Hp.take {n : Nat} {l : List Int} (h : Hp n l) : Hp n (l.take n) := fun k k0 kn => by
  have : ∀ k, k < n → ga (l.take n) k = ga l k := fun k hk => by simp [ga, hk]
  rw [this _ (by omega), this _ kn]
  exact h k k0 kn
theorem Hp.nil : Hp ([] : List Int).length [] := fun k k0 kn => by simp at kn
end Go.Proofs.Ytdhjedpgdhageaa.Ord
