/-
  Plain mathematics: the order of numbers each of which waits for some others, and what a queue of them keeps.
-/
namespace Go.Proofs.Ytdhjedpgdhageaa.Ord
def rowOf (l : List (List Int)) (z : Int) : List Int := l.getD z.toNat []
/-- All numbers of the lists have lists. -/
def there (l : List (List Int)) : Bool := l.all fun r => r.all fun z => decide (0 ≤ z) && decide (z < (l.length : Int))
theorem there_row {l : List (List Int)} (h : there l = true) {z y : Int} (hy : y ∈ rowOf l z) : 0 ≤ y ∧ y < (l.length : Int) := by
  unfold rowOf at hy
  by_cases hz : z.toNat < l.length
  · rw [List.getD_eq_getElem?_getD, List.getElem?_eq_getElem hz] at hy
    have h1 := List.all_eq_true.1 h _ (List.getElem_mem hz)
    have h2 := List.all_eq_true.1 h1 y hy
    simpa using h2
  · rw [List.getD_eq_getElem?_getD, List.getElem?_eq_none (by omega)] at hy
    simp at hy
/-- It may go next. -/
def rdy (l : List (List Int)) (t : List Int) (z : Int) : Prop := z ∉ t ∧ ∀ y ∈ rowOf l z, y ∈ t
instance (l : List (List Int)) (t : List Int) (z : Int) : Decidable (rdy l t z) := inferInstanceAs (Decidable (_ ∧ _))
def nums (n : Nat) : List Int := (List.range n).map Int.ofNat
theorem mem_nums {n : Nat} {z : Int} : z ∈ nums n ↔ 0 ≤ z ∧ z < (n : Int) := by
  unfold nums
  rw [List.mem_map]
  constructor
  · rintro ⟨a, ha, rfl⟩
    have := List.mem_range.1 ha
    exact ⟨Int.natCast_nonneg a, Int.ofNat_lt.2 this⟩
  · rintro ⟨h0, h1⟩
    exact ⟨z.toNat, List.mem_range.2 (by omega), by show (z.toNat : Int) = z; omega⟩
theorem nums_len (n : Nat) : (nums n).length = n := by simp [nums]
theorem nums_nodup (n : Nat) : (nums n).Nodup := by
  unfold nums
  rw [List.Nodup, List.pairwise_map]
  exact (List.nodup_range).imp (fun h e => h (Int.ofNat.inj e))
theorem nums_get {n i : Nat} (h : i < n) : (nums n)[i]'(by rw [nums_len]; exact h) = (i : Int) := by simp [nums]
/-- The least that may go next. -/
def nxt (l : List (List Int)) (t : List Int) : Option Int := (nums l.length).find? fun z => decide (rdy l t z)
theorem nums_lt : ∀ (n i j : Nat) (hi : i < (nums n).length) (hj : j < (nums n).length), i < j → (nums n)[i] < (nums n)[j] := by
  intro n i j hi hj h
  rw [nums_len] at hi hj
  rw [nums_get hi, nums_get hj]
  omega
theorem nxt_some {l : List (List Int)} {t : List Int} {z : Int} : nxt l t = some z ↔ (0 ≤ z ∧ z < (l.length : Int)) ∧ rdy l t z ∧ ∀ y, 0 ≤ y → y < z → ¬ rdy l t y := by
  unfold nxt
  rw [List.find?_eq_some_iff_getElem]
  constructor
  · rintro ⟨hr, i, hi, e, hlt⟩
    rw [nums_len] at hi
    rw [nums_get hi] at e
    refine ⟨by omega, of_decide_eq_true hr, fun y h0 hy => ?_⟩
    have := hlt y.toNat (by omega)
    rw [nums_get (by omega)] at this
    rw [show ((y.toNat : Int)) = y by omega] at this
    simpa using this
  · rintro ⟨⟨h0, h1⟩, hr, hlt⟩
    refine ⟨decide_eq_true hr, z.toNat, by rw [nums_len]; omega, by rw [nums_get (by omega)]; omega, fun j hj => ?_⟩
    rw [nums_get (by omega)]
    simpa using hlt (j : Int) (by omega) (by omega)
theorem nxt_none {l : List (List Int)} {t : List Int} : nxt l t = none ↔ ∀ z, 0 ≤ z → z < (l.length : Int) → ¬ rdy l t z := by
  unfold nxt
  rw [List.find?_eq_none]
  constructor
  · intro h z h0 h1
    simpa using h z (mem_nums.2 ⟨h0, h1⟩)
  · intro h z hz
    have := mem_nums.1 hz
    simpa using h z this.1 this.2
def stp (l : List (List Int)) (t : List Int) : List Int := match nxt l t with
  | none => t
  | some z => t ++ [z]
def ordN (l : List (List Int)) : Nat → List Int
  | 0 => []
  | k + 1 => stp l (ordN l k)
/-- The order, as far as it goes. -/
def ord (l : List (List Int)) : List Int := ordN l l.length
/-- What is answered. -/
def ofV (l : List (List Int)) : List Int × Int := if there l = false then ([], 1) else if (ord l).length < l.length then ([], 8) else (ord l, 0)
theorem stp_some {l : List (List Int)} {t : List Int} {z : Int} (h : nxt l t = some z) : stp l t = t ++ [z] := by unfold stp; rw [h]
theorem stp_none {l : List (List Int)} {t : List Int} (h : nxt l t = none) : stp l t = t := by unfold stp; rw [h]
theorem ordN_stay {l : List (List Int)} {k : Nat} (h : nxt l (ordN l k) = none) : ∀ m, ordN l (k + m) = ordN l k
  | 0 => rfl
  | m + 1 => by
    show stp l (ordN l (k + m)) = _
    rw [ordN_stay h m, stp_none h]
theorem nodup_bound : ∀ {n : Nat} {t : List Int}, t.Nodup → (∀ z ∈ t, 0 ≤ z ∧ z < (n : Int)) → t.length ≤ n
  | 0, t, _, hb => by
    cases t with
    | nil => simp
    | cons a t => have := hb a (by simp); omega
  | n + 1, t, hn, hb => by
    by_cases h : (n : Int) ∈ t
    · have h1 := nodup_bound (n := n) (t := t.erase (n : Int)) (hn.erase _) (fun z hz => by
        have h2 := hn.mem_erase_iff.1 hz
        have h3 := hb z h2.2
        have h4 := h2.1
        omega)
      rw [List.length_erase_of_mem h] at h1
      omega
    · have h1 := nodup_bound (n := n) (t := t) hn (fun z hz => by
        have h3 := hb z hz
        have h4 : z ≠ (n : Int) := fun e => h (e ▸ hz)
        omega)
      omega
theorem ord_of {l : List (List Int)} {t : List Int} (h : t = ordN l t.length) (hn : t.Nodup) (hb : ∀ z ∈ t, 0 ≤ z ∧ z < (l.length : Int)) (he : nxt l t = none) : ord l = t := by
  have hl := nodup_bound hn hb
  unfold ord
  rw [show l.length = t.length + (l.length - t.length) by omega, ordN_stay (by rw [← h]; exact he), ← h]
/-- One more at a key. -/
def upF (F : Int → List Int) (k x : Int) : Int → List Int := fun z => if z = k then F z ++ [x] else F z
def clrF (F : Int → List Int) (k : Int) : Int → List Int := fun z => if z = k then [] else F z
theorem clr_up {F : Int → List Int} {k y x : Int} (h : y ≠ k) : clrF (upF F y x) k = upF (clrF F k) y x := by
  funext z
  show (if z = k then [] else if z = y then F z ++ [x] else F z) = if z = y then (if z = k then [] else F z) ++ [x] else (if z = k then [] else F z)
  by_cases e : z = k
  · have e2 : z ≠ y := fun e2 => h (e2.symm.trans e)
    rw [if_pos e, if_neg e2, if_pos e]
  · rw [if_neg e, if_neg e]
/-- What is left of a list without those at its head that were told. -/
def dropT (t r : List Int) : List Int := r.dropWhile fun z => decide (z ∈ t)
/-- What the queue keeps: t was told, R is ready, P are still to be put, F waits. -/
structure QI (l : List (List Int)) (t R P : List Int) (F : Int → List Int) (L : List (List Int)) : Prop where
  tb : ∀ z ∈ t, 0 ≤ z ∧ z < (l.length : Int)
  rb : ∀ z ∈ R, 0 ≤ z ∧ z < (l.length : Int)
  pb : ∀ z ∈ P, 0 ≤ z ∧ z < (l.length : Int)
  fb : ∀ k, ∀ z ∈ F k, 0 ≤ z ∧ z < (l.length : Int)
  all : ∀ z, 0 ≤ z → z < (l.length : Int) → z ∈ t ∨ z ∈ R ∨ z ∈ P ∨ ∃ k, z ∈ F k
  nt : t.Nodup
  nr : R.Nodup
  np : P.Nodup
  nf : ∀ k, (F k).Nodup
  tr : ∀ z ∈ t, z ∉ R
  tp : ∀ z ∈ t, z ∉ P
  rp : ∀ z ∈ R, z ∉ P
  ft : ∀ k, ∀ z ∈ F k, z ∉ t ∧ z ∉ R ∧ z ∉ P
  ff : ∀ k k' z, z ∈ F k → z ∈ F k' → k = k'
  rd : ∀ z ∈ R, ∀ y ∈ rowOf l z, y ∈ t
  wait : ∀ k, ∀ z ∈ F k, k ∈ rowOf l z ∧ k ∉ t
  len : L.length = l.length
  left : ∀ z, 0 ≤ z → z < (l.length : Int) → ∃ pre, rowOf l z = pre ++ rowOf L z ∧ ∀ y ∈ pre, y ∈ t
theorem QI.init (l : List (List Int)) : QI l [] [] (nums l.length) (fun _ => []) l where
  tb := by simp
  rb := by simp
  pb := fun z hz => mem_nums.1 hz
  fb := by simp
  all := fun z h0 h1 => .inr (.inr (.inl (mem_nums.2 ⟨h0, h1⟩)))
  nt := List.nodup_nil
  nr := List.nodup_nil
  np := nums_nodup _
  nf := fun _ => List.nodup_nil
  tr := by simp
  tp := by simp
  rp := by simp
  ft := by simp
  ff := by simp
  rd := by simp
  wait := by simp
  len := rfl
  left := fun z _ _ => ⟨[], rfl, by simp⟩
theorem drop_split (t r : List Int) : ∃ pre, r = pre ++ dropT t r ∧ ∀ y ∈ pre, y ∈ t := by
  refine ⟨r.takeWhile fun z => decide (z ∈ t), (List.takeWhile_append_dropWhile).symm, fun y hy => ?_⟩
  have h := List.all_takeWhile (l := r) (p := fun z => decide (z ∈ t))
  have := List.all_eq_true.1 h y hy
  simpa using this
theorem drop_head {t r : List Int} {y : Int} {ys : List Int} (h : dropT t r = y :: ys) : y ∉ t := by
  unfold dropT at h
  have := List.head?_dropWhile_not (fun z => decide (z ∈ t)) r
  rw [h] at this
  simpa using this
theorem rowOf_set {L : List (List Int)} {x : Int} (h0 : 0 ≤ x) (hx : x < (L.length : Int)) (r : List Int) (z : Int) (hz : 0 ≤ z) : rowOf (L.set x.toNat r) z = if z = x then r else rowOf L z := by
  unfold rowOf
  by_cases e : z = x
  · subst e
    rw [if_pos rfl]
    simp [show z.toNat < L.length by omega]
  · rw [if_neg e]
    have : x.toNat ≠ z.toNat := fun e2 => e (by omega)
    simp [this]
theorem QI.left_set {l : List (List Int)} {t R P : List Int} {F : Int → List Int} {L : List (List Int)} (h : QI l t R P F L) {x : Int} (h0 : 0 ≤ x) (hx : x < (l.length : Int)) :
    ∀ z, 0 ≤ z → z < (l.length : Int) → ∃ pre, rowOf l z = pre ++ rowOf (L.set x.toNat (dropT t (rowOf L x))) z ∧ ∀ y ∈ pre, y ∈ t := by
  intro z z0 z1
  rw [rowOf_set h0 (by rw [h.len]; exact hx) _ z z0]
  by_cases e : z = x
  · subst e
    rw [if_pos rfl]
    obtain ⟨pre, h1, h2⟩ := h.left z z0 z1
    obtain ⟨pre2, h3, h4⟩ := drop_split t (rowOf L z)
    refine ⟨pre ++ pre2, by rw [List.append_assoc, ← h3]; exact h1, fun y hy => ?_⟩
    rcases List.mem_append.1 hy with hy | hy
    · exact h2 y hy
    · exact h4 y hy
  · rw [if_neg e]
    exact h.left z z0 z1
theorem QI.ready {l : List (List Int)} {t R P R' : List Int} {F : Int → List Int} {L : List (List Int)} {x : Int} (h : QI l t R (x :: P) F L) (hd : dropT t (rowOf L x) = []) (hR : R'.Perm (R ++ [x])) : QI l t R' P F (L.set x.toNat (dropT t (rowOf L x))) := by
  obtain ⟨x0, x1⟩ := h.pb x (by simp)
  have hm : ∀ z, z ∈ R' ↔ z ∈ R ∨ z = x := fun z => by rw [hR.mem_iff, List.mem_append, List.mem_singleton]
  have hxR : x ∉ R := fun e => h.rp x e (by simp)
  obtain ⟨hxP, hnP⟩ := List.nodup_cons.1 h.np
  refine ⟨h.tb, fun z hz => ?_, fun z hz => h.pb z (by simp [hz]), h.fb, fun z z0 z1 => ?_, h.nt, ?_, hnP, h.nf, fun z hz e => ?_, fun z hz e => h.tp z hz (by simp [e]), fun z hz e => ?_, fun k z hz => ⟨(h.ft k z hz).1, fun e => ?_, fun e => (h.ft k z hz).2.2 (by simp [e])⟩, h.ff, fun z hz y hy => ?_, h.wait, by rw [List.length_set]; exact h.len, h.left_set x0 x1⟩
  · rcases (hm z).1 hz with e | e
    · exact h.rb z e
    · subst e; exact ⟨x0, x1⟩
  · rcases h.all z z0 z1 with e | e | e | e
    · exact .inl e
    · exact .inr (.inl ((hm z).2 (.inl e)))
    · rcases List.mem_cons.1 e with e | e
      · exact .inr (.inl ((hm z).2 (.inr e)))
      · exact .inr (.inr (.inl e))
    · exact .inr (.inr (.inr e))
  · rw [hR.nodup_iff, List.nodup_append]
    exact ⟨h.nr, by simp, fun a ha b hb e => by simp at hb; subst hb; subst e; exact hxR ha⟩
  · rcases (hm z).1 e with e | e
    · exact h.tr z hz e
    · subst e; exact h.tp z hz (by simp)
  · rcases (hm z).1 hz with e2 | e2
    · exact h.rp z e2 (by simp [e])
    · subst e2; exact hxP e
  · rcases (hm z).1 e with e | e
    · exact (h.ft k z hz).2.1 e
    · subst e; exact (h.ft k z hz).2.2 (by simp)
  · rcases (hm z).1 hz with e | e
    · exact h.rd z e y hy
    · subst e
      obtain ⟨pre, h1, h2⟩ := h.left z x0 x1
      obtain ⟨pre2, h3, h4⟩ := drop_split t (rowOf L z)
      rw [hd, List.append_nil] at h3
      rw [h1] at hy
      rcases List.mem_append.1 hy with hy | hy
      · exact h2 y hy
      · rw [h3] at hy; exact h4 y hy
theorem QI.waits {l : List (List Int)} {t R P : List Int} {F : Int → List Int} {L : List (List Int)} {x y : Int} {ys : List Int} (h : QI l t R (x :: P) F L) (hd : dropT t (rowOf L x) = y :: ys) : QI l t R P (upF F y x) (L.set x.toNat (dropT t (rowOf L x))) := by
  obtain ⟨x0, x1⟩ := h.pb x (by simp)
  have hm : ∀ k z, z ∈ upF F y x k ↔ z ∈ F k ∨ (k = y ∧ z = x) := fun k z => by
    unfold upF
    by_cases e : k = y
    · rw [if_pos e]; simp [e]
    · rw [if_neg e]; simp [e]
  obtain ⟨hxP, hnP⟩ := List.nodup_cons.1 h.np
  have hxF : ∀ k, x ∉ F k := fun k e => (h.ft k x e).2.2 (by simp)
  have hyt : y ∉ t := drop_head hd
  have hyr : y ∈ rowOf l x := by
    obtain ⟨pre, h1, _⟩ := h.left x x0 x1
    obtain ⟨pre2, h3, _⟩ := drop_split t (rowOf L x)
    rw [h1, h3, hd]
    simp
  refine ⟨h.tb, h.rb, fun z hz => h.pb z (by simp [hz]), fun k z hz => ?_, fun z z0 z1 => ?_, h.nt, h.nr, hnP, fun k => ?_, h.tr, fun z hz e => h.tp z hz (by simp [e]), fun z hz e => h.rp z hz (by simp [e]), fun k z hz => ?_, fun k k' z hz hz' => ?_, h.rd, fun k z hz => ?_, by rw [List.length_set]; exact h.len, h.left_set x0 x1⟩
  · rcases (hm k z).1 hz with e | ⟨_, e⟩
    · exact h.fb k z e
    · subst e; exact ⟨x0, x1⟩
  · rcases h.all z z0 z1 with e | e | e | ⟨k, e⟩
    · exact .inl e
    · exact .inr (.inl e)
    · rcases List.mem_cons.1 e with e | e
      · exact .inr (.inr (.inr ⟨y, (hm y z).2 (.inr ⟨rfl, e⟩)⟩))
      · exact .inr (.inr (.inl e))
    · exact .inr (.inr (.inr ⟨k, (hm k z).2 (.inl e)⟩))
  · unfold upF
    by_cases e : k = y
    · rw [if_pos e, List.nodup_append]
      exact ⟨h.nf k, by simp, fun a ha b hb e => by simp at hb; subst hb; subst e; exact hxF k ha⟩
    · rw [if_neg e]; exact h.nf k
  · rcases (hm k z).1 hz with e | ⟨_, e⟩
    · exact ⟨(h.ft k z e).1, (h.ft k z e).2.1, fun e2 => (h.ft k z e).2.2 (by simp [e2])⟩
    · subst e
      exact ⟨fun e => h.tp z e (by simp), fun e => h.rp z e (by simp), hxP⟩
  · rcases (hm k z).1 hz with e | ⟨e1, e⟩
    · rcases (hm k' z).1 hz' with e' | ⟨e1', e'⟩
      · exact h.ff k k' z e e'
      · subst e'; exact (hxF k e).elim
    · rcases (hm k' z).1 hz' with e' | ⟨e1', e'⟩
      · subst e; exact (hxF k' e').elim
      · rw [e1, e1']
  · rcases (hm k z).1 hz with e | ⟨e1, e⟩
    · exact h.wait k z e
    · subst e1; subst e; exact ⟨hyr, hyt⟩
theorem QI.tell {l : List (List Int)} {t R R' : List Int} {F : Int → List Int} {L : List (List Int)} {x : Int} (h : QI l t R [] F L) (hR : (R' ++ [x]).Perm R) : QI l (t ++ [x]) R' (F x) (clrF F x) L := by
  have hm : ∀ z, z ∈ R ↔ z ∈ R' ∨ z = x := fun z => by rw [← hR.mem_iff, List.mem_append, List.mem_singleton]
  have hxR : x ∈ R := (hm x).2 (.inr rfl)
  have hc : ∀ k z, z ∈ clrF F x k ↔ k ≠ x ∧ z ∈ F k := fun k z => by
    unfold clrF
    by_cases e : k = x
    · rw [if_pos e]; simp [e]
    · rw [if_neg e]; simp [e]
  have hnd := hR.nodup_iff.2 h.nr
  obtain ⟨hn', _, hn3⟩ := List.nodup_append.1 hnd
  have hxR' : x ∉ R' := fun e => hn3 x e x (by simp) rfl
  refine ⟨fun z hz => ?_, fun z hz => h.rb z ((hm z).2 (.inl hz)), fun z hz => h.fb x z hz, fun k z hz => h.fb k z ((hc k z).1 hz).2, fun z z0 z1 => ?_, ?_, hn', h.nf x, fun k => ?_, fun z hz e => ?_, fun z hz e => ?_, fun z hz e => (h.ft x z e).2.1 ((hm z).2 (.inl hz)), fun k z hz => ⟨fun e => ?_, fun e => ?_, fun e => ?_⟩, fun k k' z hz hz' => h.ff k k' z ((hc k z).1 hz).2 ((hc k' z).1 hz').2, fun z hz y hy => ?_, fun k z hz => ?_, h.len, fun z z0 z1 => ?_⟩
  · rcases List.mem_append.1 hz with e | e
    · exact h.tb z e
    · rw [List.mem_singleton.1 e]; exact h.rb x hxR
  · rcases h.all z z0 z1 with e | e | e | ⟨k, e⟩
    · exact .inl (by simp [e])
    · rcases (hm z).1 e with e | e
      · exact .inr (.inl e)
      · exact .inl (by simp [e])
    · simp at e
    · by_cases ek : k = x
      · subst ek; exact .inr (.inr (.inl e))
      · exact .inr (.inr (.inr ⟨k, (hc k z).2 ⟨ek, e⟩⟩))
  · rw [List.nodup_append]
    exact ⟨h.nt, by simp, fun a ha b hb e => by simp at hb; subst hb; subst e; exact h.tr _ ha hxR⟩
  · unfold clrF
    by_cases e : k = x
    · rw [if_pos e]; exact List.nodup_nil
    · rw [if_neg e]; exact h.nf k
  · rcases List.mem_append.1 hz with e2 | e2
    · exact h.tr z e2 ((hm z).2 (.inl e))
    · rw [List.mem_singleton.1 e2] at e; exact hxR' e
  · rcases List.mem_append.1 hz with e2 | e2
    · exact (h.ft x z e).1 e2
    · rw [List.mem_singleton.1 e2] at e; exact (h.ft x x e).2.1 hxR
  · obtain ⟨_, hz⟩ := (hc k z).1 hz
    rcases List.mem_append.1 e with e2 | e2
    · exact (h.ft k z hz).1 e2
    · rw [List.mem_singleton.1 e2] at hz; exact (h.ft k x hz).2.1 hxR
  · exact (h.ft k z ((hc k z).1 hz).2).2.1 ((hm z).2 (.inl e))
  · obtain ⟨hk, hz⟩ := (hc k z).1 hz
    exact hk (h.ff k x z hz e)
  · exact List.mem_append.2 (.inl (h.rd z ((hm z).2 (.inl hz)) y hy))
  · obtain ⟨hk, hz⟩ := (hc k z).1 hz
    refine ⟨(h.wait k z hz).1, fun e => ?_⟩
    rcases List.mem_append.1 e with e2 | e2
    · exact (h.wait k z hz).2 e2
    · exact hk (List.mem_singleton.1 e2)
  · obtain ⟨pre, h1, h2⟩ := h.left z z0 z1
    exact ⟨pre, h1, fun y hy => List.mem_append.2 (.inl (h2 y hy))⟩
theorem QI.is_rdy {l : List (List Int)} {t R : List Int} {F : Int → List Int} {L : List (List Int)} (h : QI l t R [] F L) {z : Int} (z0 : 0 ≤ z) (z1 : z < (l.length : Int)) : rdy l t z ↔ z ∈ R := by
  constructor
  · rintro ⟨h1, h2⟩
    rcases h.all z z0 z1 with e | e | e | ⟨k, e⟩
    · exact (h1 e).elim
    · exact e
    · simp at e
    · exact ((h.wait k z e).2 (h2 k (h.wait k z e).1)).elim
  · intro hz
    exact ⟨fun e => h.tr z e hz, h.rd z hz⟩
theorem QI.next {l : List (List Int)} {t R : List Int} {F : Int → List Int} {L : List (List Int)} (h : QI l t R [] F L) {x : Int} (hx : x ∈ R) (hm : ∀ y ∈ R, x ≤ y) : nxt l t = some x := by
  obtain ⟨x0, x1⟩ := h.rb x hx
  refine nxt_some.2 ⟨⟨x0, x1⟩, (h.is_rdy x0 x1).2 hx, fun y y0 hy hr => ?_⟩
  have := hm y ((h.is_rdy y0 (by omega)).1 hr)
  omega
theorem QI.end_ {l : List (List Int)} {t : List Int} {F : Int → List Int} {L : List (List Int)} (h : QI l t [] [] F L) : nxt l t = none :=
  nxt_none.2 fun z z0 z1 hr => by simpa using (h.is_rdy z0 z1).1 hr
end Go.Proofs.Ytdhjedpgdhageaa.Ord
