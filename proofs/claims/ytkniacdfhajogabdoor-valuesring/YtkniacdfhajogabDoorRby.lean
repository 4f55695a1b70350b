/-
  A drawn region, operation by operation: what each slot holds when its operation has come up is said once, and each operation is met once, whatever the order.
-/
import Derived.Test.YtkniacdfhajogabDoorLv
namespace Go.Proofs.YtkniacdfhajogabDoor.Rby
open Go.ChangeShapes Go.WideShapes Go.ChangeAt Go.RowKit Go.Joins
def slotOf (ops : Array Oper) (j : Nat) : Option Nat := (ops[j]?).bind (·.dst)
def dstIn (ops : Array Oper) (t : Nat) : Bool := (List.range ops.size).any fun j => slotOf ops j == some t
/-- The slots that an operation waits for. -/
def slots (ops : Array Oper) (o : Oper) : List Nat := (o.after.toList.filter (Region.binds .any)).filterMap fun e => slotOf ops e.on
def acyc (ops : Array Oper) : Bool := (List.range ops.size).all fun i => match ops[i]? with | some o => o.after.toList.all (fun e => !Region.binds .any e || decide (e.on < i)) | none => true
def lone (ops : Array Oper) : Bool := (List.range ops.size).all fun i => (List.range ops.size).all fun j => decide (i = j) || (slotOf ops i).isNone || !(slotOf ops i == slotOf ops j)
def inside (ops : Array Oper) (n : Nat) : Bool := (List.range ops.size).all fun i => match slotOf ops i with | some d => decide (d < n) | none => true
/-- One operation, met once. -/
def Step (P : Program) (Q : Exit → Act → World → Prop) (J : World → Prop) (E : Nat → Value → World → Prop) (ops : Array Oper) (a0 : Act) (o : Oper) : Prop :=
  ∀ (a : Act) (w : World) (yl : Nat → Option Bool) (K : Act → World → Prop),
    (∀ t, dstIn ops t = false → a.tmps[t]? = a0.tmps[t]?) →
    (∀ d, (slots ops o).contains d = true → ∃ v, a.tmps[d]? = some v ∧ E d v w) →
    (∀ j d, slotOf ops j = some d → ∀ b, a.tmps[d]? = some (.bool b) → yl j = some b) →
    J w → Hid (∀ v w', (∀ d, o.dst = some d → E d v w') → J w' → Below w.heap.size w w' → K (a.put o.dst v) w') →
    if Region.wanted o yl = true then Oper.wp P o a w K Q else K (a.put o.dst undef) w
def AllL (p : Oper → Prop) : List Oper → Prop
  | [] => True
  | o :: l => p o ∧ AllL p l
theorem AllL.nil {p : Oper → Prop} : AllL p [] := trivial
theorem AllL.cons {p : Oper → Prop} {o : Oper} {l : List Oper} (h : p o) (h' : AllL p l) : AllL p (o :: l) := ⟨h, h'⟩
theorem AllL.mem {p : Oper → Prop} (l : List Oper) : AllL p l → ∀ o, o ∈ l → p o := by
  induction l with
  | nil => intro _ o hm; exact absurd hm List.not_mem_nil
  | cons x l ih =>
    intro h o hm
    rcases List.mem_cons.1 hm with e | hm
    · rw [e]; exact h.1
    · exact ih h.2 o hm
structure Inv (J : World → Prop) (E : Nat → Value → World → Prop) (ops : Array Oper) (a0 : Act) (listed : Array Bool) (a : Act) (w : World) : Prop where
  defers : a.defers = a0.defers
  size : a.tmps.size = a0.tmps.size
  fixed : ∀ t, dstIn ops t = false → a.tmps[t]? = a0.tmps[t]?
  held : ∀ j d, slotOf ops j = some d → listed.getD j false = true → ∃ v, a.tmps[d]? = some v ∧ E d v w
  J : J w
theorem dstIn_of {ops : Array Oper} {j t : Nat} (h : slotOf ops j = some t) : dstIn ops t = true := by
  unfold dstIn
  rw [List.any_eq_true]
  refine ⟨j, ?_, by rw [h]; simp⟩
  rw [List.mem_range]
  unfold slotOf at h
  by_cases hj : j < ops.size
  · exact hj
  · rw [Array.getElem?_eq_none (by omega)] at h; simp at h
theorem lt_of_slot {ops : Array Oper} {j t : Nat} (h : slotOf ops j = some t) : j < ops.size := by
  unfold slotOf at h
  by_cases hj : j < ops.size
  · exact hj
  · rw [Array.getElem?_eq_none (by omega)] at h; simp at h
theorem lone_ne {ops : Array Oper} (h : lone ops = true) {i j d : Nat} (hi : slotOf ops i = some d) (hj : slotOf ops j = some d) : i = j := by
  unfold lone at h
  rw [List.all_eq_true] at h
  have h1 := h i (List.mem_range.2 (lt_of_slot hi))
  rw [List.all_eq_true] at h1
  have h2 := h1 j (List.mem_range.2 (lt_of_slot hj))
  rw [hi, hj] at h2
  simpa using h2
/-- How many have not come up. -/
def left (listed : Array Bool) (n : Nat) : Nat := ((List.range n).filter fun i => !listed.getD i true).length
theorem left_set {listed : Array Bool} {n i : Nat} (hi : i < n) (hl : listed.getD i true = false) : left (listed.setIfInBounds i true) n + 1 ≤ left listed n := by
  unfold left
  have hsz : i < listed.size := by
    by_cases h : i < listed.size
    · exact h
    · simp [Array.getElem?_eq_none (Nat.le_of_not_lt h)] at hl
  have key : ∀ l : List Nat, l.Nodup → i ∈ l → (l.filter fun k => !(listed.setIfInBounds i true).getD k true).length + 1 ≤ (l.filter fun k => !listed.getD k true).length := by
    intro l
    induction l with
    | nil => intro _ h; cases h
    | cons x l ih =>
      intro hn hm
      have hx := (List.nodup_cons.1 hn).1
      have hl2 := (List.nodup_cons.1 hn).2
      by_cases hxi : x = i
      · subst hxi
        have e1 : (listed.setIfInBounds x true).getD x true = true := by simp [hsz]
        have e2 : (l.filter fun k => !(listed.setIfInBounds x true).getD k true) = l.filter fun k => !listed.getD k true := by
          apply List.filter_congr
          intro k hk
          rw [getD_set_ne true (fun h => hx (by rw [h]; exact hk))]
        rw [List.filter_cons, List.filter_cons, e1, hl, e2]
        simp
      · have hm2 : i ∈ l := (List.mem_cons.1 hm).resolve_left (fun h => hxi h.symm)
        have := ih hl2 hm2
        rw [List.filter_cons, List.filter_cons, getD_set_ne true (fun h => hxi h.symm)]
        split
        · simp only [List.length_cons]; omega
        · exact this
  exact key _ List.nodup_range (List.mem_range.2 hi)
theorem one_listed {ops : Array Oper} (hac : acyc ops = true) {listed : Array Bool} (hsz : listed.size = ops.size) (hr : Region.ready .any ops listed = []) (i : Nat) (h : ∀ j, j < i → j < ops.size → listed.getD j false = true) (hlt : i < ops.size) : listed.getD i false = true := by
  by_cases hl : listed.getD i false = true
  · exact hl
  · exfalso
    have hm : i ∈ Region.ready .any ops listed := by
      rw [mem_ready]
      refine ⟨?_, ops[i], Array.getElem?_eq_getElem hlt, fun e he hb => ?_⟩
      · have : i < listed.size := by omega
        simp [this] at hl ⊢
        exact hl
      · unfold acyc at hac
        rw [List.all_eq_true] at hac
        have h1 := hac i (List.mem_range.2 hlt)
        rw [Array.getElem?_eq_getElem hlt] at h1
        simp only [List.all_eq_true] at h1
        have h2 := h1 e (by simpa using he)
        rw [hb] at h2
        simp at h2
        exact h e.on h2 (by omega)
    rw [hr] at hm
    cases hm
theorem all_listed {ops : Array Oper} (hac : acyc ops = true) {listed : Array Bool} (hsz : listed.size = ops.size) (hr : Region.ready .any ops listed = []) : ∀ k i, i ≤ k → i < ops.size → listed.getD i false = true := by
  intro k
  induction k with
  | zero => exact fun i hi hlt => one_listed hac hsz hr i (fun j hj _ => absurd hj (by omega)) hlt
  | succ k ih => exact fun i hi hlt => one_listed hac hsz hr i (fun j hj h => ih j (by omega) h) hlt
theorem put_tmps (a : Act) (d : Nat) (v : Value) : (a.put (some d) v).tmps = a.tmps.setIfInBounds d v := rfl
section
variable {P : Program} {Q : Exit → Act → World → Prop} {J : World → Prop} {E : Nat → Value → World → Prop} {ops : Array Oper} {a0 : Act}
theorem Inv.put (hlo : lone ops = true) (hin : inside ops a0.tmps.size = true) (stable : ∀ d v w w', Below w.heap.size w w' → E d v w → E d v w') {listed : Array Bool} {a : Act} {w : World} (h : Inv J E ops a0 listed a w) {i : Nat} {o : Oper} (ho : ops[i]? = some o) {v : Value} {w' : World}
    (hv : ∀ d, o.dst = some d → E d v w') (hJ : J w') (hb : Below w.heap.size w w') : Inv J E ops a0 (listed.setIfInBounds i true) (a.put o.dst v) w' := by
  have hs : slotOf ops i = o.dst := by unfold slotOf; rw [ho]; rfl
  cases hd : o.dst with
  | none =>
    refine ⟨h.defers, h.size, h.fixed, fun j d hj hl => ?_, hJ⟩
    by_cases hij : i = j
    · subst hij; rw [hs, hd] at hj; cases hj
    · rw [getD_set_ne false hij] at hl
      obtain ⟨u, h1, h2⟩ := h.held j d hj hl
      exact ⟨u, h1, stable _ _ _ _ hb h2⟩
  | some t =>
    rw [hd] at hs hv
    have htlt : t < a.tmps.size := by
      rw [h.size]
      unfold inside at hin
      rw [List.all_eq_true] at hin
      have := hin i (List.mem_range.2 (lt_of_slot hs))
      rw [hs] at this
      simpa using this
    refine ⟨h.defers, ?_, fun u hu => ?_, fun j d hj hl => ?_, hJ⟩
    · rw [put_tmps, Array.size_setIfInBounds]; exact h.size
    · have hne : t ≠ u := fun e => by
        have := dstIn_of hs
        rw [e, hu] at this
        cases this
      rw [put_tmps, Array.getElem?_setIfInBounds_ne hne]
      exact h.fixed u hu
    · by_cases hij : i = j
      · subst hij
        obtain rfl : t = d := Option.some.inj (hs.symm.trans hj)
        exact ⟨v, by rw [put_tmps]; simp [htlt], hv t rfl⟩
      · rw [getD_set_ne false hij] at hl
        obtain ⟨u, h1, h2⟩ := h.held j d hj hl
        have hne : t ≠ d := fun e => hij (lone_ne hlo hs (e ▸ hj))
        exact ⟨u, by rw [put_tmps, Array.getElem?_setIfInBounds_ne hne]; exact h1, stable _ _ _ _ hb h2⟩
theorem inv_any (hac : acyc ops = true) (hlo : lone ops = true) (hin : inside ops a0.tmps.size = true) (stable : ∀ d v w w', Below w.heap.size w w' → E d v w → E d v w')
    (step : AllL (Step P Q J E ops a0) ops.toList) (fin : ∀ a w, a.defers = a0.defers → a.tmps.size = a0.tmps.size → (∀ t, dstIn ops t = false → a.tmps[t]? = a0.tmps[t]?) → (∀ d, dstIn ops d = true → ∃ v, a.tmps[d]? = some v ∧ E d v w) → J w → Q .normal a w) :
    ∀ (fuel : Nat) (listed : Array Bool) (a : Act) (w : World), listed.size = ops.size → left listed ops.size ≤ fuel → Inv J E ops a0 listed a w → wpAny P .any ops Q fuel listed a w := by
  have done : ∀ (listed : Array Bool) (a : Act) (w : World), listed.size = ops.size → Inv J E ops a0 listed a w → Region.ready .any ops listed = [] → Q .normal a w := by
    intro listed a w hsz h hr
    refine fin a w h.defers h.size h.fixed (fun d hd => ?_) h.J
    unfold dstIn at hd
    rw [List.any_eq_true] at hd
    obtain ⟨j, hj, he⟩ := hd
    exact h.held j d (by simpa using he) (all_listed hac hsz hr j j (Nat.le_refl _) (List.mem_range.1 hj))
  intro fuel
  induction fuel with
  | zero =>
    intro listed a w hsz hl h
    have hr : Region.ready .any ops listed = [] := by
      rcases he : Region.ready .any ops listed with _ | ⟨i, r⟩
      · rfl
      · have hm : i ∈ Region.ready .any ops listed := by rw [he]; exact List.mem_cons_self
        obtain ⟨h1, o, ho, _⟩ := mem_ready.1 hm
        have := left_set (n := ops.size) (Array.getElem?_eq_some_iff.1 ho).1 h1
        omega
    exact ⟨hr, done listed a w hsz h hr⟩
  | succ fuel ih =>
    intro listed a w hsz hl h
    refine ⟨done listed a w hsz h, fun i hi => ?_⟩
    obtain ⟨h1, o, ho, hall⟩ := mem_ready.1 hi
    have hlt := (Array.getElem?_eq_some_iff.1 ho).1
    have st := AllL.mem _ step o (by have := (Array.getElem?_eq_some_iff.1 ho).2; rw [← this]; simp)
    refine wpOp_step ho fun K' hK' => st a w (yielded ops a.tmps) K' h.fixed (fun d hd => ?_) (fun j d hj b hb => ?_) h.J ?_
    · unfold slots at hd
      rw [List.contains_iff_mem, List.mem_filterMap] at hd
      obtain ⟨e, he, hs⟩ := hd
      rw [List.mem_filter] at he
      exact h.held e.on d hs (hall e (by simpa using he.1) he.2)
    · unfold slotOf at hj
      unfold yielded
      rw [hj, Option.bind_some, hb]
    · exact fun v w' hv hJ hb => hK' _ _ (ih _ _ _ (by rw [Array.size_setIfInBounds]; exact hsz) (by have := left_set (n := ops.size) hlt h1; omega) (h.put hlo hin stable ho hv hJ hb))
/-- A drawn region. -/
theorem region_by {id : Nat} {w : World} (hm : P.follows .mixedOrders = true) (hac : acyc ops = true) (hlo : lone ops = true) (hin : inside ops a0.tmps.size = true) (stable : ∀ d v w w', Below w.heap.size w w' → E d v w → E d v w') (hJ : J w.drew)
    (step : AllL (Step P Q J E ops a0) ops.toList) (fin : ∀ a w, a.defers = a0.defers → a.tmps.size = a0.tmps.size → (∀ t, dstIn ops t = false → a.tmps[t]? = a0.tmps[t]?) → (∀ d, dstIn ops d = true → ∃ v, a.tmps[d]? = some v ∧ E d v w) → J w → Q .normal a w) : (Code.region id ops true).wp P Q a0 w := by
  refine wp_region_any hm (inv_any hac hlo hin stable step fin ops.size _ a0 _ (by simp) ?_ ⟨rfl, rfl, fun _ _ => rfl, fun j d _ hl => ?_, hJ⟩)
  · unfold left
    exact Nat.le_trans (List.length_filter_le _ _) (by simp)
  · exfalso
    rw [Array.getD_eq_getD_getElem?, Array.getElem?_replicate] at hl
    split at hl <;> simp at hl
end
open Val in
/-- What a slot is to hold: a value, or a slice of values that was built. -/
def meets : Option (Value ⊕ List Vl) → Value → World → Prop
  | none, _, _ => True
  | some (.inl c), v, _ => v = c
  | some (.inr l), v, V => ∃ b, v = slV l b ∧ VSl V l v
theorem meets_keep (x : Option (Value ⊕ List Val.Vl)) (v : Value) (w w' : World) (hb : Below w.heap.size w w') (h : meets x v w) : meets x v w' := by
  match x, h with
  | none, _ => trivial
  | some (.inl _), h => exact h
  | some (.inr _), ⟨b, e, hv⟩ => exact ⟨b, e, hv.keep hb⟩
/-- By a list of what each slot is to hold. -/
def Ex (t : List (Nat × (Value ⊕ List Val.Vl))) (d : Nat) (v : Value) (V : World) : Prop := meets (t.lookup d) v V
theorem Ex.keep (t : List (Nat × (Value ⊕ List Val.Vl))) (d : Nat) (v : Value) (w w' : World) (hb : Below w.heap.size w w') (h : Ex t d v w) : Ex t d v w' := meets_keep _ v w w' hb h
theorem at_val {t : List (Nat × (Value ⊕ List Val.Vl))} {d : Nat} {c : Value} {a : Act} {V : World} (h : ∃ v, a.tmps[d]? = some v ∧ Ex t d v V) (ht : t.lookup d = some (.inl c)) : a.tmps[d]? = some c := by
  obtain ⟨v, h1, h2⟩ := h
  unfold Ex at h2
  rw [ht] at h2
  rw [h1]
  exact congrArg some h2
theorem at_sl {t : List (Nat × (Value ⊕ List Val.Vl))} {d : Nat} {l : List Val.Vl} {a : Act} {V : World} (h : ∃ v, a.tmps[d]? = some v ∧ Ex t d v V) (ht : t.lookup d = some (.inr l)) : ∃ b, a.tmps[d]? = some (Val.slV l b) ∧ Val.VSl V l (Val.slV l b) := by
  obtain ⟨v, h1, h2⟩ := h
  unfold Ex at h2
  rw [ht] at h2
  obtain ⟨b, rfl, hv⟩ := h2
  exact ⟨b, h1, hv⟩
theorem Ex.val {t : List (Nat × (Value ⊕ List Val.Vl))} {d : Nat} {c : Value} {V : World} (ht : t.lookup d = some (.inl c)) : Ex t d c V := by unfold Ex; rw [ht]; exact rfl
theorem Ex.sl {t : List (Nat × (Value ⊕ List Val.Vl))} {d : Nat} {l : List Val.Vl} {b : Nat} {V : World} (ht : t.lookup d = some (.inr l)) (h : Val.VSl V l (Val.slV l b)) : Ex t d (Val.slV l b) V := by unfold Ex; rw [ht]; exact ⟨b, rfl, h⟩
end Go.Proofs.YtkniacdfhajogabDoor.Rby
