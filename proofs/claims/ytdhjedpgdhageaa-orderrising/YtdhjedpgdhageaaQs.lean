/-
  The queue in memory.
-/
import Derived.Test.YtdhjedpgdhageaaQm
namespace Go.Proofs.Ytdhjedpgdhageaa.Ord
open Go.ChangeShapes Go.WideShapes Go.ChangeAt Go.RowKit Go.Joins
/-- A row of numbers that is read alone: it lies below lo. -/
def Rd (W : World) (lo : Nat) (v : Value) (r : List Int) : Prop := ∃ ao c, v = .slice ao r.length c ∧ r.length ≤ c ∧ (c ≤ 9223372036854775807 ∧ r.length ≤ 17592186044416) ∧ (r = [] ∨ ∃ b o, ao = some ⟨b, o, none⟩ ∧ b < lo ∧ ∀ i, i < r.length → W.cell? ⟨b, o + i, none⟩ = some (.int .i64 (ga r i)))
theorem Rd.keep {W W' : World} {lo : Nat} {v : Value} {r : List Int} (h : Rd W lo v r) (hb : Below lo W W') : Rd W' lo v r := by
  obtain ⟨ao, c, h1, h2, h3, h4⟩ := h
  refine ⟨ao, c, h1, h2, h3, h4.imp id ?_⟩
  rintro ⟨b, o, e, hlt, hc⟩
  exact ⟨b, o, e, hlt, fun i hi => (hb.cell (p := ⟨b, o + i, none⟩) hlt).trans (hc i hi)⟩
theorem Rd.tail {W : World} {lo b o c : Nat} {y : Int} {ys : List Int} (h : Rd W lo (.slice (some ⟨b, o, none⟩) (y :: ys).length c) (y :: ys)) : Rd W lo (.slice (some ⟨b, o + 1, none⟩) ys.length (c - 1)) ys := by
  obtain ⟨ao, c', h1, h2, h3, h4⟩ := h
  injection h1 with e1 _ e3
  subst e3
  have h5 : (y :: ys).length = ys.length + 1 := rfl
  refine ⟨_, c - 1, rfl, by omega, by omega, .inr ?_⟩
  rcases h4 with h4 | ⟨b', o', e, hlt, hc⟩
  · cases h4
  · rw [← e1] at e
    injection e with e
    injection e with e4 e5
    subst e4 e5
    refine ⟨b, o + 1, rfl, hlt, fun i hi => ?_⟩
    have := hc (i + 1) (by omega)
    rw [show o + 1 + i = o + (i + 1) by omega, this]
    simp [ga]
def TL (n : Nat) (t : List Int) : List Bool := (nums n).map fun z => decide (z ∈ t)
theorem TL_len (n : Nat) (t : List Int) : (TL n t).length = n := by simp [TL, nums_len]
theorem TL_get {n : Nat} {t : List Int} {i : Nat} (h : i < n) : (TL n t)[i]? = some (decide ((i : Int) ∈ t)) := by
  unfold TL
  rw [List.getElem?_map, List.getElem?_eq_getElem (by rw [nums_len]; exact h), nums_get h]
  rfl
theorem TL_set {n : Nat} {t : List Int} {x : Nat} : TL n (t ++ [(x : Int)]) = (TL n t).set x true := by
  refine List.ext_getElem? (fun i => ?_)
  by_cases hi : i < n
  · rw [TL_get hi, List.getElem?_set, TL_len, TL_get hi]
    by_cases e : x = i
    · subst e
      simp [hi]
    · rw [if_neg e]
      have : ((i : Int) ∈ t ++ [(x : Int)]) ↔ (i : Int) ∈ t := by
        rw [List.mem_append, List.mem_singleton]
        exact ⟨fun h => h.elim id (fun h => by omega), .inl⟩
      simp only [this]
  · rw [List.getElem?_eq_none (by rw [TL_len]; omega), List.getElem?_eq_none (by rw [List.length_set, TL_len]; omega)]
/-- The blocks of the queue. -/
def own (qb mb : Nat) (lv tv v : Value) (V : Int → Option Sl) (k : Nat) : Prop := k = qb ∨ k = mb ∨ lv.ownBlock = some k ∨ tv.ownBlock = some k ∨ v.ownBlock = some k ∨ ∃ z, (slV (V z)).ownBlock = some k
structure QS (W : World) (lo base qb mb n k : Nat) (lv tv v : Value) (xs : List Value) (t : List Int) (V : Int → Option Sl) (L : List (List Int)) (F : Int → List Int) (R : List Int) : Prop where
  q : W.heap[qb]? = some (.cells (qC lv tv (.map (some mb)) v) 45 (0, 0))
  l : W.ownsRow lo 25 1 lv n xs
  t : W.ownsRow lo 4 1 tv n ((TL n t).map Value.bool)
  m : VMap W mb k V
  r : Row W base v R
  rows : ∀ z, Row W base (slV (V z)) (F z)
  ap : ∀ z z' g, (slV (V z)).ownBlock = some g → (slV (V z')).ownBlock = some g → z = z'
  apv : ∀ z g, (slV (V z)).ownBlock = some g → v.ownBlock ≠ some g
  rd : ∀ i, i < n → ∃ x, xs[i]? = some x ∧ Rd W lo x (L.getD i [])
  lb : ∀ b, lv.ownBlock = some b → b < base ∧ b ≠ qb ∧ b ≠ mb ∧ tv.ownBlock ≠ some b
  tb : ∀ b, tv.ownBlock = some b → b < base ∧ b ≠ qb ∧ b ≠ mb
  qb_ : lo ≤ qb ∧ qb < base
  mb_ : lo ≤ mb ∧ mb < base
  ne : qb ≠ mb
  lob : lo ≤ base ∧ base ≤ W.heap.size
variable {W W' : World} {lo base qb mb n k : Nat} {lv tv v : Value} {xs : List Value} {t : List Int} {V : Int → Option Sl} {L : List (List Int)} {F : Int → List Int} {R : List Int}
theorem QS.own_lo (h : QS W lo base qb mb n k lv tv v xs t V L F R) : ∀ i, own qb mb lv tv v V i → lo ≤ i := fun i hi => by
  rcases hi with e | e | e | e | e | ⟨z, e⟩
  · rw [e]; exact h.qb_.1
  · rw [e]; exact h.mb_.1
  · exact (Ord.own_lo h.l i e).1
  · exact (Ord.own_lo h.t i e).1
  · exact Nat.le_trans h.lob.1 (h.r.lo i e).1
  · exact Nat.le_trans h.lob.1 ((h.rows z).lo i e).1
/-- What turns nothing of the queue's leaves it. -/
theorem QS.keep (h : QS W lo base qb mb n k lv tv v xs t V L F R) {S : Nat → Prop} (hm : Mv W W' S) (hs : ∀ i, S i → ¬ own qb mb lv tv v V i ∧ lo ≤ i) : QS W' lo base qb mb n k lv tv v xs t V L F R where
  q := hm.cellsRow h.q (fun e => (hs _ e).1 (.inl rfl))
  l := own_moved h.l hm (fun b hb e => (hs b e).1 (.inr (.inr (.inl hb))))
  t := own_moved h.t hm (fun b hb e => (hs b e).1 (.inr (.inr (.inr (.inl hb)))))
  m := h.m.block (hm.block mb h.m.lt (fun e => (hs _ e).1 (.inr (.inl rfl))))
  r := h.r.moved hm (fun b hb e => (hs b e).1 (.inr (.inr (.inr (.inr (.inl hb))))))
  rows := fun z => (h.rows z).moved hm (fun b hb e => (hs b e).1 (.inr (.inr (.inr (.inr (.inr ⟨z, hb⟩))))))
  ap := h.ap
  apv := h.apv
  rd := fun i hi => by
    obtain ⟨x, h1, h2⟩ := h.rd i hi
    exact ⟨x, h1, h2.keep (hm.toBelow (Nat.le_trans h.lob.1 h.lob.2) (fun i e => (hs i e).2))⟩
  lb := h.lb
  tb := h.tb
  qb_ := h.qb_
  mb_ := h.mb_
  ne := h.ne
  lob := ⟨h.lob.1, Nat.le_trans h.lob.2 hm.size⟩
theorem QS.below (h : QS W lo base qb mb n k lv tv v xs t V L F R) (hb : Below W.heap.size W W') : QS W' lo base qb mb n k lv tv v xs t V L F R :=
  h.keep (S := fun _ => False) (Mv.ofBelow hb) (fun _ e => e.elim)
/-- One more number that is ready, or one less. -/
theorem QS.pushed (h : QS W lo base qb mb n k lv tv v xs t V L F R) {v' : Value} {R' : List Int} (hp : Psh W W' base qb lv tv (.map (some mb)) v R v' R') : QS W' lo base qb mb n k lv tv v' xs t V L F R' := by
  have hv : ∀ i, v.ownBlock = some i → base ≤ i := fun i e => (h.r.lo i e).1
  refine ⟨hp.row, own_moved h.l hp.mv ?_, own_moved h.t hp.mv ?_, h.m.block (hp.mv.block mb h.m.lt ?_), hp.own, fun z => (h.rows z).moved hp.mv ?_, h.ap, fun z g hz e => ?_, fun i hi => ?_, h.lb, h.tb, h.qb_, h.mb_, h.ne, ⟨h.lob.1, Nat.le_trans h.lob.2 hp.mv.size⟩⟩
  · rintro b hb (e | e)
    · exact (h.lb b hb).2.1 e
    · have := (h.lb b hb).1; have := hv b e; omega
  · rintro b hb (e | e)
    · exact (h.tb b hb).2.1 e
    · have := (h.tb b hb).1; have := hv b e; omega
  · rintro (e | e)
    · exact h.ne e.symm
    · have := h.mb_.2; have := hv mb e; omega
  · rintro b hb (e | e)
    · have := ((h.rows z).lo b hb).1; have := h.qb_.2; omega
    · exact h.apv z b hb e
  · rcases hp.at_ g e with e | e
    · exact h.apv z g hz e
    · have := ((h.rows z).lo g hz).2; omega
  · obtain ⟨x, h1, h2⟩ := h.rd i hi
    refine ⟨x, h1, h2.keep (hp.mv.toBelow (Nat.le_trans h.lob.1 h.lob.2) ?_)⟩
    rintro j (e | e)
    · rw [e]; exact h.qb_.1
    · exact Nat.le_trans h.lob.1 (hv j e)
theorem pushed_own {v' : Value} {R' : List Int} (hp : Psh W W' base qb lv tv (.map (some mb)) v R v' R') : Mv W W' (own qb mb lv tv v V) ∧ ∀ i, own qb mb lv tv v' V i → own qb mb lv tv v V i ∨ W.heap.size ≤ i := by
  refine ⟨hp.mv.mono (fun i hi => .inl ?_), fun i hi => ?_⟩
  · rcases hi with e | e
    · exact .inl e
    · exact .inr (.inr (.inr (.inr (.inl e))))
  · rcases hi with e | e | e | e | e | e
    · exact .inl (.inl e)
    · exact .inl (.inr (.inl e))
    · exact .inl (.inr (.inr (.inl e)))
    · exact .inl (.inr (.inr (.inr (.inl e))))
    · rcases hp.at_ i e with e | e
      · exact .inl (.inr (.inr (.inr (.inr (.inl e)))))
      · exact .inr e
    · exact .inl (.inr (.inr (.inr (.inr (.inr e)))))
/-- A row of one-cell values, one of them exchanged. -/
theorem own_set {e : TypeId} {w : World} {lo n : Nat} {v : Value} {xs : List Value} (h : w.ownsRow lo e 1 v n xs) {b c i : Nat} (hv : v = .slice (some ⟨b, 0, none⟩) n c) (x : Value) : (w.setCell ⟨b, i, none⟩ x).ownsRow lo e 1 v n (xs.set i x) := by
  obtain ⟨h1, ⟨h2, _⟩ | ⟨g, cap, cur, e2, hg, hr, hc, hm, hs, ht⟩⟩ := h
  · rw [h2] at hv; cases hv
  · rw [hv] at e2
    injection e2 with e3 _ e4
    injection e3 with e3
    injection e3 with e3
    subst e3 e4
    refine ⟨by rw [List.length_set]; exact h1, .inr ⟨b, c, cur.setIfInBounds i x, hv, hg, heap_setCell_same w b i cur e x hr, hc, hm, by simpa using hs, ?_⟩⟩
    rw [← ht]
    simp [List.take_set]
theorem own_cell {e : TypeId} {w : World} {lo n : Nat} {v : Value} {xs : List Value} (h : w.ownsRow lo e 1 v n xs) {i : Nat} (hi : i < n) {x : Value} (hx : xs[i]? = some x) : ∃ b c, v = .slice (some ⟨b, 0, none⟩) n c ∧ n ≤ c ∧ w.cell? ⟨b, i, none⟩ = some x ∧ w.frozen? ⟨b, i, none⟩ = false := by
  obtain ⟨h1, ⟨_, h2⟩ | ⟨g, cap, cur, e2, hg, hr, hc, hm, hs, ht⟩⟩ := h
  · omega
  · refine ⟨g, cap, e2, hc, ?_, ?_⟩
    · rw [cell_of_row w g i cur e (0, 0) hr]
      rw [← ht, List.getElem?_take, if_pos (by omega)] at hx
      simpa using hx
    · unfold World.frozen?
      rw [hr]
      simp
/-- What is left of one list is put in its place. -/
theorem QS.stored (h : QS W lo base qb mb n k lv tv v xs t V L F R) {b c i : Nat} (hv : lv = .slice (some ⟨b, 0, none⟩) n c) (hi : i < n) (hL : n ≤ L.length) {x : Value} {r : List Int} (hx : Rd W lo x r) : QS (W.setCell ⟨b, i, none⟩ x) lo base qb mb n k lv tv v (xs.set i x) t V (L.set i r) F R := by
  have hb : lv.ownBlock = some b := by rw [hv]; rfl
  have hm := mv_cell W ⟨b, i, none⟩ x
  have hm' : Mv W (W.setCell ⟨b, i, none⟩ x) (· = b) := hm
  obtain ⟨b1, b2, b3, b4⟩ := h.lb b hb
  have hlo := (Ord.own_lo h.l b hb).1
  have hbel : Below lo W (W.setCell ⟨b, i, none⟩ x) := hm'.toBelow (Nat.le_trans h.lob.1 h.lob.2) (fun j e => by rw [e]; exact hlo)
  refine ⟨hm'.cellsRow h.q (fun e => b2 e.symm), own_set h.l hv x, own_moved h.t hm' (fun j hj e => b4 (e ▸ hj)), h.m.block (hm'.block mb h.m.lt (fun e => b3 e.symm)), h.r.moved hm' (fun j hj e => by have := (h.r.lo j hj).1; omega), fun z => (h.rows z).moved hm' (fun j hj e => by have := ((h.rows z).lo j hj).1; omega), h.ap, h.apv, fun j hj => ?_, h.lb, h.tb, h.qb_, h.mb_, h.ne, ⟨h.lob.1, Nat.le_trans h.lob.2 hm'.size⟩⟩
  have hxl : xs.length = n := by have := h.l.1; omega
  by_cases e : i = j
  · subst e
    refine ⟨x, ?_, ?_⟩
    · simp [hxl, hi]
    · have : (L.set i r).getD i [] = r := by simp [show i < L.length by omega]
      rw [this]
      exact hx.keep hbel
  · obtain ⟨y, h1, h2⟩ := h.rd j hj
    refine ⟨y, by simp [e, h1], ?_⟩
    have : (L.set i r).getD j [] = L.getD j [] := by simp [e]
    rw [this]
    exact h2.keep hbel
theorem stored_own {b c i : Nat} (hv : lv = .slice (some ⟨b, 0, none⟩) n c) (x : Value) : Mv W (W.setCell ⟨b, i, none⟩ x) (own qb mb lv tv v V) :=
  (mv_cell W ⟨b, i, none⟩ x).mono (fun j e => .inl (.inr (.inr (.inl (by rw [hv]; exact congrArg some (Eq.symm e))))))
/-- One more that waits. -/
theorem QS.waited {wa wb : World} (h : QS W lo base qb mb n k lv tv v xs t V L F R) {y x : Int} {g cap : Nat}
    (hgr : W.grownBy wa (slV (V y)).ownBlock) (how : wa.ownsRow base 3 1 (.slice (some ⟨g, 0, none⟩) ((F y).length + 1) cap) ((F y).length + 1) (ints (F y) ++ [.int .i64 x])) (hat : (slV (V y)).ownBlock = some g ∨ W.heap.size ≤ g)
    (hm2 : VMap wb mb (k + 1) (fun u => if u = y then some ⟨g, (F y).length + 1, cap⟩ else V u)) (hg2 : wa.grownBy wb (some mb)) :
    QS wb lo base qb mb n (k + 1) lv tv v xs t (fun u => if u = y then some ⟨g, (F y).length + 1, cap⟩ else V u) L (upF F y x) R ∧ Mv W wb (own qb mb lv tv v V) ∧ ∀ i, own qb mb lv tv v (fun u => if u = y then some ⟨g, (F y).length + 1, cap⟩ else V u) i → own qb mb lv tv v V i ∨ W.heap.size ≤ i := by
  have hm1 : Mv W wb (fun i => (slV (V y)).ownBlock = some i ∨ i = mb) := (Mv.grown (S := fun i => (slV (V y)).ownBlock = some i ∨ i = mb) hgr (fun i e => .inl (.inl e))).trans (S' := (· = mb)) (Mv.grown hg2 (fun i e => .inl (by injection e with e; exact e.symm))) (fun i e => .inl (.inr e))
  have hyb : ∀ i, (slV (V y)).ownBlock = some i → base ≤ i := fun i e => ((h.rows y).lo i e).1
  have hgb : base ≤ g ∧ g < wa.heap.size := Ord.own_lo how g rfl
  have hgw : g ≠ mb := by have := h.mb_.2; omega
  have hnew : Row wb base (.slice (some ⟨g, 0, none⟩) ((F y).length + 1) cap) (F y ++ [x]) := by
    have e1 : (F y ++ [x]).length = (F y).length + 1 := by simp
    have e2 : ints (F y ++ [x]) = ints (F y) ++ [.int .i64 x] := by simp [ints]
    unfold Row
    rw [e1, e2]
    exact own_carry how (fun i hi => hg2.block i (Ord.own_lo how i hi).2 (fun e => by
      have h1 : g = i := by simpa [Value.ownBlock] using hi
      injection e with e
      omega))
  have hoff : ∀ z, z ≠ y → ∀ i, (slV (V z)).ownBlock = some i → i ≠ g ∧ ¬ ((slV (V y)).ownBlock = some i ∨ i = mb) := fun z hz i hi => by
    have hb := (h.rows z).lo i hi
    refine ⟨fun e => ?_, ?_⟩
    · subst e
      rcases hat with e | e
      · exact hz (h.ap z y i hi e)
      · omega
    · rintro (e | e)
      · exact hz (h.ap z y i hi e)
      · have := h.mb_.2; omega
  refine ⟨⟨hm1.cellsRow h.q ?_, own_moved h.l hm1 ?_, own_moved h.t hm1 ?_, hm2, h.r.moved hm1 ?_, fun z => ?_, fun z z' i hz hz' => ?_, fun z i hz e => ?_, fun i hi => ?_, h.lb, h.tb, h.qb_, h.mb_, h.ne, ⟨h.lob.1, Nat.le_trans h.lob.2 hm1.size⟩⟩, hm1.mono (fun i e => .inl ?_), fun i e => ?_⟩
  · rintro (e | e)
    · have := hyb _ e; have := h.qb_.2; omega
    · exact h.ne e
  · rintro i hi (e | e)
    · have := hyb _ e; have := (h.lb i hi).1; omega
    · exact (h.lb i hi).2.2.1 e
  · rintro i hi (e | e)
    · have := hyb _ e; have := (h.tb i hi).1; omega
    · exact (h.tb i hi).2.2 e
  · rintro i hi (e | e)
    · exact h.apv y i e hi
    · have := (h.r.lo i hi).1; have := h.mb_.2; omega
  · by_cases e : z = y
    · have e1 : upF F y x z = F y ++ [x] := by unfold upF; rw [if_pos e, e]
      rw [e1]
      simp only [if_pos e]
      exact hnew
    · have e1 : upF F y x z = F z := by unfold upF; rw [if_neg e]
      rw [e1]
      simp only [if_neg e]
      exact (h.rows z).moved hm1 (fun i hi => (hoff z e i hi).2)
  · by_cases e : z = y
    · by_cases e' : z' = y
      · rw [e, e']
      · simp only [if_pos e] at hz
        simp only [if_neg e'] at hz'
        have h1 : g = i := by simpa [slV, Value.ownBlock] using hz
        exact ((hoff z' e' i hz').1 h1.symm).elim
    · simp only [if_neg e] at hz
      by_cases e' : z' = y
      · simp only [if_pos e'] at hz'
        have h1 : g = i := by simpa [slV, Value.ownBlock] using hz'
        exact ((hoff z e i hz).1 h1.symm).elim
      · simp only [if_neg e'] at hz'
        exact h.ap z z' i hz hz'
  · by_cases ez : z = y
    · simp only [if_pos ez] at hz
      have h1 : g = i := by simpa [slV, Value.ownBlock] using hz
      subst h1
      rcases hat with e2 | e2
      · exact h.apv y g e2 e
      · have := (h.r.lo g e).2; omega
    · simp only [if_neg ez] at hz
      exact h.apv z i hz e
  · obtain ⟨u, h1, h2⟩ := h.rd i hi
    refine ⟨u, h1, h2.keep (hm1.toBelow (Nat.le_trans h.lob.1 h.lob.2) ?_)⟩
    rintro j (e | e)
    · exact Nat.le_trans h.lob.1 (hyb j e)
    · rw [e]; exact h.mb_.1
  · rcases e with e | e
    · exact .inr (.inr (.inr (.inr (.inr ⟨y, e⟩))))
    · exact .inr (.inl e)
  · rcases e with e | e | e | e | e | ⟨z, e⟩
    · exact .inl (.inl e)
    · exact .inl (.inr (.inl e))
    · exact .inl (.inr (.inr (.inl e)))
    · exact .inl (.inr (.inr (.inr (.inl e))))
    · exact .inl (.inr (.inr (.inr (.inr (.inl e)))))
    · by_cases ez : z = y
      · simp only [if_pos ez] at e
        have h1 : g = i := by simpa [slV, Value.ownBlock] using e
        subst h1
        rcases hat with e2 | e2
        · exact .inl (.inr (.inr (.inr (.inr (.inr ⟨y, e2⟩)))))
        · exact .inr e2
      · simp only [if_neg ez] at e
        exact .inl (.inr (.inr (.inr (.inr (.inr ⟨z, e⟩)))))
end Go.Proofs.Ytdhjedpgdhageaa.Ord
