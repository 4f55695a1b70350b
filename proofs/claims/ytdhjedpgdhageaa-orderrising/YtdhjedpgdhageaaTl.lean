/-
  The queue: a number is told, a key is taken away.
-/
import Derived.Test.YtdhjedpgdhageaaNq
namespace Go.Proofs.Ytdhjedpgdhageaa.Ord
open Go.ChangeShapes Go.WideShapes Go.ChangeAt Go.RowKit Go.Joins
variable {W W' : World} {lo base qb mb n k : Nat} {lv tv v : Value} {xs : List Value} {t : List Int} {V : Int → Option Sl} {L : List (List Int)} {F : Int → List Int} {R : List Int}
theorem QS.tell (h : QS W lo base qb mb n k lv tv v xs t V L F R) {b c x : Nat} (hv : tv = .slice (some ⟨b, 0, none⟩) n c) : QS (W.setCell ⟨b, x, none⟩ (.bool true)) lo base qb mb n k lv tv v xs (t ++ [(x : Int)]) V L F R ∧ Mv W (W.setCell ⟨b, x, none⟩ (.bool true)) (own qb mb lv tv v V) := by
  have hb : tv.ownBlock = some b := by rw [hv]; rfl
  have hm : Mv W (W.setCell ⟨b, x, none⟩ (.bool true)) (· = b) := mv_cell W ⟨b, x, none⟩ _
  obtain ⟨b1, b2, b3⟩ := h.tb b hb
  have hlo := (Ord.own_lo h.t b hb).1
  have hbel : Below lo W (W.setCell ⟨b, x, none⟩ (.bool true)) := hm.toBelow (Nat.le_trans h.lob.1 h.lob.2) (fun j e => by rw [e]; exact hlo)
  refine ⟨⟨hm.cellsRow h.q (fun e => b2 e.symm), own_moved h.l hm (fun j hj e => (h.lb j hj).2.2.2 (e ▸ hb)), ?_, h.m.block (hm.block mb h.m.lt (fun e => b3 e.symm)), h.r.moved hm (fun j hj e => by have := (h.r.lo j hj).1; omega), fun z => (h.rows z).moved hm (fun j hj e => by have := ((h.rows z).lo j hj).1; omega), h.ap, h.apv, fun j hj => ?_, h.lb, h.tb, h.qb_, h.mb_, h.ne, ⟨h.lob.1, Nat.le_trans h.lob.2 hm.size⟩⟩, hm.mono (fun i e => .inl (.inr (.inr (.inr (.inl (by rw [e]; exact hb))))))⟩
  · have := own_set (i := x) h.t hv (.bool true)
    rw [TL_set, List.map_set]
    exact this
  · obtain ⟨y, h1, h2⟩ := h.rd j hj
    exact ⟨y, h1, h2.keep hbel⟩
theorem QS.dropped (h : QS W lo base qb mb n k lv tv v xs t V L F R) {x : Int} (hV : VMap W' mb k (fun u => if u = x then none else V u)) (hm : Mv W W' (· = mb)) : QS W' lo base qb mb n k lv tv v xs t (fun u => if u = x then none else V u) L (clrF F x) R ∧ Mv W W' (own qb mb lv tv v V) ∧ ∀ i, own qb mb lv tv v (fun u => if u = x then none else V u) i → own qb mb lv tv v V i := by
  have hbel : Below lo W W' := hm.toBelow (Nat.le_trans h.lob.1 h.lob.2) (fun j e => by rw [e]; exact h.mb_.1)
  have hoff : ∀ z g, (slV (if z = x then none else V z)).ownBlock = some g → z ≠ x ∧ (slV (V z)).ownBlock = some g := fun z g e => by
    by_cases ez : z = x
    · rw [if_pos ez] at e; cases e
    · rw [if_neg ez] at e; exact ⟨ez, e⟩
  refine ⟨⟨hm.cellsRow h.q (fun e => h.ne e), own_moved h.l hm (fun j hj e => (h.lb j hj).2.2.1 e), own_moved h.t hm (fun j hj e => (h.tb j hj).2.2 e), hV, h.r.moved hm (fun j hj e => by have h1 := (h.r.lo j hj).1; have h2 := h.mb_.2; omega), fun z => ?_, fun z z' g e e' => h.ap z z' g (hoff z g e).2 (hoff z' g e').2, fun z g e => h.apv z g (hoff z g e).2, fun j hj => ?_, h.lb, h.tb, h.qb_, h.mb_, h.ne, ⟨h.lob.1, Nat.le_trans h.lob.2 hm.size⟩⟩, hm.mono (fun i e => .inl (.inr (.inl e))), fun i e => ?_⟩
  · show Row W' base (slV (if z = x then none else V z)) (if z = x then [] else F z)
    by_cases e : z = x
    · rw [if_pos e, if_pos e]; exact Row.none0 _ _
    · rw [if_neg e, if_neg e]
      exact (h.rows z).moved hm (fun j hj e => by have h1 := ((h.rows z).lo j hj).1; have h2 := h.mb_.2; omega)
  · obtain ⟨y, h1, h2⟩ := h.rd j hj
    exact ⟨y, h1, h2.keep hbel⟩
  · rcases e with e | e | e | e | e | ⟨z, e⟩
    · exact .inl e
    · exact .inr (.inl e)
    · exact .inr (.inr (.inl e))
    · exact .inr (.inr (.inr (.inl e)))
    · exact .inr (.inr (.inr (.inr (.inl e))))
    · exact .inr (.inr (.inr (.inr (.inr ⟨z, (hoff z i e).2⟩))))
/-- Between two numbers: what was told, what is kept. -/
structure TI (W wr : World) (l : List (List Int)) (base qb mb : Nat) (lv tv lr : Value) (t : List Int) : Prop where
  ex : ∃ k v xs V L F R, QS wr W.heap.size base qb mb l.length k lv tv v xs t V L F R ∧ QI l t R [] F L ∧ Hp R.length R ∧ k ≤ l.length + l.length * t.length ∧ ∀ g, lr.ownBlock = some g → ¬ own qb mb lv tv v V g
  row : Row wr base lr t
  below : Below W.heap.size W wr
  ord : t = ordN l t.length
/-- While those that waited for one are put. -/
structure TJ (W wr : World) (l : List (List Int)) (base qb mb : Nat) (lv tv lr : Value) (t : List Int) (x : Nat) (s : Option Sl) (P0 : List Int) (k0 j : Nat) : Prop where
  ex : ∃ v xs V L F R, QS wr W.heap.size base qb mb l.length (k0 + j) lv tv v xs t V L F R ∧ QI l t R (P0.drop j) (clrF F (x : Int)) L ∧ Hp R.length R ∧ V (x : Int) = s ∧ F (x : Int) = P0 ∧ ∀ g, lr.ownBlock = some g → ¬ own qb mb lv tv v V g
  row : Row wr base lr t
  below : Below W.heap.size W wr
theorem ta_more {W0 w2 wA w3 : World} {l : List (List Int)} {tb tc xn lg lcap : Nat} {lr : Value} (hQ : QS w2 W0.heap.size base qb mb l.length k lv (.slice (some ⟨tb, 0, none⟩) l.length tc) v xs t V L F R) (hxn : xn < l.length) (hn : l.length ≤ 1048576) (hqi : QI l (t ++ [(xn : Int)]) R (F (xn : Int)) (clrF F (xn : Int)) L) (hH : Hp R.length R)
    (hR : Row w2 base lr t) (hap : ∀ g, lr.ownBlock = some g → ¬ own qb mb lv (.slice (some ⟨tb, 0, none⟩) l.length tc) v V g) (hb : Below W0.heap.size W0 w2) (hal : w2.grownBy wA lr.ownBlock) (hgr : wA.grownBy w3 lr.ownBlock)
    (hown : w3.ownsRow base 3 1 (.slice (some ⟨lg, 0, none⟩) (t.length + 1) lcap) (t.length + 1) (ints t ++ [.int .i64 (xn : Int)])) (hat : lr.ownBlock = some lg ∨ lg = w2.heap.size + 1) :
    (w3.cell? ⟨qb, 1, none⟩ = some (.slice (some ⟨tb, 0, none⟩) l.length tc) ∧ w3.cell? ⟨tb, xn, none⟩ = some (.bool (decide ((xn : Int) ∈ t))) ∧ w3.frozen? ⟨tb, xn, none⟩ = false) ∧
    (w3.setCell ⟨tb, xn, none⟩ (.bool true)).cell? ⟨qb, 2, none⟩ = some (.map (some mb)) ∧
    (∃ ga gc, slV (V (xn : Int)) = .slice ga (F (xn : Int)).length gc ∧ (Instr.lookup 42 (.map (some mb)) (.int .i64 (xn : Int)) false).run Try.prog (w3.setCell ⟨tb, xn, none⟩ (.bool true)) = .ok (.slice ga (F (xn : Int)).length gc) (w3.setCell ⟨tb, xn, none⟩ (.bool true))) ∧
    TJ W0 (w3.setCell ⟨tb, xn, none⟩ (.bool true)) l base qb mb lv (.slice (some ⟨tb, 0, none⟩) l.length tc) (.slice (some ⟨lg, 0, none⟩) (t.length + 1) lcap) (t ++ [(xn : Int)]) xn (V (xn : Int)) (F (xn : Int)) k 0 := by
  have hall : w2.grownBy w3 lr.ownBlock := hal.trans hgr
  have hlo : ∀ i, lr.ownBlock = some i → W0.heap.size ≤ i := fun i e => Nat.le_trans hQ.lob.1 (hR.lo i e).1
  have hm3 : Mv w2 w3 (fun i => lr.ownBlock = some i) := Mv.grown hall (fun i e => .inl e)
  have hQ3 := hQ.keep hm3 (fun i e => ⟨hap i e, hlo i e⟩)
  have hgb : base ≤ lg ∧ lg < w3.heap.size := Ord.own_lo hown lg rfl
  have hR3 : Row w3 base (.slice (some ⟨lg, 0, none⟩) (t.length + 1) lcap) (t ++ [(xn : Int)]) := by
    have e1 : (t ++ [(xn : Int)]).length = t.length + 1 := by simp
    have e2 : ints (t ++ [(xn : Int)]) = ints t ++ [.int .i64 (xn : Int)] := by simp [ints]
    unfold Row
    rw [e1, e2]
    exact hown
  have hap3 : ∀ g, (Value.slice (some ⟨lg, 0, none⟩) (t.length + 1) lcap).ownBlock = some g → ¬ own qb mb lv (.slice (some ⟨tb, 0, none⟩) l.length tc) v V g := fun g e h => by
    have hg : lg = g := by simpa [Value.ownBlock] using e
    subst hg
    rcases hat with e2 | e2
    · exact hap lg e2 h
    · have hlt : lg < w2.heap.size := by
        rcases h with h | h | h | h | h | ⟨z, h⟩
        · rw [h]; exact Nat.lt_of_lt_of_le hQ.qb_.2 hQ.lob.2
        · rw [h]; exact Nat.lt_of_lt_of_le hQ.mb_.2 hQ.lob.2
        · exact (Ord.own_lo hQ.l lg h).2
        · exact (Ord.own_lo hQ.t lg h).2
        · exact (hQ.r.lo lg h).2
        · exact ((hQ.rows z).lo lg h).2
      omega
  obtain ⟨b', c', e', _, hct, hft⟩ := own_cell (i := xn) hQ3.t hxn (x := .bool (decide ((xn : Int) ∈ t))) (by rw [List.getElem?_map, TL_get hxn]; rfl)
  injection e' with e'
  injection e' with e'
  injection e' with e'
  subst e'
  obtain ⟨hQ4, hM4⟩ := hQ3.tell (x := xn) (b := tb) (c := tc) rfl
  obtain ⟨ga, gc, hform⟩ := own_form (hQ4.rows (xn : Int))
  refine ⟨⟨(row4 hQ3.q).2.1, hct, hft⟩, (row4 hQ4.q).2.2.1, ⟨ga, gc, hform, ?_⟩, ⟨⟨v, xs, V, L, F, R, hQ4, hqi, hH, rfl, rfl, hap3⟩, hR3.moved hM4 hap3, (hb.trans (hm3.toBelow hb.size hlo)).trans (hM4.toBelow (Nat.le_trans hb.size hm3.size) hQ3.own_lo)⟩⟩
  rw [← hform]
  exact hQ4.m.look (by omega) (by omega)
theorem drop_cons {P : List Int} {j : Nat} (h : j < P.length) : P.drop j = ga P j :: P.drop (j + 1) := by
  rw [List.drop_eq_getElem_cons h, ga_lt h]
/-- One of those that waited is put. -/
theorem TJ.step {W0 wr w2 : World} {l : List (List Int)} {lr : Value} {x zn k0 j : Nat} {s : Option Sl} {P0 : List Int} {v' : Value} {xs' : List Value} {V' : Int → Option Sl} {F' : Int → List Int} {R' : List Int}
    (hrow : Row wr base lr t) (hb : Below W0.heap.size W0 wr) (hQ : QS wr W0.heap.size base qb mb l.length (k0 + j) lv tv v xs t V L F R) (hqi : QI l t R ((zn : Int) :: P0.drop (j + 1)) (clrF F (x : Int)) L) (hx : (x : Int) ∈ t) (hV : V (x : Int) = s) (hF : F (x : Int) = P0)
    (hap : ∀ g, lr.ownBlock = some g → ¬ own qb mb lv tv v V g) (hE : PutE wr w2 W0.heap.size base qb mb l.length (k0 + j) lv tv v t V L F R zn v' xs' V' F' R') : TJ W0 w2 l base qb mb lv tv lr t x s P0 k0 (j + 1) := by
  have hne : ∀ y ys, dropT t (L.getD zn []) = y :: ys → y ≠ (x : Int) := fun y ys e e2 => drop_head e (e2 ▸ hx)
  refine ⟨⟨v', xs', V', _, F', R', hE.s, hqi.put ?_ ?_, hE.hp, by rw [hE.told _ hx, hV], ?_, fun g e h => ?_⟩, hrow.moved hE.mv hap, hb.trans (hE.mv.toBelow hb.size hQ.own_lo)⟩
  · intro e
    obtain ⟨h1, h2⟩ := hE.ready e
    exact ⟨h1, by rw [h2]⟩
  · intro y ys e
    obtain ⟨h1, h2⟩ := hE.wait y ys e
    exact ⟨h1, by rw [h2, clr_up (hne y ys e)]⟩
  · cases hd : dropT t (L.getD zn []) with
    | nil => rw [(hE.ready hd).2, hF]
    | cons y ys =>
      rw [(hE.wait y ys hd).2]
      unfold upF
      rw [if_neg (Ne.symm (hne y ys hd)), hF]
  · rcases hE.own g h with h2 | h2
    · exact hap g e h2
    · have := (hrow.lo g e).2; omega
/-- All of them are put, and their key is taken away. -/
theorem TJ.done {W0 wr w2 : World} {l : List (List Int)} {lr : Value} {x k0 : Nat} {P0 t0 : List Int} (ht : t = t0 ++ [(x : Int)]) (hord : t0 = ordN l t0.length) (hnx : nxt l t0 = some (x : Int)) (hk : k0 ≤ l.length + l.length * t0.length) (hP : P0.length ≤ l.length)
    (hrow : Row wr base lr t) (hb : Below W0.heap.size W0 wr) (hQ : QS wr W0.heap.size base qb mb l.length (k0 + P0.length) lv tv v xs t V L F R) (hqi : QI l t R (P0.drop P0.length) (clrF F (x : Int)) L) (hH : Hp R.length R)
    (hap : ∀ g, lr.ownBlock = some g → ¬ own qb mb lv tv v V g) (hV : VMap w2 mb (k0 + P0.length) (fun u => if u = (x : Int) then none else V u)) (hm : Mv wr w2 (· = mb)) : TI W0 w2 l base qb mb lv tv lr t := by
  obtain ⟨h1, h2, h3⟩ := hQ.dropped hV hm
  rw [List.drop_length] at hqi
  refine ⟨⟨k0 + P0.length, v, xs, _, L, _, R, h1, hqi, hH, ?_, fun g e h => hap g e (h3 g h)⟩, hrow.moved h2 hap, hb.trans (h2.toBelow hb.size hQ.own_lo), ?_⟩
  · have e : t.length = t0.length + 1 := by rw [ht]; simp
    rw [e, Nat.mul_add]
    omega
  · have e : t.length = t0.length + 1 := by rw [ht]; simp
    rw [e]
    show t = stp l (ordN l t0.length)
    rw [← hord, stp_some hnx]
    exact ht
end Go.Proofs.Ytdhjedpgdhageaa.Ord
