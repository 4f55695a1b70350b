/-
  Lists of one's own, one of them exchanged; a row with a row that is read behind it.
-/
import Derived.Test.YtdhjedpgdhageaaTwl
import Derived.Test.YtdhjedpgdhageaaLesM
namespace Go.Proofs.Ytdhjedpgdhageaa.Ord
open Go.ChangeShapes Go.WideShapes Go.ChangeAt Go.RowKit Go.Joins
theorem TG.keep {W wr w2 : World} {v : Value} {ys : List Value} {l : List (List Int)} (h : TG W wr v ys l) (hb : Below wr.heap.size wr w2) : TG W w2 v ys l :=
  ⟨own_carry h.own (fun i e => hb.block i (own_lo h.own i e).2), fun i hi => by obtain ⟨y, h1, h2⟩ := h.rows i hi; exact ⟨y, h1, h2.below hb⟩, h.ap, h.below.trans (hb.mono h.below.size)⟩
/-- Lists of which the outer row is one's own. -/
theorem LL.own {W : World} {lo : Nat} {v : Value} {ys : List Value} {l : List (List Int)} (h : W.ownsRow lo 25 1 v l.length ys) (hl : l.length ≤ 17592186044416) (hr : ∀ i, i < l.length → ∃ y, ys[i]? = some y ∧ Rd W W.heap.size y (l.getD i [])) : LL W W.heap.size v l := by
  have hm : maxLen = 9223372036854775807 := rfl
  obtain ⟨h1, ⟨e, e0⟩ | ⟨g, cap, cur, e, hg, hh, hc, hcm, hs, ht⟩⟩ := h
  · exact ⟨none, 0, by rw [e, e0], by omega, ⟨by omega, hl⟩, fun _ => undef, .inl e0, fun i hi => by omega⟩
  · refine ⟨_, cap, e, hc, ⟨by omega, hl⟩, fun i => (ys[i]?).getD undef, .inr ⟨g, 0, rfl, (Array.getElem?_eq_some_iff.1 hh).1, fun i hi => ?_⟩, fun i hi => ?_⟩
    · obtain ⟨y, hy, _⟩ := hr i hi
      show W.cell? ⟨g, 0 + i, none⟩ = some ((ys[i]?).getD undef)
      rw [hy, Nat.zero_add, cell_of_row W g i cur 25 (0, 0) hh]
      rw [← ht, List.getElem?_take, if_pos (by omega)] at hy
      simpa using hy
    · obtain ⟨y, hy, h2⟩ := hr i hi
      show Rd W W.heap.size ((ys[i]?).getD undef) _
      rw [hy]
      exact h2
/-- One of one's own lists is exchanged. -/
theorem TG.put {W wr : World} {v : Value} {ys : List Value} {l : List (List Int)} (h : TG W wr v ys l) (hl : l.length ≤ 1048576) (hr : ∀ k, k < l.length → (l.getD k []).length ≤ 1048576) {g c k : Nat} (hv : v = .slice (some ⟨g, 0, none⟩) l.length c) (hk : k < l.length) {y : Value} {r : List Int} (hy : Rd (wr.setCell ⟨g, k, none⟩ y) (wr.setCell ⟨g, k, none⟩ y).heap.size y r) :
    LL (wr.setCell ⟨g, k, none⟩ y) (wr.setCell ⟨g, k, none⟩ y).heap.size v (l.set k r) ∧ Below W.heap.size W (wr.setCell ⟨g, k, none⟩ y) := by
  have hg : v.ownBlock = some g := by rw [hv]; rfl
  have hb : Below W.heap.size wr (wr.setCell ⟨g, k, none⟩ y) := (mv_cell wr ⟨g, k, none⟩ y).toBelow h.below.size (fun j e => by rw [e]; exact (own_lo h.own g hg).1)
  refine ⟨LL.own (lo := W.heap.size) (ys := ys.set k y) ?_ (by rw [List.length_set]; omega) (fun i hi => ?_), h.below.trans hb⟩
  · rw [List.length_set]
    exact own_set h.own hv y
  · rw [List.length_set] at hi
    by_cases e : k = i
    · subst e
      have e1 : (l.set k r).getD k [] = r := by simp [hk]
      rw [e1]
      exact ⟨y, by simp [h.len, hk], hy⟩
    · obtain ⟨z, h1, h2⟩ := h.rows i hi
      have e1 : (l.set k r).getD i [] = l.getD i [] := by simp [e]
      rw [e1]
      refine ⟨z, by simp [e, h1], ?_⟩
      have h3 : Row (wr.setCell ⟨g, k, none⟩ y) W.heap.size z (l.getD i []) := h2.carry (fun b hb2 => Below.heap_setCell _ _ _ _ (fun e2 => h.off hi h1 hg (by rw [hb2]; exact congrArg some e2)))
      exact h3.rd (by have := hr i hi; omega)
theorem run_none (w : World) (base : Nat) (ty : TypeId) (c : Nat) (v : Value) (l : List Int) (h : Row w base v l) : (Builtin.append_ #[25, 25] ty #[v, .slice none 0 c]).run Try.prog w = .ok v w := by
  obtain ⟨i0, hi, hz0, hz1, hz2⟩ := info_parts inf3
  rcases h.2 with ⟨rfl, h0⟩ | ⟨g, cap, cur, rfl, _, _, hnc, _⟩
  · simp [Builtin.append_, run_underlying Try.underlying25, sizeOf, typeInfo, hi, Builtin.lenOf, Builtin.firstCells]
  · simp [Builtin.append_, run_underlying Try.underlying25, sizeOf, typeInfo, hi, Builtin.lenOf, Builtin.firstCells, hnc, storeCells]
/-- append(s, r...), r a row that is read. -/
theorem wp_append_rd {w : World} {o : Oper} {a : Act} {K : Act → World → Prop} {Q : Exit → Act → World → Prop} (s x : Operand)
    (ho : o.op = .call { callee := .builtin .append, args := #[s, x], argTypes := #[25, 25] }) (base lo : Nat) (v : Value) (l : List Int) (hs : a.eval s = v) (hown : Row w base v l)
    (ao : Option Addr) (c : Nat) (r : List Int) (hx : a.eval x = .slice ao r.length c) (hr : Rd w lo (.slice ao r.length c) r) (hl : l.length ≤ 1048576) (hrl : r.length ≤ 1048576) (hbase : base ≤ w.heap.size)
    (h : ∀ v' w', Row w' base v' (l ++ r) → w.grownBy w' v.ownBlock → (v'.ownBlock = v.ownBlock ∨ v'.ownBlock = some w.heap.size) → K (a.put o.dst v') w') : o.wp Try.prog a w K Q := by
  obtain ⟨i0, hi, hz0, hz1, hz2⟩ := info_parts inf3
  have done : ∀ v' w', (Builtin.append_ #[25, 25] o.type #[v, .slice ao r.length c]).run Try.prog w = .ok v' w' → K (a.put o.dst v') w' → o.wp Try.prog a w K Q := fun v' w' hrun hK => by
    unfold Oper.wp execOp
    simp only [ho, resolve, invoke, builtin, Sem.run_bind, Sem.run_pure, Result.andThen_ok, List.map_toArray, List.map_cons, List.map_nil, hs, hx, hrun]
    exact hK
  cases ao with
  | none =>
    obtain ⟨ao', c', e, _, _, hcs⟩ := hr
    have hr0 : r = [] := hcs.elim id (fun ⟨b, o, e2, _⟩ => by injection e with e1 _ _; rw [e2] at e1; cases e1)
    subst hr0
    exact done v w (run_none w base _ c v l hown) (h v w (by rw [List.append_nil]; exact hown) (World.grownBy.refl _ _) (.inl rfl))
  | some ad =>
    have hnews : ∀ j u, (ints r)[j]? = some u → w.cell? (ad.add j) = some u := fun j u hj => by
      have hjl : j < r.length := by have := (List.getElem?_eq_some_iff.1 hj).1; rwa [ints_len] at this
      obtain ⟨b, o, e, _, hc⟩ := hr.cellAt hjl
      injection e with e
      subst e
      have hadd : (⟨b, o, none⟩ : Addr).add j = ⟨b, o + j, none⟩ := by unfold Addr.add; split <;> simp_all
      rw [hadd, hc]
      rw [ints_get hjl] at hj
      exact hj
    obtain ⟨v', w', hrun, h2, h3, _, h5⟩ := run_append_own_at (P := Try.prog) w base 25 o.type 3 i0 _ 1 8 Try.underlying25 hi hz0 hz1 hz2 rfl (by decide) v l.length (ints l) hown ad r.length c (ints r) (by rw [ints_len]; omega) hnews (by simp [ints, Value.oneCell']) (by unfold maxLen; omega) (by omega) hbase
    refine done v' w' hrun (h v' w' ?_ h3 h5)
    unfold Row
    rw [List.length_append, show ints (l ++ r) = ints l ++ ints r by simp [ints]]
    exact h2
theorem mem_twice (r : List Int) (y : Int) : y ∈ r ++ r ↔ y ∈ r := by simp
end Go.Proofs.Ytdhjedpgdhageaa.Ord
