/-
  The heap: one more number.
-/
import Derived.Test.YtdhjedpgdhageaaDown
namespace Go.Proofs.Ytdhjedpgdhageaa.Ord
open Go.ChangeShapes Go.WideShapes Go.ChangeAt Go.RowKit Go.Joins
abbrev qC (A B M v : Value) : Array Value := #[A, B, M, v]
theorem row4 {W : World} {qb : Nat} {A B M v : Value} (h : W.heap[qb]? = some (.cells (qC A B M v) 45 (0, 0))) : W.cell? ⟨qb, 0, none⟩ = some A ∧ W.cell? ⟨qb, 1, none⟩ = some B ∧ W.cell? ⟨qb, 2, none⟩ = some M ∧ W.cell? ⟨qb, 3, none⟩ = some v ∧ W.frozen? ⟨qb, 3, none⟩ = false := by
  refine ⟨?_, ?_, ?_, ?_, ?_⟩
  · exact (cell_of_row W qb 0 _ 45 (0, 0) h).trans rfl
  · exact (cell_of_row W qb 1 _ 45 (0, 0) h).trans rfl
  · exact (cell_of_row W qb 2 _ 45 (0, 0) h).trans rfl
  · exact (cell_of_row W qb 3 _ 45 (0, 0) h).trans rfl
  · unfold World.frozen?; rw [h]; simp
theorem set3 {W : World} {qb : Nat} {A B M v : Value} (h : W.heap[qb]? = some (.cells (qC A B M v) 45 (0, 0))) (v' : Value) : (W.setCell ⟨qb, 3, none⟩ v').heap[qb]? = some (.cells (qC A B M v') 45 (0, 0)) := by
  rw [heap_setCell_same W qb 3 _ 45 v' h]
  rfl
/-- What one more number makes of the heap's variable. -/
structure Psh (W W' : World) (base qb : Nat) (A B M v : Value) (l : List Int) (v' : Value) (l' : List Int) : Prop where
  row : W'.heap[qb]? = some (.cells (qC A B M v') 45 (0, 0))
  own : Row W' base v' l'
  mv : Mv W W' (fun k => k = qb ∨ v.ownBlock = some k)
  at_ : ∀ g, v'.ownBlock = some g → v.ownBlock = some g ∨ W.heap.size ≤ g
theorem below_drew {B : Nat} {a w : World} (h : Below B a w) : Below B a w.drew := h.trans ⟨rfl, rfl, rfl, Nat.le_refl _, fun _ _ => rfl⟩
theorem psh_done {W W1 w2 : World} {base qb : Nat} {A B M v : Value} {l : List Int} {x : Int} {gg cap : Nat} (hqb : qb < base) (hq : W.heap[qb]? = some (.cells (qC A B M v) 45 (0, 0))) (hR : Row W base v l) (hbs : base ≤ W.heap.size) (hb1 : Below W.heap.size W W1)
    (hown : w2.ownsRow base 3 1 (.slice (some ⟨gg, 0, none⟩) (l.length + 1) cap) (l.length + 1) (ints l ++ [.int .i64 x])) (hgrow : W1.grownBy w2 v.ownBlock) (hat : v.ownBlock = some gg ∨ gg = W.heap.size + 1) :
    w2.cell? ⟨qb, 3, none⟩ = some v ∧ w2.frozen? ⟨qb, 3, none⟩ = false ∧ Psh W (w2.setCell ⟨qb, 3, none⟩ (.slice (some ⟨gg, 0, none⟩) (l.length + 1) cap)) base qb A B M v l (.slice (some ⟨gg, 0, none⟩) (l.length + 1) cap) (l ++ [x]) ∧ base ≤ gg := by
  have hnq : v.ownBlock ≠ some qb := fun e => by have := (hR.lo qb e).1; omega
  have hq2 : w2.heap[qb]? = some (.cells (qC A B M v) 45 (0, 0)) := (hgrow.block qb (Nat.lt_of_lt_of_le (Array.getElem?_eq_some_iff.1 hq).1 hb1.size) (fun e => hnq e.symm)).trans (keep_row hq hb1)
  obtain ⟨_, _, _, h3, h4⟩ := row4 hq2
  have hgg : base ≤ gg := by
    rcases hat with e | e
    · exact (hR.lo gg e).1
    · omega
  refine ⟨h3, h4, ⟨set3 hq2 _, ?_, ?_, ?_⟩, hgg⟩
  · have e1 : (l ++ [x]).length = l.length + 1 := by simp
    have e2 : ints (l ++ [x]) = ints l ++ [.int .i64 x] := by simp [ints]
    unfold Row
    rw [e1, e2]
    exact own_carry hown (fun b hb => Below.heap_setCell _ _ _ _ (fun e => by
      have : gg = b := by simpa [Value.ownBlock] using hb
      have : b = qb := e
      omega))
  · refine ((Mv.ofBelow hb1).trans (S' := fun k => v.ownBlock = some k) (Mv.grown hgrow (fun i hi => .inl hi)) (fun i hi => .inl (.inr hi))).trans (mv_cell w2 ⟨qb, 3, none⟩ _) (fun i hi => .inl (.inl hi))
  · intro g hg
    have : gg = g := by simpa [Value.ownBlock] using hg
    subst this
    rcases hat with e | e
    · exact .inl e
    · exact .inr (by omega)
theorem t_assert (x : Int) (w : World) : Sem.run Try.prog (Instr.typeAssert (.iface 3 (.int .i64 x)) 20 3 false) w = .ok (.int .i64 x) w := by kernel_rfl
set_option maxRecDepth 100000 in
set_option maxHeartbeats 2000000 in
theorem lpush_at (qb base : Nat) (hqb : qb < base) (l : List Int) (A B M v : Value) (W : World) (hq : W.heap[qb]? = some (.cells (qC A B M v) 45 (0, 0))) (hR : Row W base v l) (hbs : base ≤ W.heap.size) (x : Int) (hl : l.length ≤ 1099511627776) :
    Calls Try.prog 45 #[.pointer (some ⟨qb, 3, none⟩), .iface 3 (.int .i64 x)] W fun e w' => e = .returned (.tuple #[]) ∧ ∃ v', Psh W w' base qb A B M v l v' (l ++ [x]) ∧ ∃ g cap, v' = .slice (some ⟨g, 0, none⟩) (l.length + 1) cap ∧ base ≤ g := by
  obtain ⟨i0, hi, hz0, hz1, hz2⟩ := info_parts inf3
  obtain ⟨_, _, _, hc3, hf3⟩ := row4 hq
  have hlq : qb < W.heap.size := by omega
  have ta := t_assert x
  have HQ := hid hq
  have HR := hid hR
  clear hq hR
  go_enter Try.func45, Try.ntmps45
  go_wp2
  go_region_law ((refine step_append_lies _ (by rfl) _ _ _ (by rfl) base 3 i0 _ 1 8 Try.underlying43 hi hz0 hz1 hz2 rfl (by omega) v l.length (ints l) (by rfl) ((World.ownsRow.alloc HR.out _).drew) ⟨W.heap.size, 0, none⟩ 1 1 [.int .i64 x] (by rfl) (by rfl) (World.news_of_block (cs := #[.int .i64 x]) (t := 3) (fr := (0, 0)) (heap_alloc_new W _)) (by simp [Value.oneCell']) (by omega) (by unfold maxLen; omega) (by omega) (by simp; omega) (W.heap.size + 1) (by simp) ?_; intro gg cap w2 hown2 hgrow hat hlt; obtain ⟨hc4, hf4, hP, hgg⟩ := psh_done hqb HQ.out HR.out hbs (below_drew ((Below.refl W.heap.size W).alloc (Nat.le_refl _) (.cells #[.int .i64 x] 3))) hown2 hgrow hat))
  all_goals (go_end0; exact ⟨rfl, _, hP, _, _, rfl, hgg⟩)
set_option maxRecDepth 100000 in
set_option maxHeartbeats 1000000 in
/-- heap.Push. -/
theorem push_at (qb base : Nat) (hqb : qb < base) (l : List Int) (A B M v : Value) (W : World) (hq : W.heap[qb]? = some (.cells (qC A B M v) 45 (0, 0))) (hR : Row W base v l) (hH : Hp l.length l) (hbs : base ≤ W.heap.size) (x : Int) (hl : l.length ≤ 1048576) :
    Calls Try.prog 22 #[.iface 49 (.pointer (some ⟨qb, 3, none⟩)), .iface 3 (.int .i64 x)] W fun e w' => e = .returned (.tuple #[]) ∧ ∃ v' l', Psh W w' base qb A B M v l v' l' ∧ l'.Perm (l ++ [x]) ∧ Hp l'.length l' := by
  have mp := fun w => m_push w qb 3
  have ml := fun w v h => m_len w qb 3 v h
  have HC := hid (lpush_at qb base hqb l A B M v W hq hR hbs x (by omega))
  have HH := hid hH
  have HQ := hid hq
  clear hq hR hH
  go_enter Try.func22, Try.ntmps22
  go_wp2_with (fail)
  refine HC.out.mono ?_
  rintro e w1 ⟨rfl, v', hP, g, cap, rfl, hg⟩
  have HP := hid hP
  have c3 := (row4 hP.row).2.2.2.1
  have ml1 := ml w1 _ c3
  clear hP
  go_wp2_with (fail)
  refine (len_at _ _ _ w1).mono ?_
  rintro e w2 ⟨rfl, rfl⟩
  go_wp2_with (fail)
  have hlen : (l ++ [x]).length = l.length + 1 := by simp
  have hup := up_at qb base hqb (l ++ [x]) g cap w2 (by rw [hlen]; exact HP.out.own) hg (by rw [hlen]; exact c3) l.length (by omega) (Up.start HH.out x) (by omega)
  rw [hlen] at hup
  refine hup.mono ?_
  rintro e w3 ⟨rfl, l', hperm, hl', hHp, hrow, hgr⟩
  have hne : qb ≠ g := by omega
  go_wp2_with (fail)
  go_end0
  refine ⟨rfl, _, l', ⟨(hgr.block qb (Array.getElem?_eq_some_iff.1 HP.out.row).1 (ne_some hne)).trans HP.out.row, ?_, ?_, HP.out.at_⟩, hperm, hHp⟩
  · exact hrow
  · refine HP.out.mv.trans (S' := fun k => k = g) (Mv.grown hgr (fun i hi => .inl (by injection hi with hi; exact hi.symm))) (fun i hi => ?_)
    rw [hi]
    rcases HP.out.at_ g rfl with e | e
    · exact .inl (.inr e)
    · exact .inr e
end Go.Proofs.Ytdhjedpgdhageaa.Ord
