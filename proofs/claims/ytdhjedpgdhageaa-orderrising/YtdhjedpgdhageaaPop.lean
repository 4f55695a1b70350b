/-
  The heap: the least number is taken.
-/
import Derived.Test.YtdhjedpgdhageaaPsh
namespace Go.Proofs.Ytdhjedpgdhageaa.Ord
open Go.ChangeShapes Go.WideShapes Go.ChangeAt Go.RowKit Go.Joins
theorem Row.cut {W : World} {base g c : Nat} {l : List Int} (h : Row W base (.slice (some ⟨g, 0, none⟩) l.length c) l) {n : Nat} (hl : l.length = n + 1) : Row W base (.slice (some ⟨g, 0, none⟩) n c) (l.take n) := by
  obtain ⟨g', cap, cur, e, hg, hr, hc, hm, hs, ht⟩ := h.full (by omega)
  injection e with e1 _ e3
  injection e1 with e1
  injection e1 with e1
  subst e1 e3
  have e : (l.take n).length = n := by simp; omega
  have := Row.make (l := l.take n) hg hr (by omega) hm hs (by
    rw [e]
    have h2 : cur.toList.take n = (cur.toList.take l.length).take n := by rw [List.take_take]; congr 1; omega
    rw [h2, ht]
    simp [ints, List.map_take])
  rw [e] at this
  exact this
set_option maxRecDepth 100000 in
set_option maxHeartbeats 1000000 in
theorem lpop_at (qb base : Nat) (hqb : qb < base) (l : List Int) (A B M : Value) (g c n : Nat) (W : World) (hq : W.heap[qb]? = some (.cells (qC A B M (.slice (some ⟨g, 0, none⟩) l.length c)) 45 (0, 0))) (hR : Row W base (.slice (some ⟨g, 0, none⟩) l.length c) l) (hl : l.length = n + 1) (hc : l.length ≤ c) (hn : n ≤ 1099511627776) (hgb : base ≤ g) :
    Calls Try.prog 44 #[.pointer (some ⟨qb, 3, none⟩)] W fun e w' => e = .returned (.iface 3 (.int .i64 (ga l n))) ∧ Psh W w' base qb A B M (.slice (some ⟨g, 0, none⟩) l.length c) l (.slice (some ⟨g, 0, none⟩) n c) (l.take n) := by
  obtain ⟨_, _, _, hc3, hf3⟩ := row4 hq
  have hcell := (hR.cell (i := n) (by omega)).1
  have HR := hid hR
  have HQ := hid hq
  have HL := hid hl
  rw [hl] at hc3
  clear hq hR
  go_enter Try.func44, Try.ntmps44
  go_wp2_with (fail)
  go_ret
  refine ⟨rfl, set3 HQ.out _, ?_, ?_, ?_⟩
  · refine (HR.out.cut HL.out).carry (fun b hb => Below.heap_setCell _ _ _ _ (fun e => ?_))
    have h1 : g = b := by simpa [Value.ownBlock] using hb
    have h2 : b = qb := e
    omega
  · exact (mv_cell W ⟨qb, 3, none⟩ _).mono (fun i hi => .inl (.inl hi))
  · intro b hb
    exact .inl hb
theorem take_last {l : List Int} {n : Nat} (h : l.length = n + 1) : l.take n ++ [ga l n] = l := by
  have h1 : l = l.take n ++ l.drop n := (List.take_append_drop n l).symm
  have h2 : l.drop n = [ga l n] := by
    rw [List.drop_eq_getElem_cons (by omega), ga_lt (by omega)]
    rw [List.drop_eq_nil_of_le (by omega)]
  rw [h2] at h1
  exact h1.symm
set_option maxRecDepth 100000 in
set_option maxHeartbeats 1000000 in
/-- heap.Pop. -/
theorem pop_at (qb base : Nat) (hqb : qb < base) (l : List Int) (A B M v : Value) (W : World) (hq : W.heap[qb]? = some (.cells (qC A B M v) 45 (0, 0))) (hR : Row W base v l) (hH : Hp l.length l) (h0 : 0 < l.length) (hl : l.length ≤ 1048576) :
    Calls Try.prog 21 #[.iface 49 (.pointer (some ⟨qb, 3, none⟩))] W fun e w' => ∃ x v' l', e = .returned (.iface 3 (.int .i64 x)) ∧ Psh W w' base qb A B M v l v' l' ∧ (l' ++ [x]).Perm l ∧ Hp l'.length l' ∧ ∀ y ∈ l, x ≤ y := by
  obtain ⟨g, c, cur, rfl, hg, hr, hcap, hm, hs, ht⟩ := hR.full h0
  clear hr hs ht cur
  obtain ⟨n, hn⟩ : ∃ n, l.length = n + 1 := ⟨l.length - 1, by omega⟩
  have hpop := fun w => m_pop w qb 3
  have ml := m_len W qb 3 _ (row4 hq).2.2.2.1
  have msw := m_swap W qb 3 _ (row4 hq).2.2.2.1
  have c0 := (hR.cell (i := 0) (by omega)).1
  have f0 := (hR.cell (i := 0) (by omega)).2
  have cn := (hR.cell (i := n) (by omega)).1
  have fn := (hR.cell (i := n) (by omega)).2
  have HQ := hid hq
  have HR := hid hR
  have HH := hid hH
  have HN := hid hn
  clear hq hR hH
  go_enter Try.func21, Try.ntmps21
  go_wp2_with (fail)
  refine (len_at _ _ _ W).mono ?_
  rintro e w1 ⟨rfl, rfl⟩
  go_wp2_with (fail)
  have hs := swap_at g c (n + 1) w1 _ _ 0 n (by omega) (by omega) (by omega) c0 cn f0 fn
  rw [show ((0 : Nat) : Int) = 0 from rfl] at hs
  refine hs.mono ?_
  rintro e w2 ⟨rfl, q, rfl⟩
  have HW := hid (HR.out.swap (i := 0) (j := n) (by omega) q)
  generalize (((w1.setCell ⟨g, 0, none⟩ (.int .i64 (ga l n))).setCell ⟨g, n, none⟩ (.int .i64 (ga l 0))).drewN q) = w3 at *
  have HQ3 := hid ((HW.out.2.block qb (Array.getElem?_eq_some_iff.1 HQ.out).1 (ne_some (by omega))).trans HQ.out)
  have hsl : (sw l 0 n).length = n + 1 := by rw [sw_len]; exact hn
  have hd := down_at qb base hqb (sw l 0 n) g c w3 (by rw [sw_len]; exact HW.out.1) hg (by rw [sw_len]; exact (row4 HQ3.out).2.2.2.1) n (by omega) (by have := Dn.start HH.out h0; rw [hn] at this; exact this) (by omega)
  rw [hsl] at hd
  have HD := hid hd
  clear hd hs hsl
  go_wp2_with (fail)
  refine HD.out.mono ?_
  rintro e w4 ⟨bb, rfl, l2, hp2, hl2, hH2, hg2, hr2, hgr2⟩
  have HQ4 := hid ((hgr2.block qb (Array.getElem?_eq_some_iff.1 HQ3.out).1 (ne_some (by omega))).trans HQ3.out)
  have hlp := lpop_at qb base hqb l2 A B M g c n w4 (by rw [hl2, ← HN.out]; exact HQ4.out) (by rw [hl2]; exact hr2) hl2 (by omega) (by omega) hg
  have H2 : Hid (l2.Perm (sw l 0 n) ∧ l2.length = n + 1 ∧ Hp n l2 ∧ ga l2 n = ga (sw l 0 n) n ∧ Row w4 base (.slice (some ⟨g, 0, none⟩) (n + 1) c) l2 ∧ w3.grownBy w4 (some g)) := hid ⟨hp2, hl2, hH2, hg2, hr2, hgr2⟩
  have HLP := hid hlp
  clear hp2 hl2 hH2 hg2 hr2 hgr2 hlp
  go_wp2_with (fail)
  refine HLP.out.mono ?_
  rintro e w5 ⟨rfl, hP⟩
  have HP := hid hP
  clear hP
  go_wp2_with (fail)
  go_ret
  obtain ⟨hp2, hl2, hH2, hg2, hr2, hgr2⟩ := H2.out
  have hx : ga l2 n = ga l 0 := by
    rw [hg2, sw_at h0 (by omega), if_pos rfl]
  refine ⟨_, _, l2.take n, rfl, ⟨HP.out.row, HP.out.own, ?_, fun b hb => ?_⟩, ?_, ?_, ?_⟩
  · refine ((Mv.grown (S := fun k => k = g) HW.out.2 (fun i hi => .inl (by injection hi with hi; exact hi.symm))).mono (fun i hi => .inl (.inr (by rw [hi]; rfl)))).trans (S' := fun k => k = g) (Mv.grown hgr2 (fun i hi => .inl (by injection hi with hi; exact hi.symm))) (fun i hi => .inl (.inr (by rw [hi]; rfl))) |>.trans HP.out.mv (fun i hi => .inl ?_)
    exact hi.imp id (fun h => h)
  · exact .inl hb
  · rw [take_last hl2]
    exact hp2.trans (sw_perm h0 (by omega))
  · have e : (l2.take n).length = n := by simp; omega
    rw [e]
    exact hH2.take
  · intro y hy
    rw [hx]
    obtain ⟨k, hk, rfl⟩ := List.getElem_of_mem hy
    rw [← ga_lt hk]
    exact HH.out.least k hk
end Go.Proofs.Ytdhjedpgdhageaa.Ord
