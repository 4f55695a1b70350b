/-
  All are told, one behind the other.
-/
import Derived.Test.YtdhjedpgdhageaaTl
namespace Go.Proofs.Ytdhjedpgdhageaa.Ord
open Go.ChangeShapes Go.WideShapes Go.ChangeAt Go.RowKit Go.Joins
set_option maxRecDepth 100000 in
set_option maxHeartbeats 1000000 in
theorem tell_at (W w : World) (l : List (List Int)) (base qb mb : Nat) (lv tv : Value) (h : NQ W w l base qb mb lv tv l.length) (hn : l.length ≤ 1048576) (ht : there l = true) :
    Calls Try.prog 16 #[.pointer (some ⟨qb, 0, none⟩)] w fun e w' => ∃ lr, e = .returned lr ∧ Row w' base lr (ord l) ∧ Below W.heap.size W w' := by
  obtain ⟨i0, hi, hz0, hz1, hz2⟩ := info_parts inf3
  have T0 : Hid (TI W w l base qb mb lv tv (.slice none 0 0) []) := hid (by
    obtain ⟨⟨v, xs, V, L, F, R, hQ, hqi, hH⟩, hb⟩ := h
    rw [List.drop_eq_nil_of_le (by rw [nums_len]; exact Nat.le_refl _)] at hqi
    exact ⟨⟨l.length, v, xs, V, L, F, R, hQ, hqi, hH, by omega, fun g e => by cases e⟩, Row.none0 _ _, hb, rfl⟩)
  have HTH := hid ht
  clear h ht
  go_enter Try.func16, Try.ntmps16
  go_wp2_with (fail)
  go_loopw [3] (fun s3 wr => ∃ t : List Int, Hid (TI W wr l base qb mb lv tv s3 t)) (fun s3 _ => l.length - lenS s3)
  case atStart => exact ⟨[], T0⟩
  case round =>
    obtain ⟨t, HT⟩ := hrel
    obtain ⟨⟨k, v, xs, V, L, F, R, hQ, hqi, hH, hk, hap⟩, hrow, hb, hord⟩ := HT.out
    obtain ⟨va, vc, rfl, _⟩ := hQ.r.at
    obtain ⟨la, lc, rfl, _⟩ := hrow.at
    obtain ⟨c0, c1, c2, c3, f3⟩ := row4 hQ.q
    have hnf : ∃ tb tc, l.length = 0 ∨ tv = .slice (some ⟨tb, 0, none⟩) l.length tc := by
      by_cases h0 : l.length = 0
      · exact ⟨0, 0, .inl h0⟩
      · obtain ⟨tb, tc, e, _⟩ := own_cell (i := 0) hQ.t (by omega) (x := .bool (decide (((0 : Nat) : Int) ∈ t))) (by rw [List.getElem?_map, TL_get (by omega)]; rfl)
        exact ⟨tb, tc, .inr e⟩
    have HNF := hid hnf
    clear hnf
    have HQ := hid hQ
    have HQI := hid hqi
    have HH := hid hH
    have HAP := hid hap
    have HROW := hid hrow
    have HB := hid hb
    have HORD := hid hord
    have HK := hid hk
    clear hQ hqi hH hap hrow hb hord HT T0 hk
    by_cases hR0 : R.length = 0
    · have hpos : decide ((R.length : Int) > 0) = false := decide_eq_false (by omega)
      have hpos2 : decide (0 < (R.length : Int)) = false := decide_eq_false (by omega)
      go_wp2_with (fail)
      refine (len_at _ _ _ wr).mono ?_
      rintro e w1 ⟨rfl, rfl⟩
      go_wp2_with (fail)
      go_ret
      refine ⟨_, rfl, ?_, HB.out⟩
      obtain rfl : R = [] := List.length_eq_zero_iff.1 hR0
      rw [ord_of HORD.out HQI.out.nt HQI.out.tb HQI.out.end_]
      exact HROW.out
    · have hpos : decide ((R.length : Int) > 0) = true := decide_eq_true (by omega)
      have hpos2 : decide (0 < (R.length : Int)) = true := decide_eq_true (by omega)
      go_wp2_with (fail)
      refine (len_at _ _ _ wr).mono ?_
      rintro e w1 ⟨rfl, rfl⟩
      go_wp2_with (fail)
      refine (pop_at qb base HQ.out.qb_.2 R _ _ _ _ w1 HQ.out.q HQ.out.r HH.out (by omega) (Nat.le_trans HQI.out.rlen hn)).mono ?_
      rintro e w2 ⟨x, v', R', rfl, hP, hperm, hH', hmin⟩
      have ta := t_assert x
      obtain ⟨x0, x1⟩ := HQI.out.rb x (hperm.mem_iff.1 (by simp))
      obtain ⟨xn, rfl⟩ := Int.eq_ofNat_of_zero_le x0
      have hxn : xn < l.length := by omega
      have HQ2 := hid (HQ.out.pushed hP)
      have HPO := hid (pushed_own (V := V) hP)
      have HQ' := hid (HQI.out.tell hperm)
      have HNX := hid (HQI.out.next (hperm.mem_iff.1 (by simp)) hmin)
      have HH' := hid hH'
      have HR2 : Hid (Row w2 base (.slice la t.length lc) t) := hid (HROW.out.moved HPO.out.1 (fun b e => HAP.out b e))
      have HAP2 : Hid (∀ g, (Value.slice la t.length lc).ownBlock = some g → ¬ own qb mb lv tv v' V g) := hid (fun g e h => (HPO.out.2 g h).elim (HAP.out g e) (fun h2 => by have := (HROW.out.lo g e).2; omega))
      have HB2 : Hid (Below W.heap.size W w2) := hid (HB.out.trans (HPO.out.1.toBelow HB.out.size HQ.out.own_lo))
      clear hP hperm hH' hmin x0 x1 HPO
      obtain ⟨tb, tc, hnf⟩ := HNF.out
      obtain rfl := hnf.resolve_left (by omega)
      clear hnf HNF
      have hbs := HQ2.out.lob.2
      have htl := HQI.out.tlen
      go_wp2_with (at_builtin; refine wpList_append_lies _ rfl (.tmp 19) (.tmp 21) 25 rfl base 3 i0 _ 1 8 Try.underlying25 hi hz0 hz1 hz2 rfl (by decide) (.slice la t.length lc) t.length (ints t) rfl (World.ownsRow.alloc HR2.out _) ⟨w2.heap.size, 0, none⟩ 1 1 [.int .i64 (xn : Int)] rfl rfl (cell_one_new _ _ _) (by simp [Value.oneCell']) (by omega) (by unfold maxLen; omega) (by omega) (by simp; omega) (w2.heap.size + 1) (by simp) ?_; intro lg lcap w3 hown3 hgr3 hat3 _; obtain ⟨⟨q1, q2, q3⟩, q4, ⟨sa, sc, hsv, q5⟩, hTJ⟩ := ta_more HQ2.out hxn hn HQ'.out HH'.out HR2.out HAP2.out HB2.out (World.grownBy_alloc _ _ _) hgr3 hown3 hat3; have HTJ := hid hTJ; have HSV := hid hsv; clear hTJ hsv hown3 hgr3 hat3)
      have HP0 := hid (HQI.out.flen (xn : Int))
      generalize (w3.setCell ⟨tb, xn, none⟩ (.bool true)) = w4 at *
      generalize F (xn : Int) = P0 at *
      generalize V (xn : Int) = s0 at *
      have hP0 := HP0.out
      have hxt : Hid ((xn : Int) ∈ t ++ [(xn : Int)]) := hid (by simp)
      have hkk : k ≤ 1099511627776 * 2 := by
        have h1 := HK.out
        have h2 : l.length * t.length ≤ 1048576 * 1048576 := Nat.mul_le_mul hn (Nat.le_trans htl hn)
        omega
      clear q1 q2 q3 q5 c0 c1 c2 c3 f3 HQ2 HR2 HAP2 HB2 HQ'
      go_loopw [36] (fun s36 wr => ∃ j : Nat, j ≤ P0.length ∧ s36 = .int .i64 (j : Int) ∧ Hid (TJ W wr l base qb mb lv (.slice (some ⟨tb, 0, none⟩) l.length tc) (.slice (some ⟨lg, 0, none⟩) (t.length + 1) lcap) (t ++ [(xn : Int)]) xn s0 P0 k j)) (fun s36 _ => P0.length - (intOf s36).toNat)
      case atStart => exact ⟨0, by omega, rfl, HTJ⟩
      case round =>
        obtain ⟨j, hj, rfl, HJ⟩ := hrel
        obtain ⟨⟨v2, xs2, V2, L2, F2, R2, hQ, hqi, hH, hVx, hFx, hap⟩, hrow, hb⟩ := HJ.out
        have d2 := (row4 hQ.q).2.2.1
        by_cases hlt : j < P0.length
        · have hlt' : (j : Int) < (P0.length : Int) := by omega
          have hrx := hQ.rows (xn : Int)
          rw [hVx, hFx, HSV.out] at hrx
          obtain ⟨ao, cap, e, _, _, hcs⟩ := hrx.at
          obtain ⟨g, rfl, hc⟩ := hcs.resolve_left (by omega)
          injection e with e1 _ e3
          subst e1 e3
          have hcj : wr.cell? ⟨g, j, none⟩ = some (.int .i64 (ga P0 j)) := by rw [ga_lt hlt]; exact hc j hlt
          rw [drop_cons hlt] at hqi
          obtain ⟨z0, z1⟩ := hqi.pb (ga P0 j) (by simp)
          generalize ga P0 j = z at *
          obtain ⟨zn, rfl⟩ := Int.eq_ofNat_of_zero_le z0
          have hzn : zn < l.length := by omega
          have HP := hid (put_at wr _ _ qb mb l.length (k + j) lv _ v2 xs2 _ V2 L2 F2 R2 hQ hH hn hqi.len (by omega) (Nat.le_trans hqi.rlen hn) (fun z => by
            by_cases ez : z = (xn : Int)
            · rw [ez, hFx]; omega
            · have h1 := hqi.flen z
              unfold clrF at h1
              rw [if_neg ez] at h1
              omega) zn hzn (hqi.hin HTH.out hzn))
          have HS : Hid (∀ w2 v' xs' V' F' R', PutE wr w2 W.heap.size base qb mb l.length (k + j) lv (.slice (some ⟨tb, 0, none⟩) l.length tc) v2 (t ++ [(xn : Int)]) V2 L2 F2 R2 zn v' xs' V' F' R' → TJ W w2 l base qb mb lv (.slice (some ⟨tb, 0, none⟩) l.length tc) (.slice (some ⟨lg, 0, none⟩) (t.length + 1) lcap) (t ++ [(xn : Int)]) xn s0 P0 k (j + 1)) := hid (fun w2 v' xs' V' F' R' hE => TJ.step hrow hb hQ hqi hxt.out hVx hFx hap hE)
          clear hQ hqi hH hVx hFx hap hrow hb hrx hc hcs HJ z0 z1
          go_wp2_with (fail)
          refine HP.out.mono ?_
          rintro e w5 ⟨rfl, v', xs', V', F', R', hE⟩
          have HE := hid (HS.out _ _ _ _ _ _ hE)
          clear hE
          go_wp2_with (fail)
          go_roundw
          case rel => exact ⟨j + 1, by omega, by go_num, HE⟩
          case measure => simp [intOf]; omega
        · have hlt' : ¬ (j : Int) < (P0.length : Int) := by omega
          obtain rfl : j = P0.length := by omega
          obtain ⟨w6, hdel, hV6, hM6⟩ := hQ.m.drop (k := (xn : Int)) (by omega) (by omega) 0
          have HTI := hid (TJ.done rfl HORD.out HNX.out HK.out HP0.out hrow hb hQ hqi hH hap hV6 hM6)
          have HTL := hid (hqi.tlen)
          clear hQ hqi hH hVx hFx hap hrow hb HJ hV6 hM6
          go_wp2_with (fail)
          go_roundw
          case rel => exact ⟨_, HTI⟩
          case measure =>
            have h1 := HTL.out
            rw [List.length_append] at h1
            simp only [List.length_singleton] at h1
            simp only [lenS]
            omega
end Go.Proofs.Ytdhjedpgdhageaa.Ord
