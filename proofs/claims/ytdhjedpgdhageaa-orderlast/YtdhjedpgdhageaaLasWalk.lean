/-
  The walk of OrderLast.
-/
import Derived.Test.YtdhjedpgdhageaaLasW
namespace Go.Proofs.Ytdhjedpgdhageaa.Ord
open Go.ChangeShapes Go.WideShapes Go.ChangeAt Go.RowKit Go.Joins
set_option maxRecDepth 100000 in
set_option maxHeartbeats 1000000 in
theorem walk7 (vl : Value) (l : List (List Int)) (W : World) (h : LL W W.heap.size vl l) : Calls Try.prog 7 #[vl] W fun e w' => e = .returned (.bool true) ∧ Below W.heap.size W w' := by
  obtain ⟨i0, hi, hz0, hz1, hz2⟩ := info_parts inf3
  obtain ⟨i1, hj, hy0, hy1, hy2⟩ := info_parts inf25
  have HL := hid h
  obtain ⟨ao, c, rfl, hle, hcc, _⟩ := h
  go_enter Try.func7, Try.ntmps7
  go_wp2_with (fail)
  refine (alive_at W).mono ?_
  rintro e w1 ⟨rfl, b1⟩
  have L1 := hid (HL.out.keepW b1)
  have B1 := hid b1
  clear b1
  go_wp2_with (fail)
  refine (great_at w1 _ _ l L1.out).mono ?_
  rintro e w2 ⟨g, rfl, rfl, hg⟩
  cases g with
  | true =>
    go_wp2_with (fail)
    refine (alive_at w2).mono ?_
    rintro e w3 ⟨rfl, b3⟩
    have B3 := hid (bstep B1.out b3)
    clear b3
    go_wp2_with (fail)
    go_ret
    exact ⟨rfl, B3.out⟩
  | false =>
    obtain ⟨hl200, hrows⟩ := hg rfl
    have HRW := hid hrows
    clear hg hrows
    by_cases h0 : 150 < l.length
    · have e0 : decide ((l.length : Int) > 150) = true := decide_eq_true (by omega)
      have e0' : (150 : Int) < (l.length : Int) := by omega
      go_wp2_with (fail)
      refine (alive_at w2).mono ?_
      rintro e w3 ⟨rfl, b3⟩
      have B3 := hid (bstep B1.out b3)
      clear b3
      go_wp2_with (fail)
      go_ret
      exact ⟨rfl, B3.out⟩
    · have e0 : decide ((l.length : Int) > 150) = false := decide_eq_false (by omega)
      have e0' : ¬ (150 : Int) < (l.length : Int) := by omega
      go_wp2_with (fail)
      refine (of_at w2 _ l L1.out (by omega)).mono ?_
      rintro e w3 ⟨v, rfl, hrow, hb3⟩
      obtain ⟨va, vc, rfl, hcut⟩ := hrow.at
      clear hcut
      have R3 := hid hrow
      have B3 := hid (bstep B1.out hb3)
      have L3 := hid (L1.out.keepW hb3)
      clear hrow hb3
      by_cases he : (ofV l).2 = 0
      · have e1 : ((ofV l).2 != 0) = false := by rw [he]; rfl
        have HLA := hid (ofV_last he)
        have HFI := hid (ofV_first he)
        obtain ⟨_, hx1, hxl⟩ := ofV_ok he
        rw [hx1] at R3 ⊢
        have HXL := hid hxl
        have hxl2 : (ord l).length ≤ l.length := by omega
        have HR1 : Hid (∀ k, k < l.length → (l.getD k []).length ≤ 1048576) := hid (fun k hk => by have := HRW.out k hk; omega)
        clear hx1 hxl he
        go_wp2_with (fail)
        refine (twin_lists w3 _ l L3.out (by omega) HR1.out).mono ?_
        rintro e w4 ⟨fv, ys, rfl, hT4⟩
        have S0 : Hid (LAS w3 w4 (upL l 0) fv (.slice none 0 0) ys (nums 0)) := hid ⟨hT4, Row.none0 _ _, fun j y g _ _ _ e => by cases e⟩
        clear hT4
        go_wp2_with (fail)
        obtain ⟨fa, fc, hff0⟩ := own_form S0.out.T.own
        have hff : fv = .slice fa l.length fc := hff0
        clear hff0
        subst hff
        go_loopw [6, 8] (fun s6 s8 wr => ∃ (k : Nat) (ys : List Value), k ≤ l.length ∧ s8 = .int .i64 (k : Int) ∧ Hid (LAS w3 wr (upL l k) (.slice fa l.length fc) s6 ys (nums k))) (fun _ s8 _ => l.length - (intOf s8).toNat)
        case atStart => exact ⟨0, ys, by omega, rfl, hid S0.out⟩
        case round =>
          clear S0
          obtain ⟨k, ys, hk, rfl, HLAS⟩ := hrel
          obtain ⟨aa, ac, hae, _⟩ := HLAS.out.A.at
          rw [nums_len] at hae
          subst hae
          have HAO : Hid (wr.ownsRow w3.heap.size 3 1 (.slice aa k ac) k (ints (nums k))) := hid (by have := HLAS.out.A; unfold Row at this; rw [nums_len] at this; exact this)
          have hsz := HLAS.out.T.below.size
          by_cases hlt : k < l.length
          · have hlt' : (k : Int) < (l.length : Int) := by omega
            have hlu : k < (upL l k).length := by rw [upL_len]; exact hlt
            obtain ⟨y, hyk, hyr⟩ := HLAS.out.T.rows k hlu
            obtain ⟨gf, cf, hfe, hcf, hcy, hfy⟩ := own_cell HLAS.out.T.own hlu hyk
            rw [upL_len] at hfe hcf
            injection hfe with hfe1 _ hfe3
            subst hfe1 hfe3
            have HYK := hid hyk
            have hgd : (upL l k).getD k [] = l.getD k [] := by rw [upL_row l k (by omega) k hlt, if_neg (by omega)]
            have hrl : ((upL l k).getD k []).length ≤ 3000 := by rw [hgd]; exact HRW.out k hlt
            obtain ⟨ya, yc, hye, _⟩ := hyr.at
            subst hye
            have HUP : Hid (upL l (k + 1) = (upL l k).set k ((upL l k).getD k [] ++ [(l.length : Int)])) := hid rfl
            have HROW := fun w5 al g => fun (h5 : LAS w3 w5 (upL l k) (.slice (some ⟨gf, 0, none⟩) l.length fc) al ys g) => h5
            clear HROW hyr hgd hyk
            have HR5 : Hid (∀ (w5 : World) (al : Value) (a : List Int), LAS w3 w5 (upL l k) (.slice (some ⟨gf, 0, none⟩) l.length fc) al ys a → w5.cell? ⟨gf, k, none⟩ = some (.slice ya ((upL l k).getD k []).length yc) ∧ w5.ownsRow w3.heap.size 3 1 (.slice ya ((upL l k).getD k []).length yc) ((upL l k).getD k []).length (ints ((upL l k).getD k [])) ∧ w3.heap.size ≤ w5.heap.size) := hid (fun w5 al a h5 => by
              obtain ⟨b', c', e', _, h1, _⟩ := own_cell h5.T.own hlu HYK.out
              injection e' with e'
              injection e' with e'
              injection e' with e'
              subst e'
              exact ⟨h1, h5.T.blk hlu HYK.out, h5.T.below.size⟩)
            have HST : Hid (∀ (w5 w6 : World) (al : Value) (a : List Int) (o : Obj) (g cap : Nat), LAS w3 w5 (upL l k) (.slice (some ⟨gf, 0, none⟩) l.length fc) al ys a → (w5.alloc o).grownBy w6 (Value.slice ya ((upL l k).getD k []).length yc).ownBlock → w6.ownsRow w3.heap.size 3 1 (.slice (some ⟨g, 0, none⟩) (((upL l k).getD k []).length + 1) cap) (((upL l k).getD k []).length + 1) (ints ((upL l k).getD k []) ++ [.int .i64 (l.length : Int)]) → ((Value.slice ya ((upL l k).getD k []).length yc).ownBlock = some g ∨ g = w5.heap.size + 1) →
                LAS w3 (w6.setCell ⟨gf, k, none⟩ (.slice (some ⟨g, 0, none⟩) (((upL l k).getD k []).length + 1) cap)) (upL l (k + 1)) (.slice (some ⟨gf, 0, none⟩) l.length fc) al (ys.set k (.slice (some ⟨g, 0, none⟩) (((upL l k).getD k []).length + 1) cap)) a ∧ (∃ u, w6.cell? ⟨gf, k, none⟩ = some u) ∧ w6.frozen? ⟨gf, k, none⟩ = false) := hid (fun w5 w6 al a o g cap h5 hg hown hat => LAS.row h5 (by rw [upL_len]) hlu HYK.out hg hown hat)
            generalize (upL l k).getD k [] = r at *
            go_wp2_with (first
              | (at_builtin; refine wpList_append_lies _ rfl (.tmp 42) (.tmp 44) 25 rfl w3.heap.size 3 i0 _ 1 8 Try.underlying25 hi hz0 hz1 hz2 rfl (by decide) (.slice aa k ac) k (ints (nums k)) rfl (World.ownsRow.alloc HAO.out _) ⟨wr.heap.size, 0, none⟩ 1 1 [.int .i64 (k : Int)] rfl rfl (cell_one_new _ _ _) (by simp [Value.oneCell']) (by omega) (by unfold maxLen; omega) (by omega) (by simp; omega) (wr.heap.size + 1) (by simp) ?_; intro g cap w5 hown5 hgr5 hat5 _; have HS5 : Hid (LAS w3 w5 (upL l k) (.slice (some ⟨gf, 0, none⟩) l.length fc) (.slice (some ⟨g, 0, none⟩) (k + 1) cap) ys (nums (k + 1))) := hid (by have h1 := HLAS.out.all (z := (k : Int)) (g := g) (cap := cap) (by exact hgr5) (by rw [nums_len]; exact hown5) hat5; rw [nums_len] at h1; rw [nums_snoc]; exact h1); obtain ⟨hc5, ho5, hs5⟩ := HR5.out _ _ _ HS5.out; have HO5 := hid ho5; clear hown5 hgr5 hat5 ho5)
              | (at_builtin; refine wpList_append_lies _ rfl (.tmp 51) (.tmp 53) 25 rfl w3.heap.size 3 i0 _ 1 8 Try.underlying25 hi hz0 hz1 hz2 rfl (by decide) (.slice ya r.length yc) r.length (ints r) rfl (World.ownsRow.alloc HO5.out _) ⟨w5.heap.size, 0, none⟩ 1 1 [.int .i64 (l.length : Int)] rfl rfl (cell_one_new _ _ _) (by simp [Value.oneCell']) (by omega) (by unfold maxLen; omega) (by omega) (by simp; omega) (w5.heap.size + 1) (by simp) ?_; intro g6 cap6 w6 hown6 hgr6 hat6 _; obtain ⟨hS6, ⟨u6, hc6⟩, hf6⟩ := HST.out w5 w6 _ _ _ g6 cap6 HS5.out hgr6 hown6 hat6; have HS6 := hid hS6; clear hS6 hown6 hgr6 hat6))
            go_roundw
            case rel => exact ⟨k + 1, _, by omega, by go_num, HS6⟩
            case measure => simp [intOf]; omega
          · have hlt' : ¬ (k : Int) < (l.length : Int) := by omega
            obtain rfl : k = l.length := by omega
            have Lr := hid (L3.out.keepW HLAS.out.T.below)
            have HFO : Hid (wr.ownsRow w3.heap.size 25 1 (.slice fa l.length fc) l.length ys) := hid (by have := HLAS.out.T.own; rw [upL_len] at this; exact this)
            go_wp2_with (fail)
            refine (twin_lists wr _ l Lr.out (by omega) HR1.out).mono ?_
            rintro e w7 ⟨v7, ys7, rfl, hT7⟩
            obtain ⟨a7, c7, hv7⟩ := own_form hT7.own
            subst hv7
            have HT7 := hid hT7
            have hsz7 := hT7.below.size
            have HO7 := hid hT7.own
            clear hT7
            have HM8 : Hid (∀ (w8 : World) (o : Obj), (w7.alloc o).grownBy w8 (Value.slice a7 l.length c7).ownBlock → Below wr.heap.size wr w8 ∧ w8.ownsRow w3.heap.size 25 1 (.slice fa l.length fc) l.length ys ∧ w3.heap.size ≤ w8.heap.size) := hid (fun w8 o hg => by
              obtain ⟨h1, h2⟩ := las_mid HLAS.out HT7.out hg
              have h3 := h2.T.own
              rw [upL_len] at h3
              exact ⟨h1, h3, h2.T.below.size⟩)
            have HT9 : Hid (∀ (w8 w9 : World) (o1 o2 : Obj) (g8 c8 g9 c9 : Nat), (w7.alloc o1).grownBy w8 (Value.slice a7 l.length c7).ownBlock → w8.ownsRow wr.heap.size 25 1 (.slice (some ⟨g8, 0, none⟩) (l.length + 1) c8) (l.length + 1) (ys7 ++ [.slice aa l.length ac]) → (w8.alloc o2).grownBy w9 (Value.slice fa l.length fc).ownBlock → w9.ownsRow w3.heap.size 25 1 (.slice (some ⟨g9, 0, none⟩) (l.length + 1) c9) (l.length + 1) (ys ++ [.slice none 0 0]) →
                LL w9 w9.heap.size (.slice (some ⟨g8, 0, none⟩) (l.length + 1) c8) (l ++ [nums l.length]) ∧ LL w9 w9.heap.size (.slice (some ⟨g9, 0, none⟩) (l.length + 1) c9) (fst l) ∧ Below w3.heap.size w3 w9) := hid (fun w8 w9 o1 o2 g8 c8 g9 c9 h1 h2 h3 h4 => las_tail (by omega) HR1.out HLAS.out HT7.out h1 h2 h3 h4)
            go_wp2_with (first
              | (at_builtin; refine wpList_append_lies _ rfl (.tmp 57) (.tmp 59) 22 rfl wr.heap.size 25 i1 _ 1 24 Try.underlying22 hj hy0 hy1 hy2 rfl (by decide) (.slice a7 l.length c7) l.length ys7 rfl (World.ownsRow.alloc HO7.out _) ⟨w7.heap.size, 0, none⟩ 1 1 [.slice aa l.length ac] rfl rfl (cell_one_new _ _ _) (by simp [Value.oneCell']) (by omega) (by unfold maxLen; omega) (by omega) (by simp; omega) (w7.heap.size + 1) (by simp) ?_; intro g8 c8 w8 hown8 hgr8 _ _; obtain ⟨hb8, hf8, hs8⟩ := HM8.out _ _ hgr8; have HF8 := hid hf8; have HO8 := hid hown8; have HG8 := hid hgr8; clear hf8 hown8 hgr8 hb8)
              | (at_builtin; refine wpList_append_lies _ rfl (.tmp 61) (.tmp 62) 22 rfl w3.heap.size 25 i1 _ 1 24 Try.underlying22 hj hy0 hy1 hy2 rfl (by decide) (.slice fa l.length fc) l.length ys rfl (World.ownsRow.alloc HF8.out _) ⟨w8.heap.size, 0, none⟩ 1 1 [.slice none 0 0] rfl rfl (cell_one_new _ _ _) (by simp [Value.oneCell']) (by omega) (by unfold maxLen; omega) (by omega) (by simp; omega) (w8.heap.size + 1) (by simp) ?_; intro g9 c9 w9 hown9 hgr9 _ _; have H9 := hid (HT9.out _ _ _ _ _ _ _ _ HG8.out HO8.out hgr9 hown9); clear hown9 hgr9))
            refine (of_at w9 _ (l ++ [nums l.length]) (by have := H9.out.1; obtain ⟨ao', c', e1, h2⟩ := this; exact ⟨ao', c', e1, h2⟩) (by simp; omega)).mono ?_
            rintro e w10 ⟨yv, rfl, hr10, hb10⟩
            rw [HLA.out] at hr10 ⊢
            obtain ⟨yg, yc, _, hyv, _, _, hyc, _⟩ := hr10.full (by simp)
            have hy1' : (ord l ++ [(l.length : Int)]).length = l.length + 1 := by simp [HXL.out]
            rw [hy1'] at hyv hyc
            subst hyv
            have HY10 : Hid (Row w10 w9.heap.size (.slice (some ⟨yg, 0, none⟩) (l.length + 1) yc) (ord l ++ [(l.length : Int)])) := hid hr10
            have B10 := hid (bstep H9.out.2.2 hb10)
            have L10 := hid (H9.out.2.1.keepW hb10)
            clear hr10 hb10
            go_wp2_with (fail)
            refine (of_at w10 _ (fst l) (by have := L10.out; obtain ⟨ao', c', e1, h2⟩ := this; exact ⟨ao', c', e1, h2⟩) (by simp [fst]; omega)).mono ?_
            rintro e w11 ⟨zv, rfl, hr11, hb11⟩
            rw [HFI.out] at hr11 ⊢
            obtain ⟨zg, zc, _, hzv, _, _, hzc, hzm, _⟩ := hr11.full (by simp)
            have hz1' : ((l.length : Int) :: ord l).length = l.length + 1 := by simp [HXL.out]
            rw [hz1'] at hzv hzc
            subst hzv
            have HZ11 : Hid (Row w11 w10.heap.size (.slice (some ⟨zg, 0, none⟩) (l.length + 1) zc) ((l.length : Int) :: ord l)) := hid hr11
            have HY11 := hid (HY10.out.below hb11)
            have B11 := hid (bstep B10.out hb11)
            have HX11 := hid ((R3.out.below B11.out).rd (by omega))
            clear hr11 hb11
            have hyn : w11.cell? ⟨yg, l.length, none⟩ = some (.int .i64 (l.length : Int)) := by
              have h1 := (Row.cell (l := ord l ++ [(l.length : Int)]) (c := yc) (by rw [hy1']; exact HY11.out) (i := l.length) (by rw [hy1']; omega)).1
              rw [h1]
              have h2 : ga (ord l ++ [(l.length : Int)]) l.length = (l.length : Int) := by simp [ga, ← HXL.out]
              rw [h2]
            have hz0' : w11.cell? ⟨zg, 0, none⟩ = some (.int .i64 (l.length : Int)) := (Row.cell (l := (l.length : Int) :: ord l) (c := zc) (by rw [hz1']; exact HZ11.out) (i := 0) (by rw [hz1']; omega)).1
            have HYC : Hid (Rd w11 w11.heap.size (.slice (some ⟨yg, 0, none⟩) l.length yc) (ord l)) := hid (by
              have h1 := Row.cut (l := ord l ++ [(l.length : Int)]) (n := l.length) (c := yc) (g := yg) (by rw [hy1']; exact HY11.out) hy1'
              rw [List.take_append_of_le_length (by rw [HXL.out]; exact Nat.le_refl _), List.take_of_length_le (by rw [HXL.out]; exact Nat.le_refl _)] at h1
              exact h1.rd (by omega))
            have HZC : Hid (Rd w11 w11.heap.size (.slice (if zc = 1 then some ⟨zg, 0, none⟩ else some ⟨zg, 0 + 1, none⟩) l.length (zc - 1)) (ord l)) := hid (by
              have h1 := HZ11.out.rd (by rw [hz1']; omega)
              have h2 := Rd.tail2 (b := zg) (o := 0) (c := zc) (y := (l.length : Int)) (ys := ord l) (by rw [HXL.out]; exact h1)
              rw [HXL.out] at h2
              exact h2)
            have hzm2 : zc ≤ 9223372036854775807 := hzm
            clear hy1' hz1' hzm
            go_wp2_with (fail)
            refine (same_at w11 _ _ _ _ (ord l) (ord l) HYC.out HX11.out).mono ?_
            rintro e w12 ⟨rfl, q12, rfl⟩
            have D1 : decide (ord l = ord l) = true := by simp
            rw [D1]
            have hyn2 : (w11.drewN q12).cell? ⟨yg, l.length, none⟩ = some (.int .i64 (l.length : Int)) := hyn
            have hz02 : (w11.drewN q12).cell? ⟨zg, 0, none⟩ = some (.int .i64 (l.length : Int)) := hz0'
            have HZ12 : Hid (Rd (w11.drewN q12) w11.heap.size (.slice (if zc = 1 then some ⟨zg, 0, none⟩ else some ⟨zg, 0 + 1, none⟩) l.length (zc - 1)) (ord l)) := hid (HZC.out.keep (bdrew w11 q12))
            have HX12 := hid (HX11.out.keep (bdrew w11 q12))
            have B12 : Hid (Below W.heap.size W (w11.drewN q12)) := hid (B3.out.trans ((B11.out.trans ((bdrew w11 q12).mono B11.out.size)).mono B3.out.size))
            clear D1 hyn hz0'
            generalize w11.drewN q12 = w13 at *
            by_cases hzz : zc = 1
            · subst hzz
              rw [if_pos rfl] at HZ12
              go_wp2_with (fail)
              refine (same_at w13 _ _ _ _ (ord l) (ord l) (by have h1 := HZ12.out; rw [show l.length = 0 by omega] at h1; exact h1) HX12.out).mono ?_
              rintro e w14 ⟨rfl, q14, rfl⟩
              have D2 : decide (ord l = ord l) = true := by simp
              rw [D2]
              clear D2
              go_wp2_with (fail)
              go_ret
              exact ⟨rfl, B12.out.trans ((bdrew w13 q14).mono B12.out.size)⟩
            · rw [if_neg hzz] at HZ12
              go_wp2_with (fail)
              refine (same_at w13 _ _ _ _ (ord l) (ord l) (by exact HZ12.out) HX12.out).mono ?_
              rintro e w14 ⟨rfl, q14, rfl⟩
              have D2 : decide (ord l = ord l) = true := by simp
              rw [D2]
              clear D2
              go_wp2_with (fail)
              go_ret
              exact ⟨rfl, B12.out.trans ((bdrew w13 q14).mono B12.out.size)⟩
      · have e1 : ((ofV l).2 != 0) = true := by rw [bne_iff_ne]; exact he
        clear R3
        rw [ofV_bad he]
        clear he
        generalize (ofV l).2 = er at *
        simp only [List.length_nil]
        go_wp2_with (fail)
        go_ret
        exact ⟨rfl, B3.out⟩
end Go.Proofs.Ytdhjedpgdhageaa.Ord
