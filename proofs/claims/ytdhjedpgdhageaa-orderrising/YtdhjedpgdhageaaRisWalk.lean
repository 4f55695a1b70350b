/-
  The walk of OrderRising.
-/
import Derived.Test.YtdhjedpgdhageaaRisW
namespace Go.Proofs.Ytdhjedpgdhageaa.Ord
open Go.ChangeShapes Go.WideShapes Go.ChangeAt Go.RowKit Go.Joins
set_option maxRecDepth 100000 in
set_option maxHeartbeats 4000000 in
theorem walk5 (vl : Value) (l : List (List Nat)) (W : World) (h : LU W W.heap.size vl l) : Calls Try.prog 5 #[vl] W fun e w' => e = .returned (.bool true) ∧ Below W.heap.size W w' := by
  obtain ⟨i0, hi, hz0, hz1, hz2⟩ := info_parts inf3
  obtain ⟨i1, hj, hy0, hy1, hy2⟩ := info_parts inf25
  have HL := hid h
  obtain ⟨ao, c, rfl, hcc, _⟩ := h
  go_enter Try.func5, Try.ntmps5
  go_wp2_with (fail)
  refine (alive_at W).mono ?_
  rintro e w1 ⟨rfl, b1⟩
  have L1 := hid ((HL.out.keep b1).up b1.size)
  have B1 := hid b1
  clear b1 HL
  by_cases h0 : 100 < l.length
  · have e0 : decide ((l.length : Int) > 100) = true := decide_eq_true (by omega)
    have e0' : (100 : Int) < (l.length : Int) := by omega
    go_wp2_with (fail)
    refine (alive_at w1).mono ?_
    rintro e w3 ⟨rfl, b3⟩
    have B3 := hid (bstep B1.out b3)
    clear b3
    go_wp2_with (fail)
    go_ret
    exact ⟨rfl, B3.out⟩
  · have e0 : decide ((l.length : Int) > 100) = false := decide_eq_false (by omega)
    have e0' : ¬ (100 : Int) < (l.length : Int) := by omega
    have hn100 : l.length ≤ 100 := by omega
    go_wp2_with (fail)
    go_loopw [3, 4, 5, 7] (fun s3 s4 s5 s7 wr => ∃ (m : Nat) (rs os : List Value), m ≤ l.length ∧ s7 = .int .i64 (m : Int) ∧ Hid (RI w1 wr s3 s4 s5 rs os (dnL l m) (upL2 l l.length m) (nums m))) (fun _ _ _ s7 _ => l.length - (intOf s7).toNat)
    case atStart => exact ⟨0, [], [], by omega, rfl, hid (RI.start w1)⟩
    case round =>
      obtain ⟨wo, hwo⟩ : ∃ w, w = wr := ⟨_, rfl⟩
      subst hwo
      obtain ⟨m, rs, os, hmn', rfl, HI⟩ := hrel
      obtain ⟨ra, rc, hr7⟩ := own_form HI.out.r.own
      obtain ⟨oa, oc, hr8⟩ := own_form HI.out.o.own
      obtain ⟨wa, wc, hr9⟩ := own_form HI.out.w
      rw [dnL_len] at hr7
      rw [upL2_len] at hr8
      rw [nums_len] at hr9
      subst hr7 hr8 hr9
      have hsz := HI.out.below.size
      by_cases hlt : m < l.length
      · have hlt' : (m : Int) < (l.length : Int) := by omega
        obtain ⟨lb, lo2, ao2, c2, hao, hlb, hcl0, hrd0⟩ := L1.out.row hlt
        subst hao
        have hlb2 : lb < wo.heap.size := by omega
        have HCL := hid ((HI.out.below.cell (p := ⟨lb, lo2 + m, none⟩) hlb).trans hcl0)
        have HRU := hid ((hrd0.keep HI.out.below).up hsz)
        have hml := mm_le (l.getD m [])
        have HSD := hid (dnL_snoc l m)
        have HSU := hid (upL2_snoc l l.length m)
        have hrlen : (l.getD m []).length ≤ c2 ∧ c2 ≤ 9223372036854775807 ∧ (l.getD m []).length ≤ 281474976710656 := by
          obtain ⟨_, _, e, h1, _⟩ := hrd0
          injection e with _ _ e3
          rw [e3]
          exact h1
        clear hcl0 hrd0
        have HSZ := hid hsz
        generalize hrr : l.getD m [] = r at *
        clear hrr
        have hcl := HCL.out
        go_wp2_with (fail)
        go_loopw [8, 9, 10] (fun s8 s9 s10 wr => ∃ (k : Nat), k ≤ mm r ∧ s10 = .int .i64 (k : Int) ∧ Hid (AB wo wr s8 s9 (dnR m r k) (upR l.length m r k))) (fun _ _ s10 _ => mm r - (intOf s10).toNat)
        case atStart => exact ⟨0, by omega, rfl, hid (by have h1 : dnR m r 0 = [] := (by unfold dnR; split <;> simp); have h2 : upR l.length m r 0 = [] := (by unfold upR; split <;> simp); rw [h1, h2]; exact AB.start wo)⟩
        case round =>
          clear hcl
          obtain ⟨k, hk, rfl, HK⟩ := hrel
          obtain ⟨pa, pc, hpf⟩ := own_form HK.out.a
          obtain ⟨qa, qc, hqf⟩ := own_form HK.out.b
          subst hpf hqf
          have hpl := dnR_len m r k
          have hql := upR_len l.length m r k
          have hszk := HK.out.below.size
          have hcl := (HK.out.below.cell (p := ⟨lb, lo2 + m, none⟩) hlb2).trans HCL.out
          by_cases hkm : k < mm r
          · have hkl : k < r.length := by omega
            have hk10 : (k : Int) < 10 := by omega
            have hkl' : (k : Int) < (r.length : Int) := by omega
            obtain ⟨rb, ro, hra, hrb2, hck0, hx256⟩ := HRU.out.cellAt hkl
            subst hra
            have HCK := hid hck0
            clear hck0
            have hck := (HK.out.below.cell (p := ⟨rb, ro + k, none⟩) hrb2).trans HCK.out
            obtain ⟨za, HZA⟩ : ∃ z : Int, Hid ((m ≠ 0 → dnR m r (k + 1) = dnR m r k ++ [z]) ∧ ((r.getD k 0 : Nat) : Int) % (m : Int) = z ∧ ((r.getD k 0 : Nat) : Int).tmod (m : Int) = z) := ⟨((r.getD k 0 % m : Nat) : Int), hid ⟨fun e => dnR_snoc hkl e, rfl, rfl⟩⟩
            obtain ⟨zb, HZB⟩ : ∃ z : Int, Hid (m + 1 < l.length → upR l.length m r (k + 1) = upR l.length m r k ++ [(m : Int) + 1 + z] ∧ ((r.getD k 0 : Nat) : Int) % ((l.length : Int) - 1 - (m : Int)) = z ∧ ((r.getD k 0 : Nat) : Int).tmod ((l.length : Int) - 1 - (m : Int)) = z ∧ 0 ≤ z ∧ z < (l.length : Int) - 1 - (m : Int)) := ⟨((r.getD k 0 % (l.length - 1 - m) : Nat) : Int), hid (fun e => by
              have h1 := upR_snoc (n := l.length) (i := m) hkl e
              have h2 : ((l.length : Int) - 1 - (m : Int)) = ((l.length - 1 - m : Nat) : Int) := by omega
              have h3 := Nat.mod_lt (r.getD k 0) (show 0 < l.length - 1 - m by omega)
              refine ⟨by rw [h1]; simp, by rw [h2]; rfl, by rw [h2]; rfl, by omega, by omega⟩)⟩
            generalize r.getD k 0 = x at *
            generalize hp : (dnR m r k).length = p at *
            generalize hq : (upR l.length m r k).length = q at *
            by_cases hm0 : m = 0 <;> by_cases hmn : m + 1 < l.length
            · have ci : ¬ (m : Int) > 0 := by omega
              have ci2 : ¬ (0 : Int) < (m : Int) := by omega
              have HE : Hid (dnR m r (k + 1) = dnR m r k) := hid (by unfold dnR; rw [if_pos hm0, if_pos hm0])
              have cu : (m : Int) < (l.length : Int) - 1 := by omega
              have cu0 : (l.length : Int) - 1 - (m : Int) ≠ 0 := by omega
              have HF := hid (HZB.out hmn).1
              obtain ⟨_, hmB, hmB2, hb0, hb1⟩ := HZB.out hmn
              have HQO : Hid (wr.ownsRow wo.heap.size 3 1 (.slice qa q qc) q (ints (upR l.length m r k))) := hid (by have := HK.out.b; unfold Row at this; rw [hq] at this; exact this)
              have HSB : Hid (∀ (w2 w3 : World) (v2 : Value) (P2 : List Int) (o : Obj) (g cap : Nat), AB wo w2 v2 (.slice qa q qc) P2 (upR l.length m r k) → (w2.alloc o).grownBy w3 (Value.slice qa q qc).ownBlock → w3.ownsRow wo.heap.size 3 1 (.slice (some ⟨g, 0, none⟩) (q + 1) cap) (q + 1) (ints (upR l.length m r k) ++ [.int .i64 ((m : Int) + 1 + zb)]) → ((Value.slice qa q qc).ownBlock = some g ∨ g = w2.heap.size + 1) → AB wo w3 v2 (.slice (some ⟨g, 0, none⟩) (q + 1) cap) P2 (upR l.length m r (k + 1))) := hid (fun w2 w3 v2 P2 o g cap h1 h2 h3 h4 => by
                have := h1.stepB (z := ((m : Int) + 1 + zb)) (g := g) (cap := cap) h2 (by rw [hq]; exact h3) h4
                rw [hq] at this
                rw [HF.out]
                exact this)
              clear hp hq hm0 hmn HZA HZB
              have cm : ¬ 0 < m := by omega
              go_wp2_with (first
                | (at_builtin; refine wpList_append_lies _ rfl (.tmp 63) (.tmp 80) 25 rfl wo.heap.size 3 i0 _ 1 8 Try.underlying25 hi hz0 hz1 hz2 rfl (by decide) (.slice qa q qc) q (ints (upR l.length m r k)) rfl (World.ownsRow.alloc HQO.out _) ⟨wr.heap.size, 0, none⟩ 1 1 [.int .i64 ((m : Int) + 1 + zb)] rfl rfl (cell_one_new _ _ _) (by simp [Value.oneCell']) (by omega) (by unfold maxLen; omega) (by omega) (by simp; omega) (wr.heap.size + 1) (by simp) ?_; intro g3 cap3 w3 hown3 hgr3 hat3 _; have HK3 := hid (HSB.out _ _ _ _ _ g3 cap3 HK.out hgr3 hown3 hat3); clear hown3 hgr3 hat3))
              go_roundw
              case rel => exact ⟨k + 1, by omega, by go_num, hid (by have := HK3.out; rw [← HE.out] at this; exact this)⟩
              case measure => simp [intOf]; omega
            · have ci : ¬ (m : Int) > 0 := by omega
              have ci2 : ¬ (0 : Int) < (m : Int) := by omega
              have HE : Hid (dnR m r (k + 1) = dnR m r k) := hid (by unfold dnR; rw [if_pos hm0, if_pos hm0])
              have cu : ¬ (m : Int) < (l.length : Int) - 1 := by omega
              have HF : Hid (upR l.length m r (k + 1) = upR l.length m r k) := hid (by unfold upR; rw [if_neg hmn, if_neg hmn])
              have HQO : Hid (wr.ownsRow wo.heap.size 3 1 (.slice qa q qc) q (ints (upR l.length m r k))) := hid (by have := HK.out.b; unfold Row at this; rw [hq] at this; exact this)
              clear hp hq hm0 hmn HZA HZB
              have cm : ¬ 0 < m := by omega
              go_wp2_with (fail)
              go_roundw
              case rel => exact ⟨k + 1, by omega, by go_num, hid (by have := HK.out; rw [← HE.out, ← HF.out] at this; exact this)⟩
              case measure => simp [intOf]; omega
            · have ci : (m : Int) > 0 := by omega
              have ci2 : (0 : Int) < (m : Int) := by omega
              have cn0 : (m : Int) ≠ 0 := by omega
              have HE := hid (HZA.out.1 hm0)
              obtain ⟨_, hmA, hmA2⟩ := HZA.out
              have cu : (m : Int) < (l.length : Int) - 1 := by omega
              have cu0 : (l.length : Int) - 1 - (m : Int) ≠ 0 := by omega
              have HF := hid (HZB.out hmn).1
              obtain ⟨_, hmB, hmB2, hb0, hb1⟩ := HZB.out hmn
              have HPO : Hid (wr.ownsRow wo.heap.size 3 1 (.slice pa p pc) p (ints (dnR m r k))) := hid (by have := HK.out.a; unfold Row at this; rw [hp] at this; exact this)
              have HSA : Hid (∀ (w2 : World) (o : Obj) (g cap : Nat), (wr.alloc o).grownBy w2 (Value.slice pa p pc).ownBlock → w2.ownsRow wo.heap.size 3 1 (.slice (some ⟨g, 0, none⟩) (p + 1) cap) (p + 1) (ints (dnR m r k) ++ [.int .i64 za]) → ((Value.slice pa p pc).ownBlock = some g ∨ g = wr.heap.size + 1) → AB wo w2 (.slice (some ⟨g, 0, none⟩) (p + 1) cap) (.slice qa q qc) (dnR m r (k + 1)) (upR l.length m r k)) := hid (fun w2 o g cap h1 h2 h3 => by
                have := HK.out.stepA (z := za) (g := g) (cap := cap) h1 (by rw [hp]; exact h2) h3
                rw [hp] at this
                rw [HE.out]
                exact this)
              have HQ : Hid (∀ (w2 : World) (v2 : Value) (P2 : List Int), AB wo w2 v2 (.slice qa q qc) P2 (upR l.length m r k) → w2.ownsRow wo.heap.size 3 1 (.slice qa q qc) q (ints (upR l.length m r k))) := hid (fun w2 v2 P2 h1 => by have := h1.b; unfold Row at this; rw [hq] at this; exact this)
              have HSB : Hid (∀ (w2 w3 : World) (v2 : Value) (P2 : List Int) (o : Obj) (g cap : Nat), AB wo w2 v2 (.slice qa q qc) P2 (upR l.length m r k) → (w2.alloc o).grownBy w3 (Value.slice qa q qc).ownBlock → w3.ownsRow wo.heap.size 3 1 (.slice (some ⟨g, 0, none⟩) (q + 1) cap) (q + 1) (ints (upR l.length m r k) ++ [.int .i64 ((m : Int) + 1 + zb)]) → ((Value.slice qa q qc).ownBlock = some g ∨ g = w2.heap.size + 1) → AB wo w3 v2 (.slice (some ⟨g, 0, none⟩) (q + 1) cap) P2 (upR l.length m r (k + 1))) := hid (fun w2 w3 v2 P2 o g cap h1 h2 h3 h4 => by
                have := h1.stepB (z := ((m : Int) + 1 + zb)) (g := g) (cap := cap) h2 (by rw [hq]; exact h3) h4
                rw [hq] at this
                rw [HF.out]
                exact this)
              clear hp hq hm0 hmn HZA HZB
              have cm : 0 < m := by omega
              have cm0 : m ≠ 0 := by omega
              go_wp2_with (first
                | (at_builtin; refine wpList_append_lies _ rfl (.tmp 46) (.tmp 57) 25 rfl wo.heap.size 3 i0 _ 1 8 Try.underlying25 hi hz0 hz1 hz2 rfl (by decide) (.slice pa p pc) p (ints (dnR m r k)) rfl (World.ownsRow.alloc HPO.out _) ⟨wr.heap.size, 0, none⟩ 1 1 [.int .i64 za] rfl rfl (cell_one_new _ _ _) (by simp [Value.oneCell']) (by omega) (by unfold maxLen; omega) (by omega) (by simp; omega) (wr.heap.size + 1) (by simp) ?_; intro g2 cap2 w2 hown2 hgr2 hat2 _; have HK2 := hid (HSA.out _ _ g2 cap2 hgr2 hown2 hat2); have hsz2 := HK2.out.below.size; have hcl2 := (HK2.out.below.cell (p := ⟨lb, lo2 + m, none⟩) hlb2).trans HCL.out; have hck2 := (HK2.out.below.cell (p := ⟨rb, ro + k, none⟩) hrb2).trans HCK.out; have HQO := hid (HQ.out _ _ _ HK2.out); clear hown2 hgr2 hat2)
                | (at_builtin; refine wpList_append_lies _ rfl (.tmp 63) (.tmp 80) 25 rfl wo.heap.size 3 i0 _ 1 8 Try.underlying25 hi hz0 hz1 hz2 rfl (by decide) (.slice qa q qc) q (ints (upR l.length m r k)) rfl (World.ownsRow.alloc HQO.out _) ⟨w2.heap.size, 0, none⟩ 1 1 [.int .i64 ((m : Int) + 1 + zb)] rfl rfl (cell_one_new _ _ _) (by simp [Value.oneCell']) (by omega) (by unfold maxLen; omega) (by omega) (by simp; omega) (w2.heap.size + 1) (by simp) ?_; intro g3 cap3 w3 hown3 hgr3 hat3 _; have HK3 := hid (HSB.out _ _ _ _ _ g3 cap3 HK2.out hgr3 hown3 hat3); clear hown3 hgr3 hat3))
              go_roundw
              case rel => exact ⟨k + 1, by omega, by go_num, hid HK3.out⟩
              case measure => simp [intOf]; omega
            · have ci : (m : Int) > 0 := by omega
              have ci2 : (0 : Int) < (m : Int) := by omega
              have cn0 : (m : Int) ≠ 0 := by omega
              have HE := hid (HZA.out.1 hm0)
              obtain ⟨_, hmA, hmA2⟩ := HZA.out
              have cu : ¬ (m : Int) < (l.length : Int) - 1 := by omega
              have HF : Hid (upR l.length m r (k + 1) = upR l.length m r k) := hid (by unfold upR; rw [if_neg hmn, if_neg hmn])
              have HPO : Hid (wr.ownsRow wo.heap.size 3 1 (.slice pa p pc) p (ints (dnR m r k))) := hid (by have := HK.out.a; unfold Row at this; rw [hp] at this; exact this)
              have HSA : Hid (∀ (w2 : World) (o : Obj) (g cap : Nat), (wr.alloc o).grownBy w2 (Value.slice pa p pc).ownBlock → w2.ownsRow wo.heap.size 3 1 (.slice (some ⟨g, 0, none⟩) (p + 1) cap) (p + 1) (ints (dnR m r k) ++ [.int .i64 za]) → ((Value.slice pa p pc).ownBlock = some g ∨ g = wr.heap.size + 1) → AB wo w2 (.slice (some ⟨g, 0, none⟩) (p + 1) cap) (.slice qa q qc) (dnR m r (k + 1)) (upR l.length m r k)) := hid (fun w2 o g cap h1 h2 h3 => by
                have := HK.out.stepA (z := za) (g := g) (cap := cap) h1 (by rw [hp]; exact h2) h3
                rw [hp] at this
                rw [HE.out]
                exact this)
              have HQ : Hid (∀ (w2 : World) (v2 : Value) (P2 : List Int), AB wo w2 v2 (.slice qa q qc) P2 (upR l.length m r k) → w2.ownsRow wo.heap.size 3 1 (.slice qa q qc) q (ints (upR l.length m r k))) := hid (fun w2 v2 P2 h1 => by have := h1.b; unfold Row at this; rw [hq] at this; exact this)
              clear hp hq hm0 hmn HZA HZB
              have cm : 0 < m := by omega
              have cm0 : m ≠ 0 := by omega
              go_wp2_with (first
                | (at_builtin; refine wpList_append_lies _ rfl (.tmp 46) (.tmp 57) 25 rfl wo.heap.size 3 i0 _ 1 8 Try.underlying25 hi hz0 hz1 hz2 rfl (by decide) (.slice pa p pc) p (ints (dnR m r k)) rfl (World.ownsRow.alloc HPO.out _) ⟨wr.heap.size, 0, none⟩ 1 1 [.int .i64 za] rfl rfl (cell_one_new _ _ _) (by simp [Value.oneCell']) (by omega) (by unfold maxLen; omega) (by omega) (by simp; omega) (wr.heap.size + 1) (by simp) ?_; intro g2 cap2 w2 hown2 hgr2 hat2 _; have HK2 := hid (HSA.out _ _ g2 cap2 hgr2 hown2 hat2); have hsz2 := HK2.out.below.size; have hcl2 := (HK2.out.below.cell (p := ⟨lb, lo2 + m, none⟩) hlb2).trans HCL.out; have hck2 := (HK2.out.below.cell (p := ⟨rb, ro + k, none⟩) hrb2).trans HCK.out; have HQO := hid (HQ.out _ _ _ HK2.out); clear hown2 hgr2 hat2))
              go_roundw
              case rel => exact ⟨k + 1, by omega, by go_num, hid (by have := HK2.out; rw [← HF.out] at this; exact this)⟩
              case measure => simp [intOf]; omega
          · obtain rfl : k = mm r := by omega
            have HI1 := hid (HI.out.below_ HK.out.below)
            have HRA := hid (HK.out.a.low HSZ.out)
            have HRB := hid (HK.out.b.low HSZ.out)
            have HFA := hid (Row.far HK.out.a HI.out.w)
            have HFB := hid (Row.far HK.out.b HI.out.w)
            have HO1 : Hid (wr.ownsRow w1.heap.size 25 1 (.slice ra m rc) m rs) := hid (by have := HI1.out.r.own; rw [dnL_len] at this; exact this)
            generalize hp : (dnR m r (mm r)).length = p at *
            generalize hq : (upR l.length m r (mm r)).length = q at *
            have HRG : Hid (∀ (w2 : World) (o : Obj) (g cap : Nat), (wr.alloc o).grownBy w2 (Value.slice ra m rc).ownBlock → w2.ownsRow w1.heap.size 25 1 (.slice (some ⟨g, 0, none⟩) (m + 1) cap) (m + 1) (rs ++ [.slice pa p pc]) → ((Value.slice ra m rc).ownBlock = some g ∨ g = wr.heap.size + 1) → RI w1 w2 (.slice (some ⟨g, 0, none⟩) (m + 1) cap) (.slice oa m oc) (.slice wa m wc) (rs ++ [.slice pa p pc]) os (dnL l (m + 1)) (upL2 l l.length m) (nums m) ∧ Row w2 w1.heap.size (.slice qa q qc) (upR l.length m r (mm r))) := hid (fun w2 o g cap h1 h2 h3 => by
              have := HI1.out.ring HRA.out HFA.out (g := g) (cap := cap) h1 (by rw [dnL_len]; exact h2) h3
              rw [dnL_len] at this
              rw [HSD.out]
              have hall : wr.grownBy w2 (Value.slice ra m rc).ownBlock := (World.grownBy_alloc wr o _).trans h1
              exact ⟨this.1, HRB.out.grown hall (fun b hb e => kinds_ne HI1.out.r.own HRB.out e hb)⟩)
            have HOW : Hid (∀ (w2 : World) (rv2 : Value) (rs2 : List Value), RI w1 w2 rv2 (.slice oa m oc) (.slice wa m wc) rs2 os (dnL l (m + 1)) (upL2 l l.length m) (nums m) → w2.ownsRow w1.heap.size 25 1 (.slice oa m oc) m os) := hid (fun w2 rv2 rs2 h1 => by have := h1.o.own; rw [upL2_len] at this; exact this)
            have HA2 : Hid (∀ (w2 w3 : World) (rv2 : Value) (rs2 : List Value) (o : Obj) (g cap : Nat), RI w1 w2 rv2 (.slice oa m oc) (.slice wa m wc) rs2 os (dnL l (m + 1)) (upL2 l l.length m) (nums m) → Row w2 w1.heap.size (.slice qa q qc) (upR l.length m r (mm r)) → (w2.alloc o).grownBy w3 (Value.slice oa m oc).ownBlock → w3.ownsRow w1.heap.size 25 1 (.slice (some ⟨g, 0, none⟩) (m + 1) cap) (m + 1) (os ++ [.slice qa q qc]) → ((Value.slice oa m oc).ownBlock = some g ∨ g = w2.heap.size + 1) → RI w1 w3 rv2 (.slice (some ⟨g, 0, none⟩) (m + 1) cap) (.slice wa m wc) rs2 (os ++ [.slice qa q qc]) (dnL l (m + 1)) (upL2 l l.length (m + 1)) (nums m)) := hid (fun w2 w3 rv2 rs2 o g cap h1 h2 h3 h4 h5 => by
              have := h1.row h2 HFB.out (g := g) (cap := cap) h3 (by rw [upL2_len]; exact h4) h5
              rw [upL2_len] at this
              rw [HSU.out]
              exact this)
            have HWR : Hid (∀ (w3 : World) (rv3 ov3 : Value) (rs3 os3 : List Value) (R3 O3 : List (List Int)), RI w1 w3 rv3 ov3 (.slice wa m wc) rs3 os3 R3 O3 (nums m) → w3.ownsRow w1.heap.size 3 1 (.slice wa m wc) m (ints (nums m))) := hid (fun w3 rv3 ov3 rs3 os3 R3 O3 h1 => by have := h1.w; unfold Row at this; rw [nums_len] at this; exact this)
            have HWT : Hid (∀ (w3 w4 : World) (rv3 ov3 : Value) (rs3 os3 : List Value) (R3 O3 : List (List Int)) (o : Obj) (g cap : Nat), RI w1 w3 rv3 ov3 (.slice wa m wc) rs3 os3 R3 O3 (nums m) → (w3.alloc o).grownBy w4 (Value.slice wa m wc).ownBlock → w4.ownsRow w1.heap.size 3 1 (.slice (some ⟨g, 0, none⟩) (m + 1) cap) (m + 1) (ints (nums m) ++ [.int .i64 (m : Int)]) → ((Value.slice wa m wc).ownBlock = some g ∨ g = w3.heap.size + 1) → RI w1 w4 rv3 ov3 (.slice (some ⟨g, 0, none⟩) (m + 1) cap) rs3 os3 R3 O3 (nums (m + 1))) := hid (fun w3 w4 rv3 ov3 rs3 os3 R3 O3 o g cap h1 h2 h3 h4 => by
              have := h1.want (z := (m : Int)) (g := g) (cap := cap) h2 (by rw [nums_len]; exact h3) h4
              rw [nums_len] at this
              rw [nums_snoc]
              exact this)
            have hmx : mm r < r.length → mm r = 10 := by unfold mm; split <;> omega
            have hszw : w1.heap.size ≤ wr.heap.size := by omega
            clear hp hq
            by_cases hkl : mm r < r.length
            · have hkl' : ((mm r : Nat) : Int) < (r.length : Int) := by omega
              have hk10 : ¬ ((mm r : Nat) : Int) < 10 := by have := hmx hkl; omega
              clear hmx
              generalize mm r = k at *
              go_wp2_with (first
              | (at_builtin; refine wpList_append_lies _ rfl (.tmp 82) (.tmp 84) 22 rfl w1.heap.size 25 i1 _ 1 24 Try.underlying22 hj hy0 hy1 hy2 rfl (by decide) (.slice ra m rc) m rs rfl (World.ownsRow.alloc HO1.out _) ⟨wr.heap.size, 0, none⟩ 1 1 [.slice pa p pc] rfl rfl (cell_one_new _ _ _) (by simp [Value.oneCell']) (by omega) (by unfold maxLen; omega) (by omega) (by simp; omega) (wr.heap.size + 1) (by simp) ?_; intro g2 cap2 w2 hown2 hgr2 hat2 _; obtain ⟨hI2, hR2⟩ := HRG.out _ _ g2 cap2 hgr2 hown2 hat2; have HI2 := hid hI2; have HR2 := hid hR2; have HOO := hid (HOW.out _ _ _ hI2); have hsz2 := hI2.below.size; clear hI2 hR2 hown2 hgr2 hat2)
              | (at_builtin; refine wpList_append_lies _ rfl (.tmp 86) (.tmp 88) 22 rfl w1.heap.size 25 i1 _ 1 24 Try.underlying22 hj hy0 hy1 hy2 rfl (by decide) (.slice oa m oc) m os rfl (World.ownsRow.alloc HOO.out _) ⟨w2.heap.size, 0, none⟩ 1 1 [.slice qa q qc] rfl rfl (cell_one_new _ _ _) (by simp [Value.oneCell']) (by omega) (by unfold maxLen; omega) (by omega) (by simp; omega) (w2.heap.size + 1) (by simp) ?_; intro g3 cap3 w3 hown3 hgr3 hat3 _; have HI3 := hid (HA2.out _ _ _ _ _ g3 cap3 HI2.out HR2.out hgr3 hown3 hat3); have HWW := hid (HWR.out _ _ _ _ _ _ _ HI3.out); have hsz3 := HI3.out.below.size; clear hown3 hgr3 hat3)
              | (at_builtin; refine wpList_append_lies _ rfl (.tmp 90) (.tmp 92) 25 rfl w1.heap.size 3 i0 _ 1 8 Try.underlying25 hi hz0 hz1 hz2 rfl (by decide) (.slice wa m wc) m (ints (nums m)) rfl (World.ownsRow.alloc HWW.out _) ⟨w3.heap.size, 0, none⟩ 1 1 [.int .i64 (m : Int)] rfl rfl (cell_one_new _ _ _) (by simp [Value.oneCell']) (by omega) (by unfold maxLen; omega) (by omega) (by simp; omega) (w3.heap.size + 1) (by simp) ?_; intro g4 cap4 w4 hown4 hgr4 hat4 _; have HI4 := hid (HWT.out _ _ _ _ _ _ _ _ _ g4 cap4 HI3.out hgr4 hown4 hat4); clear hown4 hgr4 hat4))
              go_roundw
              case rel => exact ⟨m + 1, _, _, by omega, by go_num, HI4⟩
              case measure => simp [intOf]; omega
            · have hkl' : ¬ ((mm r : Nat) : Int) < (r.length : Int) := by omega
              clear hmx
              generalize mm r = k at *
              go_wp2_with (first
              | (at_builtin; refine wpList_append_lies _ rfl (.tmp 82) (.tmp 84) 22 rfl w1.heap.size 25 i1 _ 1 24 Try.underlying22 hj hy0 hy1 hy2 rfl (by decide) (.slice ra m rc) m rs rfl (World.ownsRow.alloc HO1.out _) ⟨wr.heap.size, 0, none⟩ 1 1 [.slice pa p pc] rfl rfl (cell_one_new _ _ _) (by simp [Value.oneCell']) (by omega) (by unfold maxLen; omega) (by omega) (by simp; omega) (wr.heap.size + 1) (by simp) ?_; intro g2 cap2 w2 hown2 hgr2 hat2 _; obtain ⟨hI2, hR2⟩ := HRG.out _ _ g2 cap2 hgr2 hown2 hat2; have HI2 := hid hI2; have HR2 := hid hR2; have HOO := hid (HOW.out _ _ _ hI2); have hsz2 := hI2.below.size; clear hI2 hR2 hown2 hgr2 hat2)
              | (at_builtin; refine wpList_append_lies _ rfl (.tmp 86) (.tmp 88) 22 rfl w1.heap.size 25 i1 _ 1 24 Try.underlying22 hj hy0 hy1 hy2 rfl (by decide) (.slice oa m oc) m os rfl (World.ownsRow.alloc HOO.out _) ⟨w2.heap.size, 0, none⟩ 1 1 [.slice qa q qc] rfl rfl (cell_one_new _ _ _) (by simp [Value.oneCell']) (by omega) (by unfold maxLen; omega) (by omega) (by simp; omega) (w2.heap.size + 1) (by simp) ?_; intro g3 cap3 w3 hown3 hgr3 hat3 _; have HI3 := hid (HA2.out _ _ _ _ _ g3 cap3 HI2.out HR2.out hgr3 hown3 hat3); have HWW := hid (HWR.out _ _ _ _ _ _ _ HI3.out); have hsz3 := HI3.out.below.size; clear hown3 hgr3 hat3)
              | (at_builtin; refine wpList_append_lies _ rfl (.tmp 90) (.tmp 92) 25 rfl w1.heap.size 3 i0 _ 1 8 Try.underlying25 hi hz0 hz1 hz2 rfl (by decide) (.slice wa m wc) m (ints (nums m)) rfl (World.ownsRow.alloc HWW.out _) ⟨w3.heap.size, 0, none⟩ 1 1 [.int .i64 (m : Int)] rfl rfl (cell_one_new _ _ _) (by simp [Value.oneCell']) (by omega) (by unfold maxLen; omega) (by omega) (by simp; omega) (w3.heap.size + 1) (by simp) ?_; intro g4 cap4 w4 hown4 hgr4 hat4 _; have HI4 := hid (HWT.out _ _ _ _ _ _ _ _ _ g4 cap4 HI3.out hgr4 hown4 hat4); clear hown4 hgr4 hat4))
              go_roundw
              case rel => exact ⟨m + 1, _, _, by omega, by go_num, HI4⟩
              case measure => simp [intOf]; omega
      · have hlt' : ¬ (m : Int) < (l.length : Int) := by omega
        obtain rfl : m = l.length := by omega
        have HRL : Hid (LL wo wo.heap.size (.slice ra l.length rc) (dnL l l.length)) := hid (by
          have := HI.out.r.ll (by rw [dnL_len]; omega) (fun i hi => by rw [dnL_len] at hi; rw [dnL_row hi]; have h1 := dnR_len i (l.getD i []) (mm (l.getD i [])); have h2 := mm_le (l.getD i []); omega)
          exact this)
        have HOL : Hid (LL wo wo.heap.size (.slice oa l.length oc) (upL2 l l.length l.length)) := hid (by
          have := HI.out.o.ll (by rw [upL2_len]; omega) (fun i hi => by rw [upL2_len] at hi; rw [upL2_row hi]; have h1 := upR_len l.length i (l.getD i []) (mm (l.getD i [])); have h2 := mm_le (l.getD i []); omega)
          exact this)
        have HWL : Hid (Row wo w1.heap.size (.slice wa l.length wc) (nums l.length)) := hid HI.out.w
        have BB := hid (bstep B1.out HI.out.below)
        clear HI
        go_wp2_with (fail)
        refine (of_at wo _ (dnL l l.length) (by have := HRL.out; obtain ⟨ao', c', e1, h2⟩ := this; exact ⟨ao', c', e1, h2⟩) (by rw [dnL_len]; omega)).mono ?_
        rintro e w5 ⟨xv, rfl, hr5, hb5⟩
        rw [ofV_dn] at hr5 ⊢
        obtain ⟨xa, xc, hxe, _⟩ := hr5.at
        rw [nums_len] at hxe
        subst hxe
        have X5 := hid hr5
        have L5 := hid (HOL.out.keepW hb5)
        have W5 := hid (HWL.out.below hb5)
        have B5 := hid (BB.out.trans (hb5.mono BB.out.size))
        clear hr5 hb5
        go_wp2_with (fail)
        refine (of_at w5 _ (upL2 l l.length l.length) (by have := L5.out; obtain ⟨ao', c', e1, h2⟩ := this; exact ⟨ao', c', e1, h2⟩) (by rw [upL2_len]; omega)).mono ?_
        rintro e w6 ⟨yv, rfl, hr6, hb6⟩
        obtain ⟨hu0, hu1, hu2⟩ := ofV_up l l.length
        have HU2 := hid hu2
        have HLST : Hid (0 < l.length → (upL2 l l.length l.length).getD (l.length - 1) [] = []) := hid (fun e => up_last l e)
        rw [hu0]
        have Y6 := hid hr6
        have L6 := hid (L5.out.keepW hb6)
        have X6 := hid (X5.out.below hb6)
        have W6 := hid (W5.out.below hb6)
        have B6 := hid (B5.out.trans (hb6.mono B5.out.size))
        clear hr6 hb6 hu2 hu0
        have hul := upL2_len l l.length l.length
        have HUL := hid hul
        clear hul
        generalize upL2 l l.length l.length = u at *
        generalize (ofV u).1 = y at *
        obtain ⟨ya, yc, hye, _⟩ := Y6.out.at
        rw [hu1] at hye
        subst hye
        have HU1 := hid hu1
        clear hu1
        have X7 := hid (X6.out.rd (by rw [nums_len]; omega))
        have W7 := hid (W6.out.rd (by rw [nums_len]; omega))
        go_wp2_with (fail)
        refine (same_at w6 _ _ _ _ (nums l.length) (nums l.length) X7.out W7.out).mono ?_
        rintro e w8 ⟨rfl, q8, rfl⟩
        have D1 : decide (nums l.length = nums l.length) = true := by simp
        rw [D1]
        clear D1
        have B8 := hid (B6.out.trans ((bdrew w6 q8).mono B6.out.size))
        have L8 := hid (L6.out.keepW (bdrew w6 q8))
        have Y8 := hid ((Y6.out.below (bdrew w6 q8)).rd (by rw [HU1.out]; omega))
        generalize w6.drewN q8 = w8 at *
        clear X7 W7 X6 W6 Y6 L6 B6
        go_wp2_with (fail)
        go_loopw [15] (fun s15 wr => ∃ f : Nat, f ≤ l.length ∧ s15 = .int .i64 (f : Int) ∧ Hid (Below w8.heap.size w8 wr ∧ ∀ i, i < f → u.getD i [] ≠ [])) (fun s15 _ => l.length - (intOf s15).toNat)
        case atStart => exact ⟨0, by omega, rfl, hid ⟨Below.refl _ _, fun i hi => by omega⟩⟩
        case round =>
          obtain ⟨f, hf, rfl, HF⟩ := hrel
          by_cases hfl : f < l.length
          · have hfl' : (f : Int) < (l.length : Int) := by omega
            have L9 := L8.out
            rw [← HUL.out] at L9
            obtain ⟨ub, uo, ao3, c3, hua, hub, huc, hrd⟩ := LL.row L9 (i := f) (by rw [HUL.out]; exact hfl)
            have hrl : (u.getD f []).length ≤ 17592186044416 := by
              obtain ⟨_, _, e, _, h1, _⟩ := hrd
              injection e with _ _ e3
              exact h1.2
            clear L9 hrd
            subst hua
            obtain ⟨ur, hur⟩ : ∃ z, z = u.getD f [] := ⟨_, rfl⟩
            rw [← hur] at huc hrl
            have HUR := hid hur
            clear hur
            have hcu := (HF.out.1.cell (p := ⟨ub, uo + f, none⟩) hub).trans huc
            clear huc
            by_cases hem : ur.length = 0
            · rw [hem] at hcu
              have hn0 : ((l.length : Int) == 0) = false := by rw [beq_eq_false_iff_ne]; omega
              have hn1 : l.length ≠ 0 := by omega
              have hn2 : 0 < l.length := by omega
              have Y9 := Y8.out
              rw [← HU1.out] at Y9
              obtain ⟨yb, yo, hya, hyb, hcy⟩ := Rd.cellAt Y9 (i := 0) (by rw [HU1.out]; omega)
              clear Y9
              subst hya
              have hcy2 := (HF.out.1.cell (p := ⟨yb, yo + 0, none⟩) hyb).trans hcy
              rw [HU2.out f hfl (by rw [← HUR.out]; exact List.length_eq_zero_iff.1 hem) HF.out.2, Nat.add_zero] at hcy2
              clear hcy hem
              go_wp2_with (fail)
              go_ret
              exact ⟨by simp, B8.out.trans (HF.out.1.mono B8.out.size)⟩
            · have hpos : 0 < ur.length := by omega
              have hpos' : (0 : Int) < (ur.length : Int) := by omega
              have HEM := hid hem
              clear hem
              go_wp2_with (fail)
              go_roundw
              case rel => exact ⟨f + 1, by omega, by go_num, hid ⟨HF.out.1, fun i hi e => (by
                by_cases e2 : i < f
                · exact HF.out.2 i e2 e
                · obtain rfl : i = f := by omega
                  exact HEM.out (by rw [HUR.out, e]; rfl))⟩⟩
              case measure => simp [intOf]; omega
          · have hfl' : ¬ (f : Int) < (l.length : Int) := by omega
            obtain rfl : f = l.length := by omega
            by_cases hn : l.length = 0
            · have hn0 : ((l.length : Int) == 0) = true := by rw [beq_iff_eq]; omega
              go_wp2_with (fail)
              go_ret
              exact ⟨by simp, B8.out.trans (HF.out.1.mono B8.out.size)⟩
            · exact (HF.out.2 (l.length - 1) (by omega) (HLST.out (by omega))).elim
end Go.Proofs.Ytdhjedpgdhageaa.Ord
