/-
  The walk of OrderRing.
-/
import Derived.Test.YtdhjedpgdhageaaRinW
namespace Go.Proofs.Ytdhjedpgdhageaa.Ord
open Go.ChangeShapes Go.WideShapes Go.ChangeAt Go.RowKit Go.Joins
/-- The first lists of a ring, and so on. -/
def rgL (k m : Nat) : List (List Int) := (List.range m).map fun i => [(nx k i : Int)]
def rwL (k a m : Nat) : List (List Int) := (List.range m).map fun i => if i = a then [] else [(nx k i : Int)]
def wtL (k a m : Nat) : List Int := (List.range m).map fun i => (pE k a i : Int)
theorem rgL_len (k m : Nat) : (rgL k m).length = m := by simp [rgL]
theorem rwL_len (k a m : Nat) : (rwL k a m).length = m := by simp [rwL]
theorem wtL_len (k a m : Nat) : (wtL k a m).length = m := by simp [wtL]
theorem rgL_snoc (k m : Nat) : rgL k (m + 1) = rgL k m ++ [[(nx k m : Int)]] := by simp [rgL, List.range_succ]
theorem rwL_snoc (k a m : Nat) : rwL k a (m + 1) = rwL k a m ++ [if m = a then [] else [(nx k m : Int)]] := by simp [rwL, List.range_succ]
theorem wtL_snoc (k a m : Nat) : wtL k a (m + 1) = wtL k a m ++ [(pE k a m : Int)] := by simp [wtL, List.range_succ]
theorem emod_nat (a b : Nat) : ((a : Int)) % (b : Int) = ((a % b : Nat) : Int) := rfl
theorem tmod_nat (a b : Nat) : ((a : Int)).tmod (b : Int) = ((a % b : Nat) : Int) := rfl
set_option maxRecDepth 100000 in
set_option maxHeartbeats 1000000 in
theorem walk6 (n q : Nat) (W : World) (hn : n < 256) (hq : q < 256) : Calls Try.prog 6 #[.int .u8 (n : Int), .int .u8 (q : Int)] W fun e w' => e = .returned (.bool true) ∧ Below W.heap.size W w' := by
  obtain ⟨i0, hi, hz0, hz1, hz2⟩ := info_parts inf3
  obtain ⟨i1, hj, hy0, hy1, hy2⟩ := info_parts inf25
  have hm60b : n % 60 < 60 := Nat.mod_lt _ (by omega)
  have hmqb : q % (n % 60 + 1) < n % 60 + 1 := Nat.mod_lt _ (by omega)
  have hk : ((n : Int) % 60 + 1) = ((n % 60 + 1 : Nat) : Int) := by omega
  have ha : ((q : Int) % ((n % 60 + 1 : Nat) : Int)) = ((q % (n % 60 + 1) : Nat) : Int) := emod_nat _ _
  have HK := hid hk
  have HA := hid ha
  clear hk ha
  go_enter Try.func6, Try.ntmps6
  go_wp2_with (fail)
  rw [HK.out, HA.out]
  have hk60 : n % 60 + 1 ≤ 60 := by omega
  have hkp : 0 < n % 60 + 1 := by omega
  clear HK HA hm60b
  generalize q % (n % 60 + 1) = a at *
  generalize n % 60 + 1 = k at *
  go_loopw [7, 8, 9, 10] (fun s7 s8 s9 s10 wr => ∃ (m : Nat) (rs os : List Value), m ≤ k ∧ s10 = .int .i64 (m : Int) ∧ Hid (RI W wr s7 s8 s9 rs os (rgL k m) (rwL k a m) (wtL k a m))) (fun _ _ _ s10 _ => k - (intOf s10).toNat)
  case atStart => exact ⟨0, [], [], by omega, rfl, hid (RI.start W)⟩
  case round =>
    obtain ⟨m, rs, os, hmk, rfl, HI⟩ := hrel
    obtain ⟨ra, rc, hr7⟩ := own_form HI.out.r.own
    obtain ⟨oa, oc, hr8⟩ := own_form HI.out.o.own
    obtain ⟨wa, wc, hr9⟩ := own_form HI.out.w
    rw [rgL_len] at hr7
    rw [rwL_len] at hr8
    rw [wtL_len] at hr9
    subst hr7 hr8 hr9
    have hsz := HI.out.below.size
    by_cases hlt : m < k
    · have hlt' : (m : Int) < (k : Int) := by omega
      have hmod1 : ((m : Int) + 1) % (k : Int) = (nx k m : Int) := by
        rw [← nx_mod hlt]
        exact emod_nat (m + 1) k
      have hmod2 : ((a : Int) + (k : Int) - (m : Int)) % (k : Int) = (pE k a m : Int) := by
        rw [← pE_mod hmqb hlt, show ((a : Int) + (k : Int) - (m : Int)) = ((a + k - m : Nat) : Int) by omega]
        exact emod_nat (a + k - m) k
      have hmod3 : ((m : Int) + 1).tmod (k : Int) = (nx k m : Int) := by
        rw [← nx_mod hlt]
        exact tmod_nat (m + 1) k
      have hmod4 : ((a : Int) + (k : Int) - (m : Int)).tmod (k : Int) = (pE k a m : Int) := by
        rw [← pE_mod hmqb hlt, show ((a : Int) + (k : Int) - (m : Int)) = ((a + k - m : Nat) : Int) by omega]
        exact tmod_nat (a + k - m) k
      have hk0 : (k : Int) ≠ 0 := by omega
      have hb1 : Below wr.heap.size wr (wr.alloc (.cells #[.int .i64 (nx k m : Int)] 3)) := (Below.refl _ _).alloc (Nat.le_refl _) _
      have HI1 := hid (HI.out.below_ hb1)
      have HWLT : Hid (∀ b, (Value.slice wa m wc).ownBlock = some b → b < wr.heap.size) := hid (fun b e => (HI.out.w.lo b e).2)
      have HO1 : Hid ((wr.alloc (.cells #[.int .i64 (nx k m : Int)] 3)).ownsRow W.heap.size 25 1 (.slice ra m rc) m rs) := hid (by have := HI1.out.r.own; rw [rgL_len] at this; exact this)
      have HNX : Hid (Row (wr.alloc (.cells #[.int .i64 (nx k m : Int)] 3)) W.heap.size (.slice (some ⟨wr.heap.size, 0, none⟩) 1 1) [(nx k m : Int)]) := hid (Row.make (l := [(nx k m : Int)]) hsz (heap_alloc_new wr _) (by simp) (by simp [maxLen]) (by simp) (by simp [ints]))
      have HRG : Hid (∀ (w2 : World) (o : Obj) (g cap : Nat), ((wr.alloc (.cells #[.int .i64 (nx k m : Int)] 3)).alloc o).grownBy w2 (Value.slice ra m rc).ownBlock → w2.ownsRow W.heap.size 25 1 (.slice (some ⟨g, 0, none⟩) (m + 1) cap) (m + 1) (rs ++ [.slice (some ⟨wr.heap.size, 0, none⟩) 1 1]) → ((Value.slice ra m rc).ownBlock = some g ∨ g = wr.heap.size + 1 + 1) → RI W w2 (.slice (some ⟨g, 0, none⟩) (m + 1) cap) (.slice oa m oc) (.slice wa m wc) (rs ++ [.slice (some ⟨wr.heap.size, 0, none⟩) 1 1]) os (rgL k (m + 1)) (rwL k a m) (wtL k a m) ∧ Row w2 W.heap.size (.slice (some ⟨wr.heap.size, 0, none⟩) 1 1) [(nx k m : Int)]) := hid (fun w2 o g cap h1 h2 h3 => by
        have := HI1.out.ring HNX.out (fun b hb e => by have h6 : wr.heap.size = b := (by simpa [Value.ownBlock] using hb); have h7 := HWLT.out b e; omega) (g := g) (cap := cap) h1 (by rw [rgL_len]; exact h2) (h3.imp id (fun e => by rw [e]; simp))
        rw [rgL_len] at this
        rw [rgL_snoc]
        exact this)
      have HOW : Hid (∀ (w2 : World) (rv2 : Value) (rs2 : List Value), RI W w2 rv2 (.slice oa m oc) (.slice wa m wc) rs2 os (rgL k (m + 1)) (rwL k a m) (wtL k a m) → w2.ownsRow W.heap.size 25 1 (.slice oa m oc) m os) := hid (fun w2 rv2 rs2 h1 => by have := h1.o.own; rw [rwL_len] at this; exact this)
      have HWR : Hid (∀ (w3 : World) (rv3 ov3 : Value) (rs3 os3 : List Value) (R3 O3 : List (List Int)), RI W w3 rv3 ov3 (.slice wa m wc) rs3 os3 R3 O3 (wtL k a m) → w3.ownsRow W.heap.size 3 1 (.slice wa m wc) m (ints (wtL k a m))) := hid (fun w3 rv3 ov3 rs3 os3 R3 O3 h1 => by have := h1.w; unfold Row at this; rw [wtL_len] at this; exact this)
      have HWT : Hid (∀ (w3 w4 : World) (rv3 ov3 : Value) (rs3 os3 : List Value) (R3 O3 : List (List Int)) (o : Obj) (g cap : Nat), RI W w3 rv3 ov3 (.slice wa m wc) rs3 os3 R3 O3 (wtL k a m) → (w3.alloc o).grownBy w4 (Value.slice wa m wc).ownBlock → w4.ownsRow W.heap.size 3 1 (.slice (some ⟨g, 0, none⟩) (m + 1) cap) (m + 1) (ints (wtL k a m) ++ [.int .i64 (pE k a m : Int)]) → ((Value.slice wa m wc).ownBlock = some g ∨ g = w3.heap.size + 1) → RI W w4 rv3 ov3 (.slice (some ⟨g, 0, none⟩) (m + 1) cap) rs3 os3 R3 O3 (wtL k a (m + 1))) := hid (fun w3 w4 rv3 ov3 rs3 os3 R3 O3 o g cap h1 h2 h3 h4 => by
        have := h1.want (z := (pE k a m : Int)) (g := g) (cap := cap) h2 (by rw [wtL_len]; exact h3) h4
        rw [wtL_len] at this
        rw [wtL_snoc]
        exact this)
      clear hb1
      by_cases hma : m = a
      · have eqa : ((m : Int) == (a : Int)) = true := by rw [beq_iff_eq]; omega
        have HSN : Hid (rwL k a (m + 1) = rwL k a m ++ [[]]) := hid (by rw [rwL_snoc, if_pos hma])
        have HA2 : Hid (∀ (w2 w3 : World) (rv2 : Value) (rs2 : List Value) (o : Obj) (g cap : Nat), RI W w2 rv2 (.slice oa m oc) (.slice wa m wc) rs2 os (rgL k (m + 1)) (rwL k a m) (wtL k a m) → Row w2 W.heap.size (.slice none 0 0) [] → (w2.alloc o).grownBy w3 (Value.slice oa m oc).ownBlock → w3.ownsRow W.heap.size 25 1 (.slice (some ⟨g, 0, none⟩) (m + 1) cap) (m + 1) (os ++ [.slice none 0 0]) → ((Value.slice oa m oc).ownBlock = some g ∨ g = w2.heap.size + 1) → RI W w3 rv2 (.slice (some ⟨g, 0, none⟩) (m + 1) cap) (.slice wa m wc) rs2 (os ++ [.slice none 0 0]) (rgL k (m + 1)) (rwL k a (m + 1)) (wtL k a m)) := hid (fun w2 w3 rv2 rs2 o g cap h1 h2 h3 h4 h5 => by
          have := h1.row h2 (fun b hb e => by cases hb) (g := g) (cap := cap) h3 (by rw [rwL_len]; exact h4) h5
          rw [rwL_len] at this
          rw [HSN.out]
          exact this)
        clear hma
        go_wp2_with (first
          | (at_builtin; refine wpList_append_lies _ rfl (.tmp 34) (.tmp 36) 22 rfl W.heap.size 25 i1 _ 1 24 Try.underlying22 hj hy0 hy1 hy2 rfl (by decide) (.slice ra m rc) m rs rfl (World.ownsRow.alloc HO1.out _) ⟨wr.heap.size + 1, 0, none⟩ 1 1 [.slice (some ⟨wr.heap.size, 0, none⟩) 1 1] rfl rfl (World.news_of_block (cs := #[.slice (some ⟨wr.heap.size, 0, none⟩) 1 1]) (t := 25) (fr := (0, 0)) (push_new (wr.alloc (.cells #[.int .i64 (nx k m : Int)] 3)) _ (wr.heap.size + 1) (by simp))) (by simp [Value.oneCell']) (by omega) (by unfold maxLen; omega) (by omega) (by simp; omega) (wr.heap.size + 1 + 1) (by simp) ?_; intro g2 cap2 w2 hown2 hgr2 hat2 _; obtain ⟨hI2, hR2⟩ := HRG.out _ _ g2 cap2 hgr2 hown2 hat2; have HI2 := hid hI2; have HR2 := hid hR2; have HOO := hid (HOW.out _ _ _ hI2); have hsz2 := hI2.below.size; clear hI2 hR2 hown2 hgr2 hat2)
          | (at_builtin; refine wpList_append_lies _ rfl (.tmp 41) (.tmp 43) 22 rfl W.heap.size 25 i1 _ 1 24 Try.underlying22 hj hy0 hy1 hy2 rfl (by decide) (.slice oa m oc) m os rfl (World.ownsRow.alloc HOO.out _) ⟨w2.heap.size, 0, none⟩ 1 1 [.slice none 0 0] rfl rfl (cell_one_new _ _ _) (by simp [Value.oneCell']) (by omega) (by unfold maxLen; omega) (by omega) (by simp; omega) (w2.heap.size + 1) (by simp) ?_; intro g3 cap3 w3 hown3 hgr3 hat3 _; have HI3 := hid (HA2.out _ _ _ _ _ g3 cap3 HI2.out (Row.none0 _ _) hgr3 hown3 hat3); have HWW := hid (HWR.out _ _ _ _ _ _ _ HI3.out); have hsz3 := HI3.out.below.size; clear hown3 hgr3 hat3)
          | (at_builtin; refine wpList_append_lies _ rfl (.tmp 45) (.tmp 53) 25 rfl W.heap.size 3 i0 _ 1 8 Try.underlying25 hi hz0 hz1 hz2 rfl (by decide) (.slice wa m wc) m (ints (wtL k a m)) rfl (World.ownsRow.alloc HWW.out _) ⟨w3.heap.size, 0, none⟩ 1 1 [.int .i64 (pE k a m : Int)] rfl rfl (cell_one_new _ _ _) (by simp [Value.oneCell']) (by omega) (by unfold maxLen; omega) (by omega) (by simp; omega) (w3.heap.size + 1) (by simp) ?_; intro g4 cap4 w4 hown4 hgr4 hat4 _; have HI4 := hid (HWT.out _ _ _ _ _ _ _ _ _ g4 cap4 HI3.out hgr4 hown4 hat4); clear hown4 hgr4 hat4))
        go_roundw
        case rel => exact ⟨m + 1, _, _, by omega, by go_num, HI4⟩
        case measure => simp [intOf]; omega
      · have eqa : ((m : Int) == (a : Int)) = false := by rw [beq_eq_false_iff_ne]; omega
        have HSN : Hid (rwL k a (m + 1) = rwL k a m ++ [[(nx k m : Int)]]) := hid (by rw [rwL_snoc, if_neg hma])
        have HA2 : Hid (∀ (w2 w3 : World) (rv2 : Value) (rs2 : List Value) (o : Obj) (g cap : Nat), RI W w2 rv2 (.slice oa m oc) (.slice wa m wc) rs2 os (rgL k (m + 1)) (rwL k a m) (wtL k a m) → Row w2 W.heap.size (.slice (some ⟨wr.heap.size, 0, none⟩) 1 1) [(nx k m : Int)] → (w2.alloc o).grownBy w3 (Value.slice oa m oc).ownBlock → w3.ownsRow W.heap.size 25 1 (.slice (some ⟨g, 0, none⟩) (m + 1) cap) (m + 1) (os ++ [.slice (some ⟨wr.heap.size, 0, none⟩) 1 1]) → ((Value.slice oa m oc).ownBlock = some g ∨ g = w2.heap.size + 1) → RI W w3 rv2 (.slice (some ⟨g, 0, none⟩) (m + 1) cap) (.slice wa m wc) rs2 (os ++ [.slice (some ⟨wr.heap.size, 0, none⟩) 1 1]) (rgL k (m + 1)) (rwL k a (m + 1)) (wtL k a m)) := hid (fun w2 w3 rv2 rs2 o g cap h1 h2 h3 h4 h5 => by
          have := h1.row h2 (fun b hb e => by have h6 : wr.heap.size = b := (by simpa [Value.ownBlock] using hb); have h7 := HWLT.out b e; omega) (g := g) (cap := cap) h3 (by rw [rwL_len]; exact h4) h5
          rw [rwL_len] at this
          rw [HSN.out]
          exact this)
        clear hma
        go_wp2_with (first
          | (at_builtin; refine wpList_append_lies _ rfl (.tmp 34) (.tmp 36) 22 rfl W.heap.size 25 i1 _ 1 24 Try.underlying22 hj hy0 hy1 hy2 rfl (by decide) (.slice ra m rc) m rs rfl (World.ownsRow.alloc HO1.out _) ⟨wr.heap.size + 1, 0, none⟩ 1 1 [.slice (some ⟨wr.heap.size, 0, none⟩) 1 1] rfl rfl (World.news_of_block (cs := #[.slice (some ⟨wr.heap.size, 0, none⟩) 1 1]) (t := 25) (fr := (0, 0)) (push_new (wr.alloc (.cells #[.int .i64 (nx k m : Int)] 3)) _ (wr.heap.size + 1) (by simp))) (by simp [Value.oneCell']) (by omega) (by unfold maxLen; omega) (by omega) (by simp; omega) (wr.heap.size + 1 + 1) (by simp) ?_; intro g2 cap2 w2 hown2 hgr2 hat2 _; obtain ⟨hI2, hR2⟩ := HRG.out _ _ g2 cap2 hgr2 hown2 hat2; have HI2 := hid hI2; have HR2 := hid hR2; have HOO := hid (HOW.out _ _ _ hI2); have hsz2 := hI2.below.size; clear hI2 hR2 hown2 hgr2 hat2)
          | (at_builtin; refine wpList_append_lies _ rfl (.tmp 41) (.tmp 43) 22 rfl W.heap.size 25 i1 _ 1 24 Try.underlying22 hj hy0 hy1 hy2 rfl (by decide) (.slice oa m oc) m os rfl (World.ownsRow.alloc HOO.out _) ⟨w2.heap.size, 0, none⟩ 1 1 [.slice (some ⟨wr.heap.size, 0, none⟩) 1 1] rfl rfl (cell_one_new _ _ _) (by simp [Value.oneCell']) (by omega) (by unfold maxLen; omega) (by omega) (by simp; omega) (w2.heap.size + 1) (by simp) ?_; intro g3 cap3 w3 hown3 hgr3 hat3 _; have HI3 := hid (HA2.out _ _ _ _ _ g3 cap3 HI2.out HR2.out hgr3 hown3 hat3); have HWW := hid (HWR.out _ _ _ _ _ _ _ HI3.out); have hsz3 := HI3.out.below.size; clear hown3 hgr3 hat3)
          | (at_builtin; refine wpList_append_lies _ rfl (.tmp 45) (.tmp 53) 25 rfl W.heap.size 3 i0 _ 1 8 Try.underlying25 hi hz0 hz1 hz2 rfl (by decide) (.slice wa m wc) m (ints (wtL k a m)) rfl (World.ownsRow.alloc HWW.out _) ⟨w3.heap.size, 0, none⟩ 1 1 [.int .i64 (pE k a m : Int)] rfl rfl (cell_one_new _ _ _) (by simp [Value.oneCell']) (by omega) (by unfold maxLen; omega) (by omega) (by simp; omega) (w3.heap.size + 1) (by simp) ?_; intro g4 cap4 w4 hown4 hgr4 hat4 _; have HI4 := hid (HWT.out _ _ _ _ _ _ _ _ _ g4 cap4 HI3.out hgr4 hown4 hat4); clear hown4 hgr4 hat4))
        go_roundw
        case rel => exact ⟨m + 1, _, _, by omega, by go_num, HI4⟩
        case measure => simp [intOf]; omega
    · have hlt' : ¬ (m : Int) < (k : Int) := by omega
      obtain rfl : m = k := by omega
      have HRL : Hid (LL wr wr.heap.size (.slice ra m rc) (ringL m)) := hid (by
        have := HI.out.r.ll (by rw [rgL_len]; omega) (fun i hi => by rw [rgL_len] at hi; simp [rgL, hi])
        exact this)
      have HOL : Hid (LL wr wr.heap.size (.slice oa m oc) (rowL m a)) := hid (by
        have := HI.out.o.ll (by rw [rwL_len]; omega) (fun i hi => by rw [rwL_len] at hi; simp only [rwL, List.getD_eq_getElem?_getD, List.getElem?_map, List.getElem?_range hi, Option.map_some, Option.getD_some]; split <;> simp)
        exact this)
      have HWL : Hid (Row wr W.heap.size (.slice wa m wc) (wantL m a)) := hid HI.out.w
      have BB := hid HI.out.below
      clear HI
      go_wp2_with (fail)
      refine (of_at wr _ (ringL m) (by have := HRL.out; obtain ⟨ao', c', e1, h2⟩ := this; exact ⟨ao', c', e1, h2⟩) (by rw [ringL_len]; omega)).mono ?_
      rintro e w5 ⟨xv, rfl, hr5, hb5⟩
      rw [ofV_ring hkp] at hr5 ⊢
      obtain ⟨xa, xc, hxe, _⟩ := hr5.at
      subst hxe
      have L5 := hid (HOL.out.keepW hb5)
      have W5 := hid (HWL.out.below hb5)
      have B5 := hid (BB.out.trans (hb5.mono BB.out.size))
      clear hr5 hb5
      go_wp2_with (fail)
      refine (of_at w5 _ (rowL m a) (by have := L5.out; obtain ⟨ao', c', e1, h2⟩ := this; exact ⟨ao', c', e1, h2⟩) (by rw [rowL_len]; omega)).mono ?_
      rintro e w6 ⟨yv, rfl, hr6, hb6⟩
      rw [ofV_row hmqb] at hr6 ⊢
      obtain ⟨ya, yc, hye, _⟩ := hr6.at
      subst hye
      have Y6 := hid hr6
      have W6 := hid (W5.out.below hb6)
      have B6 := hid (B5.out.trans (hb6.mono B5.out.size))
      clear hr6 hb6
      go_wp2_with (fail)
      refine (alive_at w6).mono ?_
      rintro e w7 ⟨rfl, b7⟩
      have Y7 := hid ((Y6.out.below b7).rd (by rw [wantL_len]; omega))
      have W7 := hid ((W6.out.below b7).rd (by rw [wantL_len]; omega))
      have B7 := hid (B6.out.trans (b7.mono B6.out.size))
      clear b7
      go_wp2_with (fail)
      refine (same_at w7 _ _ _ _ (wantL m a) (wantL m a) Y7.out W7.out).mono ?_
      rintro e w8 ⟨rfl, q8, rfl⟩
      have D1 : decide (wantL m a = wantL m a) = true := by simp
      rw [D1]
      clear D1
      go_wp2_with (fail)
      go_ret
      exact ⟨rfl, B7.out.trans ((bdrew w7 q8).mono B7.out.size)⟩
end Go.Proofs.Ytdhjedpgdhageaa.Ord
