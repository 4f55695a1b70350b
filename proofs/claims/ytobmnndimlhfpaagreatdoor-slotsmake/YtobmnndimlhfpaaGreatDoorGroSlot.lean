/-
  growSlot: behind every list of this kind forty marks more.
-/
import Derived.Test.YtobmnndimlhfpaaGreatDoorBk2
import Derived.Test.YtobmnndimlhfpaaGreatDoorFilSlot
namespace Go.Proofs.YtobmnndimlhfpaaGreatDoor.Slo
set_option linter.unusedVariables false
open Go.ChangeShapes Go.WideShapes Go.ChangeAt Go.RowKit Go.Joins
theorem inf_Slot : (Tryz.prog.info? 64).map (fun i => (i.zero, i.size, i.bytes)) = some (some (.agg #[.int .i64 0, .int .i64 0, .int .i64 0]), 3, 24) := by kernel_rfl
set_option maxRecDepth 100000 in
set_option maxHeartbeats 4000000 in
theorem grow_Slot (w : World) (bk : Nat) (C : Array Value) (vb : Value) (E : List En) (hbk : w.heap[bk]? = some (.cells C 59 (0, 0))) (hC : C[12]? = some vb) (hK : SlotAt w vb E E.length 0) (hn : E.length < 1000) (hm : ∀ (i : Nat) (a : En), E[i]? = some a → a.m < 100000 ∧ a.k < 1000) :
    Calls Tryz.prog 64 #[.pointer (some ⟨bk, 0, none⟩)] w fun e w' => (∃ x, e = .returned x) ∧ (∃ E1, Same E E1 ∧ SlotAt w' vb E1 E.length E.length) ∧ Mv w w' (fun i => KB E i ∨ vb.ownBlock = some i) := by
  obtain ⟨i0, hi, hz0, hz1, hz2⟩ := info_parts inf_Slot
  have hbn : ¬ (KB E bk ∨ vb.ownBlock = some bk) := fun h => by
    rcases h with ⟨j, a, ha, hb⟩ | hb
    · obtain ⟨xs, hx⟩ := hK.own j a ha
      obtain ⟨c2, h2⟩ := own_type hx hb
      rw [hbk] at h2
      injection h2 with h2
      injection h2 with _ h2 _
      exact absurd h2 (by decide)
    · obtain ⟨c2, h2⟩ := own_type hK.row hb
      rw [hbk] at h2
      injection h2 with h2
      injection h2 with _ h2 _
      exact absurd h2 (by decide)
  obtain ⟨ao, cb, hvb⟩ := own_form hK.row
  subst hvb
  have HBK := hid hbk
  have HM := hid hm
  have HCC := hid hC
  have HK0 := hid hK
  clear hbk hm hC hK
  go_enter Tryz.func64, Tryz.ntmps64
  go_wp2
  go_loopw [2] (fun s2 wr => ∃ (j : Nat) (E1 : List En), j ≤ E.length ∧ s2 = .int .i64 (j : Int) ∧ Hid (Same E E1) ∧ Hid (SlotAt wr (.slice ao E.length cb) E1 E.length j) ∧ Hid (Mv w wr (fun i => KB E i ∨ (Value.slice ao E.length cb).ownBlock = some i))) (fun s2 _ => E.length - (intOf s2).toNat)
  case atStart => exact ⟨0, E, Nat.zero_le _, rfl, hid (Same.refl E), HK0, hid (Mv.refl _ _)⟩
  case round =>
    obtain ⟨j, E1, hj, rfl, HS, HK, HV⟩ := hrel
    have hc1 : wr.cell? ⟨bk, 12, none⟩ = some (.slice ao E.length cb) := (cell_of_row _ _ _ _ 59 (0, 0) (HV.out.cellsRow HBK.out hbn)).trans HCC.out
    by_cases hlt : j < E.length
    · have HL1 : Hid (E1.length = E.length) := hid HS.out.1
      obtain ⟨a, ha⟩ : ∃ a, E1[j]? = some a := ⟨E1[j]'(by rw [HL1.out]; exact hlt), List.getElem?_eq_getElem _⟩
      obtain ⟨gb, hao⟩ : ∃ gb, ao = some ⟨gb, 0, none⟩ := by
        rcases HK.out.row.2 with ⟨h1, h2⟩ | ⟨g, c2, cur, h1, _⟩
        · rw [HL1.out] at h2; omega
        · injection h1 with h1 _ _; exact ⟨g, h1⟩
      subst hao
      have HKr : Hid (SlotAt wr (.slice (some ⟨gb, 0, none⟩) E1.length cb) E1 E1.length j) := hid (by rw [HL1.out]; exact HK.out)
      obtain ⟨e0, e1, e2⟩ := held_cells HKr.out.row ha
      have hlt' : (j : Int) < (E.length : Int) := by omega
      have hj0 : (0 : Int) ≤ (j : Int) := by omega
      obtain ⟨b0, hb0, hb1, hb2, hb3⟩ := HS.out.2 j a ha
      have hma : a.m < 100000 ∧ a.k < 1000 := by have := HM.out j b0 hb0; rw [hb2, hb3] at this; exact this
      have HB0 : Hid (∀ i, a.v.ownBlock = some i → KB E i) := hid (fun i hi => ⟨j, b0, hb0, by rw [hb1]; exact hi⟩)
      have hx0 := HKr.out.fill j a ha (by rw [HL1.out]; exact hlt)
      obtain ⟨va, vc, hva⟩ := own_form hx0
      have Hlt : Hid (∀ b, a.v.ownBlock = some b → b < wr.heap.size) := hid (fun b hb => (own_lo hx0 b hb).2)
      obtain ⟨xb, xl, xc, hxx⟩ := HKr.out.sl j a ha
      rw [hva] at e0
      rw [hxx] at e1
      have HA := hid ha
      have HXX := hid hxx
      have HVA := hid hva
      have HX0 := hid hx0
      clear ha hva hx0 hxx hb0 hb1 hb2 hb3
      go_wp2
      have HK1 : Hid (SlotAt (wr.alloc (.cells #[.slice va a.m vc, .slice xb xl xc, .int .i64 (a.k : Int)] 141)) (.slice (some ⟨gb, 0, none⟩) E1.length cb) E1 E1.length j) := hid (HKr.out.below (balloc _ _))
      have HV1 : Hid (Mv w (wr.alloc (.cells #[.slice va a.m vc, .slice xb xl xc, .int .i64 (a.k : Int)] 141)) (fun i => KB E i ∨ (Value.slice (some ⟨gb, 0, none⟩) E.length cb).ownBlock = some i)) := hid (HV.out.trans (Mv.ofBelow (S := fun _ => False) (balloc _ _)) (fun i hi => hi.elim))
      have HR1 : Hid ((wr.alloc (.cells #[.slice va a.m vc, .slice xb xl xc, .int .i64 (a.k : Int)] 141)).heap[wr.heap.size]? = some (.cells #[.slice va a.m vc, .slice xb xl xc, .int .i64 (a.k : Int)] 141 (0, 0))) := hid (push_new _ _ _ rfl)
      have HG1 : Hid (Gi (wr.alloc (.cells #[.slice va a.m vc, .slice xb xl xc, .int .i64 (a.k : Int)] 141)) (wr.alloc (.cells #[.slice va a.m vc, .slice xb xl xc, .int .i64 (a.k : Int)] 141)) 64 3 (mkSlot a.k) a.v a.m a.v 0) := hid (by
        have h1 : (wr.alloc (.cells #[.slice va a.m vc, .slice xb xl xc, .int .i64 (a.k : Int)] 141)).ownsRow 0 64 3 a.v a.m (rep a.m (mkSlot a.k)) := own_carry HX0.out (fun b hb => Below.heap_alloc _ _ _ (Hlt.out b hb))
        exact ⟨h1, h1, Mv.refl _ _, fun k2 hk2 => (own_lo h1 k2 hk2).2, .inl ⟨va, vc, HVA.out, HVA.out⟩⟩)
      generalize (wr.alloc (.cells #[.slice va a.m vc, .slice xb xl xc, .int .i64 (a.k : Int)] 141)) = W1 at *
      clear hc1 e0 e1 e2 HX0 HK HV HKr
      generalize wr.heap.size = H at *
      rw [HVA.out] at HG1
      go_loopw [4, 5] (fun s4 s5 w2 => ∃ (q : Nat) (la : Option Addr) (lc : Nat), q ≤ 40 ∧ s5 = .int .i64 (q : Int) ∧ s4 = .slice la (a.m + q) lc ∧ Hid (Gi W1 w2 64 3 (mkSlot a.k) (.slice va a.m vc) a.m (.slice la (a.m + q) lc) q)) (fun _ s5 _ => 40 - (intOf s5).toNat)
      case atStart => exact ⟨0, va, vc, by omega, rfl, rfl, HG1⟩
      case round =>
        clear HG1
        obtain ⟨q, la, lc, hq, rfl, rfl, HG⟩ := hrel
        obtain ⟨d2, hHl2⟩ : wr.cell? ⟨H, 2, none⟩ = some (.int .i64 (a.k : Int)) ∧ H < wr.heap.size := by
          have hHlt : H < W1.heap.size := (Array.getElem?_eq_some_iff.1 HR1.out).1
          have hrow := (HG.out.mv.block H hHlt (fun e => by have := Hlt.out H (by rw [HVA.out]; exact e); omega)).trans HR1.out
          exact ⟨(cell_of_row _ _ _ _ 141 (0, 0) hrow).trans rfl, (Array.getElem?_eq_some_iff.1 hrow).1⟩
        by_cases hq40 : q < 40
        · have hq1 : (q : Int) < 40 := by omega
          go_wp2_with (first
            | (go_at_call 100; refine (mark_Slot a.k _ (by omega)).mono ?_; rintro e w5 ⟨rfl, hb5⟩; have HG5 := hid (HG.out.keep hb5); have HG6 := hid (HG5.out.keep (balloc w5 (.cells (mkSlot a.k).toArray 64))); have HNX := hid (next_cells w5 (mkSlot a.k) 64); clear hb5)
            | (at_builtin; refine wpList_append_two rfl _ _ 25 rfl 0 64 i0 (.agg #[.int .i64 0, .int .i64 0, .int .i64 0]) 3 24 Tryz.underlying25 hi hz0 hz1 hz2 rfl (by decide) (.slice la (a.m + q) lc) (a.m + q) (rep (a.m + q) (mkSlot a.k)) rfl HG6.out.own ⟨w5.heap.size, 0, none⟩ 1 1 (mkSlot a.k) rfl rfl HNX.out (by simp [Value.oneCell']) (by omega) (by unfold maxLen; omega) (by omega) (Nat.zero_le _) ?_; intro v2 w7 hown7 hc7; obtain ⟨la2, lc2, rfl⟩ := own_form hown7; have HG7 := hid (Gi.step rfl HG6.out hown7 hc7); clear hown7 hc7))
          go_roundw
          case rel => exact ⟨q + 1, la2, lc2, by omega, by go_num, rfl, HG7⟩
          case measure => simp [intOf]; omega
        · have hq1 : ¬ (q : Int) < 40 := by omega
          have hq4 : q = 40 := by omega
          subst hq4
          have HV2 : Hid (Mv w wr (fun i => KB E i ∨ (Value.slice (some ⟨gb, 0, none⟩) E.length cb).ownBlock = some i)) := hid (HV1.out.trans HG.out.mv (fun i hi => .inl (.inl (HB0.out i (by rw [HVA.out]; exact hi)))))
          have hc1 : wr.cell? ⟨bk, 12, none⟩ = some (.slice (some ⟨gb, 0, none⟩) E.length cb) := (cell_of_row _ _ _ _ 59 (0, 0) (HV2.out.cellsRow HBK.out hbn)).trans HCC.out
          have HGR := hid (HK1.out.grown (by decide) HA.out (by rw [HVA.out]; exact HG.out.mv) (by rw [HVA.out]; exact HG.out.full) HG.out.own (fun k2 hk2 => by
            rcases HG.out.place with ⟨ao, c2, h1, h2⟩ | h1
            · left
              rw [HVA.out, h1]
              rw [h2] at hk2
              cases ao <;> exact hk2
            · exact .inr (h1 k2 hk2)))
          obtain ⟨f1, ff⟩ : wr.cell? ⟨gb, j * 3 + 1, none⟩ = some (.slice xb xl xc) ∧ wr.frozen? ⟨gb, j * 3 + 1, none⟩ = false := by
            obtain ⟨cg, hcg⟩ := own_type HK1.out.row (i := gb) rfl
            have hne : ¬ (Value.slice va a.m vc).ownBlock = some gb := fun e => by
              obtain ⟨c3, h3⟩ := own_type (HK1.out.fill j a HA.out (by rw [HL1.out]; exact hlt)) (i := gb) (by rw [HVA.out]; exact e)
              rw [hcg] at h3
              injection h3 with h3
              injection h3 with _ h3 _
              exact absurd h3 (by decide)
            have hrow := (HG.out.mv.block gb (Array.getElem?_eq_some_iff.1 hcg).1 hne).trans hcg
            obtain ⟨_, h5, _⟩ := held_cells HK1.out.row HA.out
            rw [HXX.out] at h5
            exact ⟨by rw [cell_of_row _ _ _ _ 141 (0, 0) hrow, ← cell_of_row _ _ _ _ 141 (0, 0) hcg]; exact h5, frozen_of_row _ _ _ _ 141 hrow⟩
          have HV3 : Hid (Mv w (wr.setCell ⟨gb, j * 3 + 1, none⟩ (.slice la (a.m + 40) lc)) (fun i => KB E i ∨ (Value.slice (some ⟨gb, 0, none⟩) E.length cb).ownBlock = some i)) := hid (HV2.out.trans (mv_cell _ _ _) (fun i hi => .inl (.inr (by rw [hi]; rfl))))
          have HS2 := hid (HS.out.set HA.out (.slice la (a.m + 40) lc))
          rw [HL1.out] at HGR
          clear d2
          go_wp2
          go_roundw
          case rel => exact ⟨j + 1, _, by omega, by go_num, HS2, HGR, HV3⟩
          case measure => simp [intOf]; omega
    · have hlt' : ¬ (j : Int) < (E.length : Int) := by omega
      obtain rfl : j = E.length := by omega
      go_wp2
      go_end0
      exact ⟨⟨_, rfl⟩, ⟨E1, HS.out, HK.out⟩, HV.out⟩
end Go.Proofs.YtobmnndimlhfpaaGreatDoor.Slo
