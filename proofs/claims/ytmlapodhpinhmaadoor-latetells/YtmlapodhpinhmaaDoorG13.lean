/-
  May flows be so late: the contract of the reference's Check.
  How old what is asked for is: the contract of the reference's Age.
  A twin of a row of numbers, and whether it was left as it was.
  The walk of LateTells.
-/
import Derived.Test.YtmlapodhpinhmaaDoorG10
import Derived.Test.YtmlapodhpinhmaaDoorG12
import Derived.Test.YtmlapodhpinhmaaDoorG9
import Derived.Test.YtmlapodhpinhmaaDoorG8
import Derived.Test.YtmlapodhpinhmaaDoorG7
namespace Go.Proofs.YtmlapodhpinhmaaDoor.Lex
open Go.ChangeShapes Go.WideShapes Go.ChangeAt Go.RowKit Go.Joins
theorem lateOk_nm {p : Pg} {l : List Int} (h : nmErr p ≠ 0) : lateOk p l = false := by unfold lateOk; simp [h]
theorem lateOk_len {p : Pg} {l : List Int} (h : l.length ≠ p.flows.length) : lateOk p l = false := by unfold lateOk; simp [h]
theorem lateOk_out {p : Pg} {l : List Int} {k : Nat} (hk : k < l.length) (h : lateAt l (k : Int) < 0 ∨ 1000 < lateAt l (k : Int)) : lateOk p l = false := by
  have ho : anyOut l = true := by
    unfold anyOut
    rw [List.any_eq_true]
    refine ⟨l[k], List.getElem_mem _, ?_⟩
    rw [← lateAt_nat l k hk]
    unfold outB
    rcases h with h | h <;> simp [h]
  unfold lateOk
  rw [ho]
  simp
theorem lateOk_age {p : Pg} {l : List Int} {k : Nat} (hk : k < p.flows.length) {x : Wi} (hx : x ∈ wishL p k) (h : ageV l x < 0) : lateOk p l = false := by
  have hag : agesOk p l = false := by
    unfold agesOk
    rw [List.all_eq_false]
    exact ⟨x, List.mem_flatMap.2 ⟨k, List.mem_range.2 hk, hx⟩, by simp; omega⟩
  unfold lateOk
  rw [hag]
  simp
theorem lateOk_all {p : Pg} {l : List Int} (hE : nmErr p = 0) (hl : l.length = p.flows.length) (ho : ∀ k : Nat, k < l.length → 0 ≤ lateAt l (k : Int) ∧ lateAt l (k : Int) ≤ 1000) (ha : ∀ k : Nat, k < p.flows.length → ∀ x ∈ wishL p k, 0 ≤ ageV l x) : lateOk p l = true := by
  have h1 : anyOut l = false := by
    unfold anyOut
    rw [List.any_eq_false]
    intro a hm
    obtain ⟨i, hi, rfl⟩ := List.getElem_of_mem hm
    have := ho i hi
    rw [lateAt_nat l i hi] at this
    unfold outB
    simp
    omega
  have h2 : agesOk p l = true := by
    unfold agesOk
    rw [List.all_eq_true]
    intro x hx
    obtain ⟨k, hk, hx⟩ := List.mem_flatMap.1 hx
    have := ha k (List.mem_range.1 hk) x hx
    simpa using this
  unfold lateOk
  rw [h1, h2]
  simp [hE, hl]
theorem mild_at {l : List Int} (ho : ∀ k : Nat, k < l.length → 0 ≤ lateAt l (k : Int) ∧ lateAt l (k : Int) ≤ 1000) : Mild l := by
  intro a hm
  obtain ⟨i, hi, rfl⟩ := List.getElem_of_mem hm
  have := ho i hi
  rw [lateAt_nat l i hi] at this
  omega
set_option maxRecDepth 100000 in
set_option maxHeartbeats 8000000 in
theorem rlate (p : Pg) (l : List Int) (v : Value) (w : World) (a b c : Value) (hP : PgAt w p a b c) (hI : IAt w l v) (hR : TabR w) (hJ : TabJ w) :
    Calls Tryd.prog 14 #[pgV p a b c, v] w fun e w' => e = .returned (.bool (lateOk p l)) ∧ Below w.heap.size w w' := by
  obtain ⟨A0, A1, rfl, _⟩ := hP.ins
  obtain ⟨B0, B1, SL, rfl, hfl, _, _, hfc, hfs⟩ := hP.flows
  have HFC := hid hfc
  have HFS := hid hfs
  clear hfc hfs
  obtain ⟨C0, C1, rfl, _⟩ := hP.outs
  have hI' := hI
  obtain ⟨ao, cap, rfl, ⟨hcap, hlen⟩, hc⟩ := hI
  have HI := hid hI'
  have HLC := hid hc
  have X0 := hid (FV.new hP hR hJ)
  clear hP hR hJ hI' hc
  obtain ⟨W0, hW0⟩ : ∃ W0, W0 = w.alloc (.cells (pgC p (.slice A0 p.ins.length A1) (.slice B0 p.flows.length B1) (.slice C0 p.outs.length C1)) 26) := ⟨_, rfl⟩
  rw [← hW0] at X0
  obtain ⟨r0, r1, r2, r3⟩ := row4 X0.out.row
  rw [hW0] at r0 r1 r2 r3
  go_enter Tryd.func14, Tryd.ntmps14
  go_wp2_with (fail)
  rw [← hW0]
  clear hW0 r0 r1 r2 r3
  refine (rnames p _ _ _ _ X0.out.P X0.out.R X0.out.J).mono ?_
  rintro e w1 ⟨rfl, hb1⟩
  have X1 := hid (X0.out.keep hb1)
  clear hb1 X0
  obtain ⟨s0, s1, s2, s3⟩ := row4 X1.out.row
  by_cases hE : nmErr p = 0
  · have HE := hid hE
    rw [hE]
    clear hE
    by_cases hll : l.length = p.flows.length
    · have HLL := hid hll
      have hll' : ((l.length : Int) != (p.flows.length : Int)) = false := by simp [hll]
      clear hll
      go_wp2_with (fail)
      clear s0 s1 s2 s3
      go_loopw [5] (fun i wr => ∃ k : Nat, k ≤ l.length ∧ i = .int .i64 (k : Int) ∧ Hid (Below w1.heap.size w1 wr) ∧ Hid (∀ j : Nat, j < k → 0 ≤ lateAt l (j : Int) ∧ lateAt l (j : Int) ≤ 1000)) (fun i _ => l.length - (intOf i).toNat)
      case atStart => exact ⟨0, Nat.zero_le _, rfl, hid (Below.refl _ _), hid (fun j hj => by omega)⟩
      case round =>
        obtain ⟨k, hk, rfl, HBK, HOK⟩ := hrel
        by_cases hkl : k < l.length
        · have hkl' : (k : Int) < (l.length : Int) := by omega
          have hk0 : (0 : Int) ≤ (k : Int) := by omega
          obtain ⟨lb, lo, rfl, hcc⟩ := HLC.out.resolve_left (by omega)
          have z0 := cell_kept (hcc k hkl) (X1.out.below.trans (HBK.out.mono X1.out.below.size))
          rw [← lateAt_nat l k hkl] at z0
          have HB := hid (X1.out.below.trans (HBK.out.mono X1.out.below.size))
          have HO1 : Hid (lateAt l (k : Int) < 0 ∨ 1000 < lateAt l (k : Int) → lateOk p l = false) := hid (lateOk_out hkl)
          have HO2 : Hid (0 ≤ lateAt l (k : Int) ∧ lateAt l (k : Int) ≤ 1000 → ∀ j : Nat, j < k + 1 → 0 ≤ lateAt l (j : Int) ∧ lateAt l (j : Int) ≤ 1000) := hid (fun h j hj => by
            rcases Nat.lt_or_ge j k with h1 | h1
            · exact HOK.out j h1
            · obtain rfl : j = k := by omega
              exact h)
          clear hcc
          generalize lateAt l (k : Int) = F at z0 HO1 HO2
          by_cases h1 : F < 0
          · have HF := hid (HO1.out (.inl h1))
            clear HO1 HO2
            go_wp2_with (fail)
            go_ret
            exact ⟨by rw [HF.out]; rfl, HB.out⟩
          · by_cases h2 : 1000 < F
            · have HF := hid (HO1.out (.inr h2))
              have h2' : F > 1000 := h2
              clear HO1 HO2
              go_wp2_with (fail)
              go_ret
              exact ⟨by rw [HF.out]; rfl, HB.out⟩
            · have HF := hid (HO2.out (by omega))
              have h2' : ¬ F > 1000 := h2
              clear HO1 HO2
              go_wp2_with (fail)
              go_roundw
              case rel => exact ⟨k + 1, by omega, by go_num, HBK, HF⟩
              case measure => simp [intOf]; omega
        · have hkl' : ¬ (k : Int) < (l.length : Int) := by omega
          have HO : Hid (∀ j : Nat, j < l.length → 0 ≤ lateAt l (j : Int) ∧ lateAt l (j : Int) ≤ 1000) := hid (fun j hj => HOK.out j (by omega))
          have HM := hid (mild_at HO.out)
          obtain ⟨w5, rfl⟩ : ∃ w5, w5 = wr := ⟨_, rfl⟩
          have X5 := hid (X1.out.keep HBK.out)
          clear HOK
          go_wp2_with (fail)
          clear hkl hkl' hk HBK
          go_loopw [6] (fun i wr => ∃ k : Nat, k ≤ l.length ∧ i = .int .i64 (k : Int) ∧ Hid (Below w5.heap.size w5 wr) ∧ Hid (∀ j : Nat, j < k → ∀ x ∈ wishL p j, 0 ≤ ageV l x)) (fun i _ => l.length - (intOf i).toNat)
          case atStart => exact ⟨0, Nat.zero_le _, rfl, hid (Below.refl _ _), hid (fun j hj => by omega)⟩
          case round =>
            obtain ⟨k, hk, rfl, HBK, HOK⟩ := hrel
            obtain ⟨w6, rfl⟩ : ∃ w6, w6 = wr := ⟨_, rfl⟩
            have X6 := hid (X5.out.keep HBK.out)
            by_cases hkl : k < l.length
            · have hkl' : (k : Int) < (l.length : Int) := by omega
              have HKP := hid (show k < p.flows.length by rw [← HLL.out]; exact hkl)
              have hkp' : (k : Int) < (p.flows.length : Int) := by have := HKP.out; omega
              have hk0 : (0 : Int) ≤ (k : Int) := by omega
              have hLW := wishL_at HKP.out
              have HWO := hid (wishL_ok (nm_chk HE.out) HKP.out)
              obtain ⟨lb, lo, rfl, hlc⟩ := HLC.out.resolve_left (by omega)
              have HLK := hid (hlc k hkl)
              clear hlc
              obtain ⟨fb, fo, rfl, hcc⟩ := HFC.out.resolve_left (by have := HKP.out; omega)
              have FX := (hcc k HKP.out).keep X6.out.below
              have hSt := (HFS.out k HKP.out).keep X6.out.below
              obtain ⟨a3, c3, _, e3, _⟩ := (HFS.out k HKP.out).out
              rw [e3] at FX hSt
              have hnm := chk_nm (nm_chk HE.out _ (List.getElem_mem HKP.out))
              obtain ⟨q0, q1, q2, q3, q4, q5, q6, q7⟩ := FX
              obtain ⟨s0, s1, s2, s3⟩ := row4 X6.out.row
              have c29 := rrefs 32 p.flows[k].body _ _ hSt hnm.1 (by omega) (by omega)
              have HLW := hid hLW
              have HLS := hid (show ∀ r ∈ gat 32 p.flows[k].body 0 [], WiOk p.flows.length (mkW p k p.flows[k].st r) from fun r hr => HWO.out _ (by rw [HLW.out]; exact List.mem_map.2 ⟨r, hr, rfl⟩))
              have hGl : (gat 32 p.flows[k].body 0 []).length ≤ 1000000 := by have h1 := gat_len 32 p.flows[k].body 0 []; have h2 := hnm.2; simp at h1; omega
              clear hcc e3 hSt hnm hLW HWO
              have HST : Hid (∀ r : Rf, mkW p k p.flows[k].st r = mkW p k p.flows[k].st r) := hid (fun _ => rfl)
              generalize hG : gat 32 p.flows[k].body 0 [] = G at *
              have HG := hid hG
              clear hG
              go_wp2_with (fail)
              refine c29.mono ?_
              rintro e w7 ⟨rv, rfl, hrow, hb7⟩
              obtain ⟨ra, rc, rfl, hrf⟩ := RfAt.of_own hrow
              have X7 := hid (X6.out.keep hb7)
              have HRF := hid hrf
              have HB7 := hid (HBK.out.trans (hb7.mono HBK.out.size))
              clear hrow hrf hb7 c29 q0 q1 q2 q3 q4 q5 q6 q7 s0 s1 s2 s3
              go_wp2_with (fail)
              go_loopw [8] (fun j vr => ∃ m : Nat, m ≤ G.length ∧ j = .int .i64 (m : Int) ∧ Hid (Below w7.heap.size w7 vr) ∧ Hid (∀ q : Nat, ∀ h : q < G.length, q < m → 0 ≤ ageV l (mkW p k p.flows[k].st G[q]))) (fun j _ => G.length - (intOf j).toNat)
              case atStart => exact ⟨0, Nat.zero_le _, rfl, hid (Below.refl _ _), hid (fun j _ hj => by omega)⟩
              case round =>
                obtain ⟨m, hm, rfl, HBV, HQ⟩ := hrel
                obtain ⟨vr, rfl⟩ : ∃ vr, vr = wr := ⟨_, rfl⟩
                have XR := hid (X7.out.keep HBV.out)
                by_cases hml : m < G.length
                · have hml' : (m : Int) < (G.length : Int) := by omega
                  have hm0 : (0 : Int) ≤ (m : Int) := by omega
                  obtain ⟨g, rfl, hcc⟩ := HRF.out.resolve_left (by omega)
                  have u0 := cell_kept (hcc m hml).1 HBV.out
                  have u1 := cell_kept (hcc m hml).2 HBV.out
                  have u2 := cell_kept HLK.out XR.out.below
                  rw [← lateAt_nat l k hkl] at u2
                  obtain ⟨s0, s1, s2, s3⟩ := row4 XR.out.row
                  have hx := HLS.out G[m] (List.getElem_mem hml)
                  have c35 := rleast p l _ k G[m] vr.drew _ _ _ (XR.out.P.keep (Below.refl _ _).drew) ((HI.out.keep XR.out.below).keep (Below.refl _ _).drew) HKP.out HLL.out hx HM.out
                  have HV : Hid (ageV l (mkW p k p.flows[k].st G[m]) = lateAt l (k : Int) - lstV l (mkW p k p.flows[k].st G[m])) := hid (age_lst l (mkW p k p.flows[k].st G[m]))
                  have HBAD : Hid (ageV l (mkW p k p.flows[k].st G[m]) < 0 → lateOk p l = false) := hid (lateOk_age HKP.out (by rw [HLW.out]; exact List.mem_map.2 ⟨G[m], List.getElem_mem hml, rfl⟩))
                  have HGOOD : Hid (0 ≤ ageV l (mkW p k p.flows[k].st G[m]) → ∀ q : Nat, ∀ h : q < G.length, q < m + 1 → 0 ≤ ageV l (mkW p k p.flows[k].st G[q])) := hid (fun h q hq hlt => by
                    rcases Nat.lt_or_ge q m with h1 | h1
                    · exact HQ.out q hq h1
                    · obtain rfl : q = m := by omega
                      exact h)
                  clear hcc hx
                  generalize ageV l (mkW p k p.flows[k].st G[m]) = AV at HV HBAD HGOOD
                  generalize lstV l (mkW p k p.flows[k].st G[m]) = LV at HV c35
                  generalize lateAt l (k : Int) = LK at HV u2
                  generalize G[m] = z at c35 u0 u1
                  go_wp2_with (fail)
                  refine wp_region_held_drew (S := fun W => (W.cell? ⟨w.heap.size, 0, none⟩ = some (.int .i64 p.st) ∧ W.cell? ⟨w.heap.size, 1, none⟩ = some (.slice A0 p.ins.length A1) ∧ W.cell? ⟨w.heap.size, 2, none⟩ = some (.slice (some ⟨fb, fo, none⟩) p.flows.length B1) ∧ W.cell? ⟨w.heap.size, 3, none⟩ = some (.slice C0 p.outs.length C1)) ∧ W.cell? ⟨g, m * 2, none⟩ = some (.string z.1) ∧ W.cell? ⟨g, m * 2 + 1, none⟩ = some (.int .i64 (z.2 : Int)) ∧ W.cell? ⟨lb, lo + k, none⟩ = some (.int .i64 LK)) (by kernel_rfl) ?_ (fun hHeld => ?_)
                  · exact ⟨⟨s0, s1, s2, s3⟩, u0, u1, u2⟩
                  refine wpAnyH_take (i := 0) (oi := { dst := some 57, op := Go.Op.load 26 (Go.Operand.tmp 2), type := 26, pos := _, after := #[], guard := none }) (v := ?_) rfl (by kernel_rfl) (by kernel_rfl) (by kernel_rfl) (fun _ _ _ h => h) (Or.inl ⟨by rfl, ?_⟩) (by assumption) ?_
                  rotate_left
                  · intro w hSw; (try dsimp only at hSw); go_simp <;> first | with_reducible rfl | (rw [if_neg (by first | omega | (simp only [ByteArray.size_append] at *; omega))])
                  simp only [Act.put, List.setIfInBounds_toArray, List.set_cons_zero, List.set_cons_succ]
                  refine wpAnyH_take (i := 1) (oi := { dst := some 58, op := Go.Op.move (Go.Operand.tmp 1), type := 27, pos := _, after := #[], guard := none }) (v := ?_) rfl (by kernel_rfl) (by kernel_rfl) (by kernel_rfl) (fun _ _ _ h => h) (Or.inl ⟨by rfl, ?_⟩) (by assumption) ?_
                  rotate_left
                  · intro w hSw; (try dsimp only at hSw); go_simp <;> first | with_reducible rfl | (rw [if_neg (by first | omega | (simp only [ByteArray.size_append] at *; omega))])
                  simp only [Act.put, List.setIfInBounds_toArray, List.set_cons_zero, List.set_cons_succ]
                  refine wpAnyH_take (i := 2) (oi := { dst := some 59, op := Go.Op.move (Go.Operand.tmp 6), type := 3, pos := _, after := #[], guard := none }) (v := ?_) rfl (by kernel_rfl) (by kernel_rfl) (by kernel_rfl) (fun _ _ _ h => h) (Or.inl ⟨by rfl, ?_⟩) (by assumption) ?_
                  rotate_left
                  · intro w hSw; (try dsimp only at hSw); go_simp <;> first | with_reducible rfl | (rw [if_neg (by first | omega | (simp only [ByteArray.size_append] at *; omega))])
                  simp only [Act.put, List.setIfInBounds_toArray, List.set_cons_zero, List.set_cons_succ]
                  refine wpAnyH_take (i := 3) (oi := { dst := some 60, op := Go.Op.move (Go.Operand.tmp 7), type := 47, pos := _, after := #[], guard := none }) (v := ?_) rfl (by kernel_rfl) (by kernel_rfl) (by kernel_rfl) (fun _ _ _ h => h) (Or.inl ⟨by rfl, ?_⟩) (by assumption) ?_
                  rotate_left
                  · intro w hSw; (try dsimp only at hSw); go_simp <;> first | with_reducible rfl | (rw [if_neg (by first | omega | (simp only [ByteArray.size_append] at *; omega))])
                  simp only [Act.put, List.setIfInBounds_toArray, List.set_cons_zero, List.set_cons_succ]
                  refine wpAnyH_take (i := 4) (oi := { dst := some 61, op := Go.Op.move (Go.Operand.tmp 8), type := 3, pos := _, after := #[], guard := none }) (v := ?_) rfl (by kernel_rfl) (by kernel_rfl) (by kernel_rfl) (fun _ _ _ h => h) (Or.inl ⟨by rfl, ?_⟩) (by assumption) ?_
                  rotate_left
                  · intro w hSw; (try dsimp only at hSw); go_simp <;> first | with_reducible rfl | (rw [if_neg (by first | omega | (simp only [ByteArray.size_append] at *; omega))])
                  simp only [Act.put, List.setIfInBounds_toArray, List.set_cons_zero, List.set_cons_succ]
                  refine wpAnyH_take (i := 5) (oi := { dst := some 62, op := Go.Op.indexAddr 47 (Go.Operand.tmp 60) (Go.Operand.tmp 61), type := 0, pos := _, after := #[{ on := 3, ground := Go.Ground.data }, { on := 4, ground := Go.Ground.data }], guard := none }) (v := ?_) rfl (by kernel_rfl) (by kernel_rfl) (by kernel_rfl) (fun _ _ _ h => h) (Or.inl ⟨by rfl, ?_⟩) (by assumption) ?_
                  rotate_left
                  · intro w hSw; (try dsimp only at hSw); go_simp <;> first | with_reducible rfl | (rw [if_neg (by first | omega | (simp only [ByteArray.size_append] at *; omega))])
                  simp only [Act.put, List.setIfInBounds_toArray, List.set_cons_zero, List.set_cons_succ]
                  refine wpAnyH_take (i := 6) (oi := { dst := some 63, op := Go.Op.load 29 (Go.Operand.tmp 62), type := 29, pos := _, after := #[{ on := 5, ground := Go.Ground.data }], guard := none }) (v := ?_) rfl (by kernel_rfl) (by kernel_rfl) (by kernel_rfl) (fun _ _ _ h => h) (Or.inl ⟨by rfl, ?_⟩) (by assumption) ?_
                  rotate_left
                  · intro w hSw; (try dsimp only at hSw); go_simp <;> first | with_reducible rfl | (rw [if_neg (by first | omega | (simp only [ByteArray.size_append] at *; omega))])
                  simp only [Act.put, List.setIfInBounds_toArray, List.set_cons_zero, List.set_cons_succ]
                  refine wpAnyH_take (i := 8) (oi := { dst := some 65, op := Go.Op.move (Go.Operand.tmp 1), type := 27, pos := _, after := #[], guard := none }) (v := ?_) rfl (by kernel_rfl) (by kernel_rfl) (by kernel_rfl) (fun _ _ _ h => h) (Or.inl ⟨by rfl, ?_⟩) (by assumption) ?_
                  rotate_left
                  · intro w hSw; (try dsimp only at hSw); go_simp <;> first | with_reducible rfl | (rw [if_neg (by first | omega | (simp only [ByteArray.size_append] at *; omega))])
                  simp only [Act.put, List.setIfInBounds_toArray, List.set_cons_zero, List.set_cons_succ]
                  refine wpAnyH_take (i := 9) (oi := { dst := some 66, op := Go.Op.move (Go.Operand.tmp 6), type := 3, pos := _, after := #[], guard := none }) (v := ?_) rfl (by kernel_rfl) (by kernel_rfl) (by kernel_rfl) (fun _ _ _ h => h) (Or.inl ⟨by rfl, ?_⟩) (by assumption) ?_
                  rotate_left
                  · intro w hSw; (try dsimp only at hSw); go_simp <;> first | with_reducible rfl | (rw [if_neg (by first | omega | (simp only [ByteArray.size_append] at *; omega))])
                  simp only [Act.put, List.setIfInBounds_toArray, List.set_cons_zero, List.set_cons_succ]
                  refine wpAnyH_take (i := 10) (oi := { dst := some 67, op := Go.Op.indexAddr 27 (Go.Operand.tmp 65) (Go.Operand.tmp 66), type := 0, pos := _, after := #[{ on := 8, ground := Go.Ground.data }, { on := 9, ground := Go.Ground.data }], guard := none }) (v := ?_) rfl (by kernel_rfl) (by kernel_rfl) (by kernel_rfl) (fun _ _ _ h => h) (Or.inl ⟨by rfl, ?_⟩) (by assumption) ?_
                  rotate_left
                  · intro w hSw; (try dsimp only at hSw); go_simp <;> first | with_reducible rfl | (rw [if_neg (by first | omega | (simp only [ByteArray.size_append] at *; omega))])
                  simp only [Act.put, List.setIfInBounds_toArray, List.set_cons_zero, List.set_cons_succ]
                  refine wpAnyH_take (i := 11) (oi := { dst := some 68, op := Go.Op.load 3 (Go.Operand.tmp 67), type := 3, pos := _, after := #[{ on := 10, ground := Go.Ground.data }], guard := none }) (v := ?_) rfl (by kernel_rfl) (by kernel_rfl) (by kernel_rfl) (fun _ _ _ h => h) (Or.inl ⟨by rfl, ?_⟩) (by assumption) ?_
                  rotate_left
                  · intro w hSw; (try dsimp only at hSw); go_simp <;> first | with_reducible rfl | (rw [if_neg (by first | omega | (simp only [ByteArray.size_append] at *; omega))])
                  simp only [Act.put, List.setIfInBounds_toArray, List.set_cons_zero, List.set_cons_succ]
                  refine wpAnyH_ready (rs := [7]) (by kernel_rfl) (by simp) ?_
                  refine AllReadyH.cons (o := { dst := some 64, op := Go.Op.call { callee := Go.Callee.value (Go.Operand.func 35), args := #[Go.Operand.tmp 57, Go.Operand.tmp 58, Go.Operand.tmp 59, Go.Operand.tmp 63], argTypes := #[26, 27, 3, 29] }, type := 3, pos := _, after := #[{ on := 0, ground := Go.Ground.data }, { on := 1, ground := Go.Ground.data }, { on := 2, ground := Go.Ground.data }, { on := 6, ground := Go.Ground.data }], guard := none }) rfl (fun K hK => ?_) AllReadyH.nil
                  go_simp
                  refine c35.mono ?_
                  rintro e v4 ⟨rfl, hb4d⟩
                  have hb4 : Below vr.heap.size vr v4 := (Below.refl _ vr).drew.trans (hb4d.mono (by simp))
                  have HB4 := hid hb4
                  have n0 := cell_kept s0 hb4
                  have n1 := cell_kept s1 hb4
                  have n2 := cell_kept s2 hb4
                  have n3 := cell_kept s3 hb4
                  have n4 := cell_kept u0 hb4
                  have n5 := cell_kept u1 hb4
                  have n6 := cell_kept u2 hb4
                  clear hb4 hb4d
                  go_wp2_with fail
                  refine hK.out _ _ ?_ (fun hHeld1 => ?_)
                  · exact ⟨⟨n0, n1, n2, n3⟩, n4, n5, n6⟩
                  clear hK K
                  refine wpAnyH_take (i := 12) (oi := { dst := some 69, op := Go.Op.binOp Go.BinOp.gtr 3 (Go.Operand.tmp 64) (Go.Operand.tmp 68) 3, type := 4, pos := _, after := #[{ on := 7, ground := Go.Ground.data }, { on := 11, ground := Go.Ground.data }], guard := none }) (v := ?_) rfl (by kernel_rfl) (by kernel_rfl) (by kernel_rfl) (fun _ _ _ h => h) (Or.inl ⟨by rfl, ?_⟩) (by assumption) ?_
                  rotate_left
                  · intro w hSw; (try dsimp only at hSw); go_simp <;> first | with_reducible rfl | (rw [if_neg (by first | omega | (simp only [ByteArray.size_append] at *; omega))])
                  simp only [Act.put, List.setIfInBounds_toArray, List.set_cons_zero, List.set_cons_succ]
                  refine wpAnyH_done (by kernel_rfl) ?_ _
                  by_cases hlt : LK < LV
                  · have hlt' : LV > LK := hlt
                    have HF := hid (HBAD.out (by rw [HV.out]; omega))
                    have HB := hid (XR.out.below.trans (HB4.out.mono XR.out.below.size))
                    go_wp2_with (fail)
                    go_ret
                    exact ⟨by rw [HF.out]; rfl, HB.out⟩
                  · have hlt' : ¬ LV > LK := hlt
                    have HF := hid (HGOOD.out (by rw [HV.out]; omega))
                    go_wp2_with (fail)
                    go_roundw
                    case rel => exact ⟨m + 1, by omega, by go_num, hid (HBV.out.trans (HB4.out.mono HBV.out.size)), HF⟩
                    case measure => simp [intOf]; omega
                · have hml' : ¬ (m : Int) < (G.length : Int) := by omega
                  have HN : Hid (∀ j : Nat, j < k + 1 → ∀ x ∈ wishL p j, 0 ≤ ageV l x) := hid (fun j hj x hx => by
                    rcases Nat.lt_or_ge j k with h1 | h1
                    · exact HOK.out j h1 x hx
                    · obtain rfl : j = k := by omega
                      rw [HLW.out] at hx
                      obtain ⟨r, hr, rfl⟩ := List.mem_map.1 hx
                      obtain ⟨q, hq, rfl⟩ := List.getElem_of_mem hr
                      exact HQ.out q hq (by omega))
                  go_wp2_with (fail)
                  go_roundw
                  case rel => exact ⟨k + 1, by omega, by go_num, hid (HB7.out.trans (HBV.out.mono HB7.out.size)), HN⟩
                  case measure => simp [intOf]; omega
            · have hkl' : ¬ (k : Int) < (l.length : Int) := by omega
              have HT : Hid (lateOk p l = true) := hid (lateOk_all HE.out HLL.out HO.out (fun j hj => HOK.out j (by have := HLL.out; omega)))
              go_wp2_with (fail)
              go_ret
              exact ⟨by rw [HT.out]; rfl, X6.out.below⟩
    · have HF := hid (lateOk_len (p := p) hll)
      have hll' : ((l.length : Int) != (p.flows.length : Int)) = true := by simp; omega
      clear hll
      go_wp2_with (fail)
      go_ret
      exact ⟨by rw [HF.out]; rfl, X1.out.below⟩
  · have HF := hid (lateOk_nm (l := l) hE)
    have hE' : (nmErr p != 0) = true := by simpa using hE
    clear hE
    generalize nmErr p = E at *
    go_wp2_with (fail)
    go_ret
    exact ⟨by rw [HF.out]; rfl, X1.out.below⟩
end Go.Proofs.YtmlapodhpinhmaaDoor.Lex
namespace Go.Proofs.YtmlapodhpinhmaaDoor.Lex
open Go.ChangeShapes Go.WideShapes Go.ChangeAt Go.RowKit Go.Joins
/-- A program in its variable, what is asked for in its own. -/
structure RAs (w : World) (p : Pg) (A B C : Value) (nm : ByteArray) (ago : Int) (W : World) : Prop where
  x : FV w p A B C W
  ref : W.heap[w.heap.size + 1]? = some (.cells #[.string nm, .int .i64 ago] 29 (0, 0))
theorem RAs.keep {w W W' : World} {p : Pg} {A B C : Value} {nm : ByteArray} {ago : Int} (h : RAs w p A B C nm ago W) (hb : Below W.heap.size W W') : RAs w p A B C nm ago W' := ⟨h.x.keep hb, keep_row h.ref hb⟩
theorem RAs.cells {w W : World} {p : Pg} {A B C : Value} {nm : ByteArray} {ago : Int} (h : RAs w p A B C nm ago W) : W.cell? ⟨w.heap.size + 1, 0, none⟩ = some (.string nm) ∧ W.cell? ⟨w.heap.size + 1, 1, none⟩ = some (.int .i64 ago) :=
  ⟨by rw [cell_of_row _ _ _ _ 29 (0, 0) h.ref]; rfl, by rw [cell_of_row _ _ _ _ 29 (0, 0) h.ref]; rfl⟩
theorem RAs.new {w : World} {p : Pg} {A B C : Value} (hP : PgAt w p A B C) (hR : TabR w) (hJ : TabJ w) (nm : ByteArray) (ago : Int) : RAs w p A B C nm ago ((w.alloc (.cells (pgC p A B C) 26)).alloc (.cells #[.string nm, .int .i64 ago] 29)) :=
  ⟨(FV.new hP hR hJ).keep ((Below.refl _ _).alloc (Nat.le_refl _) _), by have := heap_alloc_new (w.alloc (.cells (pgC p A B C) 26)) (.cells #[.string nm, .int .i64 ago] 29); rwa [World.size_alloc] at this⟩
theorem toList_inj {a b : ByteArray} (h : a.toList = b.toList) : a = b := by
  rw [ByteArray.toList_eq, ByteArray.toList_eq] at h
  exact ByteArray.ext (Array.toList_inj.1 h)
theorem find_hit {α β : Type} {f : α → β} {q : β → Bool} {G : List α} {m : Nat} (hm : m < G.length) (h : ∀ i : Nat, ∀ hi : i < G.length, i < m → q (f G[i]) = false) (hq : q (f G[m]) = true) : (G.map f).find? q = some (f G[m]) := by
  have e : G = G.take m ++ ([G[m]] ++ G.drop (m + 1)) := by simp
  have h1 : ((G.take m).map f).find? q = none := by
    rw [List.find?_eq_none]
    intro y hy
    obtain ⟨z, hz, rfl⟩ := List.mem_map.1 hy
    obtain ⟨i, hi, rfl⟩ := List.getElem_of_mem hz
    have hi' : i < m ∧ i < G.length := by rw [List.length_take] at hi; omega
    have := h i hi'.2 hi'.1
    rw [List.getElem_take, this]
    simp
  have h2 : (G.map f).find? q = (((G.take m).map f) ++ (([G[m]]).map f ++ (G.drop (m + 1)).map f)).find? q := by
    rw [← List.map_append, ← List.map_append, ← e]
  rw [h2, List.find?_append, h1, List.find?_append]
  simp [hq]
theorem find_miss {α β : Type} {f : α → β} {q : β → Bool} {G : List α} (h : ∀ i : Nat, ∀ hi : i < G.length, q (f G[i]) = false) : (G.map f).find? q = none := by
  rw [List.find?_eq_none]
  intro y hy
  obtain ⟨z, hz, rfl⟩ := List.mem_map.1 hy
  obtain ⟨i, hi, rfl⟩ := List.getElem_of_mem hz
  simpa using h i hi
set_option maxRecDepth 100000 in
set_option maxHeartbeats 8000000 in
theorem rage (p : Pg) (l : List Int) (v : Value) (flow : Int) (nm : ByteArray) (ago : Int) (w : World) (a b c : Value) (hP : PgAt w p a b c) (hI : IAt w l v) (hR : TabR w) (hJ : TabJ w) :
    Calls Tryd.prog 12 #[pgV p a b c, v, .int .i64 flow, .agg #[.string nm, .int .i64 ago]] w fun e w' => e = .returned (.tuple #[.int .i64 (ageF p l flow nm ago).1, .int .i64 (ageF p l flow nm ago).2]) ∧ Below w.heap.size w w' := by
  obtain ⟨A0, A1, rfl, _⟩ := hP.ins
  obtain ⟨B0, B1, SL, rfl, hfl, _, _, hfc, hfs⟩ := hP.flows
  have HFC := hid hfc
  have HFS := hid hfs
  clear hfc hfs
  obtain ⟨C0, C1, rfl, _⟩ := hP.outs
  have HI := hid hI
  obtain ⟨ao, cap, rfl, ⟨hcap, hlen⟩, _⟩ := hI
  have X0 := hid (RAs.new hP hR hJ nm ago)
  clear hP hR hJ
  obtain ⟨W0, hW0⟩ : ∃ W0, W0 = (w.alloc (.cells (pgC p (.slice A0 p.ins.length A1) (.slice B0 p.flows.length B1) (.slice C0 p.outs.length C1)) 26)).alloc (.cells #[.string nm, .int .i64 ago] 29) := ⟨_, rfl⟩
  rw [← hW0] at X0
  obtain ⟨r0, r1, r2, r3⟩ := row4 X0.out.x.row
  rw [hW0] at r0 r1 r2 r3
  have HFD : Hid (ageF p l flow nm ago = if lateOk p l = true ∧ 0 ≤ flow ∧ flow < p.flows.length then ageO l ((wishL p flow.toNat).find? (isRf nm ago)) else (0, 1)) := hid rfl
  generalize ageF p l flow nm ago = AF at *
  have RT := @results_two Tryd.f12 8 9 rfl
  go_enter Tryd.func12, Tryd.ntmps12
  go_wp2_with (fail)
  rw [← hW0]
  clear hW0 r0 r1 r2 r3
  refine (rlate p l _ _ _ _ _ X0.out.x.P (HI.out.keep X0.out.x.below) X0.out.x.R X0.out.x.J).mono ?_
  rintro e w1 ⟨rfl, hb1⟩
  have X1 := hid (X0.out.keep hb1)
  clear hb1 X0
  obtain ⟨s0, s1, s2, s3⟩ := row4 X1.out.x.row
  cases hL : lateOk p l with
  | false =>
    have HF : Hid (AF = (0, 1)) := hid (by rw [HFD.out, if_neg (by rw [hL]; simp)])
    clear hL HFD
    go_wp2_with (fail)
    (try simp only [Exit.inBlock, Exit.then])
    refine bodyPost_ret (RT _ _ _) rfl ⟨by rw [HF.out]; rfl, X1.out.x.below⟩
  | true =>
    have HL := hid hL
    clear hL
    by_cases hn : flow < 0
    · have HF : Hid (AF = (0, 1)) := hid (by rw [HFD.out, if_neg (by omega)])
      clear HFD
      go_wp2_with (fail)
      (try simp only [Exit.inBlock, Exit.then])
      refine bodyPost_ret (RT _ _ _) rfl ⟨by rw [HF.out]; rfl, X1.out.x.below⟩
    · by_cases hg : flow < p.flows.length
      · obtain ⟨k, rfl⟩ : ∃ k : Nat, flow = k := ⟨flow.toNat, by omega⟩
        have hk : k < p.flows.length := by omega
        have hk0 : (0 : Int) ≤ (k : Int) := by omega
        have hg' : ¬ (k : Int) ≥ (p.flows.length : Int) := by omega
        have hlo := HL.out
        unfold lateOk at hlo
        simp only [Bool.and_eq_true, decide_eq_true_eq, Bool.not_eq_true'] at hlo
        have HE := hid hlo.1
        have HLL := hid hlo.2.1
        have HMI := hid (mild_of hlo.2.2.1)
        have hLW := wishL_at hk
        have HWO := hid (wishL_ok (nm_chk HE.out) hk)
        have HF0 : Hid (AF = ageO l (((gat 32 p.flows[k].body 0 []).map (mkW p k p.flows[k].st)).find? (isRf nm ago))) := hid (by rw [HFD.out, if_pos ⟨HL.out, by omega, hg⟩, Int.toNat_natCast, hLW])
        have HKP := hid hk
        clear hlo HFD hn
        obtain ⟨fb, fo, rfl, hcc⟩ := HFC.out.resolve_left (by omega)
        have FX := (hcc k hk).keep X1.out.x.below
        have hSt := (HFS.out k hk).keep X1.out.x.below
        obtain ⟨a3, c3, _, e3, _⟩ := (HFS.out k hk).out
        rw [e3] at FX hSt
        have hnm := chk_nm (nm_chk HE.out _ (List.getElem_mem hk))
        obtain ⟨q0, q1, q2, q3, q4, q5, q6, q7⟩ := FX
        have c29 := rrefs 32 p.flows[k].body _ _ hSt hnm.1 (by omega) (by omega)
        have HLS := hid (show ∀ r ∈ gat 32 p.flows[k].body 0 [], WiOk p.flows.length (mkW p k p.flows[k].st r) from fun r hr => HWO.out _ (by rw [hLW]; exact List.mem_map.2 ⟨r, hr, rfl⟩))
        have hGl : (gat 32 p.flows[k].body 0 []).length ≤ 1000000 := by have h1 := gat_len 32 p.flows[k].body 0 []; have h2 := hnm.2; simp at h1; omega
        clear hcc e3 hSt hnm hLW HWO
        generalize hG : gat 32 p.flows[k].body 0 [] = G at *
        clear hG
        go_wp2_with (fail)
        refine c29.mono ?_
        rintro e w7 ⟨rv, rfl, hrow, hb7⟩
        obtain ⟨ra, rc, rfl, hrf⟩ := RfAt.of_own hrow
        have X7 := hid (X1.out.keep hb7)
        have HRF := hid hrf
        clear hrow hrf hb7 c29 q0 q1 q2 q3 q4 q5 q6 q7 s0 s1 s2 s3
        go_wp2_with (fail)
        go_loopw [11] (fun j vr => ∃ m : Nat, m ≤ G.length ∧ j = .int .i64 (m : Int) ∧ Hid (Below w7.heap.size w7 vr) ∧ Hid (∀ q : Nat, ∀ h : q < G.length, q < m → isRf nm ago (mkW p k p.flows[k].st G[q]) = false)) (fun j _ => G.length - (intOf j).toNat)
        case atStart => exact ⟨0, Nat.zero_le _, rfl, hid (Below.refl _ _), hid (fun j _ hj => by omega)⟩
        case round =>
          obtain ⟨m, hm, rfl, HBV, HQ⟩ := hrel
          obtain ⟨vr, rfl⟩ : ∃ vr, vr = wr := ⟨_, rfl⟩
          have XR := hid (X7.out.keep HBV.out)
          by_cases hml : m < G.length
          · have hml' : (m : Int) < (G.length : Int) := by omega
            have hm0 : (0 : Int) ≤ (m : Int) := by omega
            obtain ⟨g, rfl, hcc⟩ := HRF.out.resolve_left (by omega)
            have u0 := cell_kept (hcc m hml).1 HBV.out
            have u1 := cell_kept (hcc m hml).2 HBV.out
            obtain ⟨t0, t1⟩ := XR.out.cells
            obtain ⟨s0, s1, s2, s3⟩ := row4 XR.out.x.row
            clear hcc
            have HML := hid hml
            generalize hz : G[m] = z at u0 u1
            have HZ := hid hz.symm
            clear hz
            by_cases hq1 : z.1.toList = nm.toList
            · by_cases hq2 : (z.2 : Int) = ago
              · have hx := HLS.out G[m] (List.getElem_mem hml)
                have hH : isRf nm ago (mkW p k p.flows[k].st G[m]) = true := by unfold isRf mkW; rw [← HZ.out]; simp [hq1, hq2]
                have HF : Hid (AF = (ageV l (mkW p k p.flows[k].st G[m]), 0)) := hid (by rw [HF0.out, find_hit (f := mkW p k p.flows[k].st) (q := isRf nm ago) (G := G) hml HQ.out hH]; rfl)
                have hnz : z.1 = nm := toList_inj hq1
                subst hnz
                subst hq2
                have HBD := hid ((Below.refl vr.heap.size vr).drew)
                have c30 := rold p l _ k z vr.drew _ _ _ (XR.out.x.P.keep HBD.out) ((HI.out.keep XR.out.x.below).keep HBD.out) HKP.out HLL.out (by rw [HZ.out]; exact hx) HMI.out
                have HF1 : Hid (AF = (ageV l (mkW p k p.flows[k].st z), 0)) := hid (by rw [HF.out, HZ.out])
                clear HF hx hH
                have HF := HF1
                clear HF1
                generalize ageV l (mkW p k p.flows[k].st z) = AV at *
                go_wp2_with (fail)
                refine wp_region_held_drew (S := fun W => (W.cell? ⟨g, m * 2, none⟩ = some (.string z.1) ∧ W.cell? ⟨g, m * 2 + 1, none⟩ = some (.int .i64 (z.2 : Int))) ∧ W.cell? ⟨w.heap.size + 1, 0, none⟩ = some (.string z.1) ∧ W.cell? ⟨w.heap.size + 1, 1, none⟩ = some (.int .i64 (z.2 : Int))) (by kernel_rfl) ?_ (fun hHeld => ?_)
                · exact ⟨⟨u0, u1⟩, t0, t1⟩
                refine wpAnyH_take (i := 0) (oi := { dst := some 40, op := Go.Op.move (Go.Operand.tmp 10), type := 47, pos := _, after := #[], guard := none }) (v := ?_) rfl (by kernel_rfl) (by kernel_rfl) (by kernel_rfl) (fun _ _ _ h => h) (Or.inl ⟨by rfl, ?_⟩) (by assumption) ?_
                rotate_left
                · intro w hSw; (try dsimp only at hSw); go_simp <;> first | with_reducible rfl | (rw [if_neg (by first | omega | (simp only [ByteArray.size_append] at *; omega))])
                simp only [Act.put, List.setIfInBounds_toArray, List.set_cons_zero, List.set_cons_succ]
                refine wpAnyH_take (i := 1) (oi := { dst := some 41, op := Go.Op.move (Go.Operand.tmp 11), type := 3, pos := _, after := #[], guard := none }) (v := ?_) rfl (by kernel_rfl) (by kernel_rfl) (by kernel_rfl) (fun _ _ _ h => h) (Or.inl ⟨by rfl, ?_⟩) (by assumption) ?_
                rotate_left
                · intro w hSw; (try dsimp only at hSw); go_simp <;> first | with_reducible rfl | (rw [if_neg (by first | omega | (simp only [ByteArray.size_append] at *; omega))])
                simp only [Act.put, List.setIfInBounds_toArray, List.set_cons_zero, List.set_cons_succ]
                refine wpAnyH_take (i := 2) (oi := { dst := some 42, op := Go.Op.indexAddr 47 (Go.Operand.tmp 40) (Go.Operand.tmp 41), type := 0, pos := _, after := #[{ on := 0, ground := Go.Ground.data }, { on := 1, ground := Go.Ground.data }], guard := none }) (v := ?_) rfl (by kernel_rfl) (by kernel_rfl) (by kernel_rfl) (fun _ _ _ h => h) (Or.inl ⟨by rfl, ?_⟩) (by assumption) ?_
                rotate_left
                · intro w hSw; (try dsimp only at hSw); go_simp <;> first | with_reducible rfl | (rw [if_neg (by first | omega | (simp only [ByteArray.size_append] at *; omega))])
                simp only [Act.put, List.setIfInBounds_toArray, List.set_cons_zero, List.set_cons_succ]
                refine wpAnyH_take (i := 3) (oi := { dst := some 43, op := Go.Op.load 29 (Go.Operand.tmp 42), type := 29, pos := _, after := #[{ on := 2, ground := Go.Ground.data }], guard := none }) (v := ?_) rfl (by kernel_rfl) (by kernel_rfl) (by kernel_rfl) (fun _ _ _ h => h) (Or.inl ⟨by rfl, ?_⟩) (by assumption) ?_
                rotate_left
                · intro w hSw; (try dsimp only at hSw); go_simp <;> first | with_reducible rfl | (rw [if_neg (by first | omega | (simp only [ByteArray.size_append] at *; omega))])
                simp only [Act.put, List.setIfInBounds_toArray, List.set_cons_zero, List.set_cons_succ]
                refine wpAnyH_take (i := 4) (oi := { dst := some 44, op := Go.Op.load 29 (Go.Operand.tmp 7), type := 29, pos := _, after := #[], guard := none }) (v := ?_) rfl (by kernel_rfl) (by kernel_rfl) (by kernel_rfl) (fun _ _ _ h => h) (Or.inl ⟨by rfl, ?_⟩) (by assumption) ?_
                rotate_left
                · intro w hSw; (try dsimp only at hSw); go_simp <;> first | with_reducible rfl | (rw [if_neg (by first | omega | (simp only [ByteArray.size_append] at *; omega))])
                simp only [Act.put, List.setIfInBounds_toArray, List.set_cons_zero, List.set_cons_succ]
                refine wpAnyH_take (i := 5) (oi := { dst := some 45, op := Go.Op.binOp Go.BinOp.eql 29 (Go.Operand.tmp 43) (Go.Operand.tmp 44) 29, type := 4, pos := _, after := #[{ on := 3, ground := Go.Ground.data }, { on := 4, ground := Go.Ground.data }], guard := none }) (v := ?_) rfl (by kernel_rfl) (by kernel_rfl) (by kernel_rfl) (fun _ _ _ h => h) (Or.inl ⟨by rfl, ?_⟩) (by assumption) ?_
                rotate_left
                · intro w hSw; (try dsimp only at hSw); go_simp <;> first | with_reducible rfl | (rw [if_neg (by first | omega | (simp only [ByteArray.size_append] at *; omega))])
                simp only [Act.put, List.setIfInBounds_toArray, List.set_cons_zero, List.set_cons_succ]
                refine wpAnyH_done (by kernel_rfl) ?_ _
                go_wp2_with (fail)
                refine c30.mono ?_
                rintro e w9 ⟨rfl, hb9⟩
                have HB9 := hid (XR.out.x.below.trans ((HBD.out.trans (hb9.mono HBD.out.size)).mono XR.out.x.below.size))
                clear hb9
                go_wp2_with (fail)
                (try simp only [Exit.inBlock, Exit.then])
                refine bodyPost_ret (RT _ _ _) rfl ⟨by rw [HF.out]; rfl, HB9.out⟩
              · have HN : Hid (isRf nm ago (mkW p k p.flows[k].st G[m]) = false) := hid (by unfold isRf mkW; rw [← HZ.out]; simp [hq2])
                have HQ2 : Hid (∀ q : Nat, ∀ h : q < G.length, q < m + 1 → isRf nm ago (mkW p k p.flows[k].st G[q]) = false) := hid (fun q hq hlt => by
                  rcases Nat.lt_or_ge q m with h1 | h1
                  · exact HQ.out q hq h1
                  · obtain rfl : q = m := by omega
                    exact HN.out)
                go_wp2_with (fail)
                refine wp_region_held_drew (S := fun W => (W.cell? ⟨g, m * 2, none⟩ = some (.string z.1) ∧ W.cell? ⟨g, m * 2 + 1, none⟩ = some (.int .i64 (z.2 : Int))) ∧ W.cell? ⟨w.heap.size + 1, 0, none⟩ = some (.string nm) ∧ W.cell? ⟨w.heap.size + 1, 1, none⟩ = some (.int .i64 ago)) (by kernel_rfl) ?_ (fun hHeld => ?_)
                · exact ⟨⟨u0, u1⟩, t0, t1⟩
                refine wpAnyH_take (i := 0) (oi := { dst := some 40, op := Go.Op.move (Go.Operand.tmp 10), type := 47, pos := _, after := #[], guard := none }) (v := ?_) rfl (by kernel_rfl) (by kernel_rfl) (by kernel_rfl) (fun _ _ _ h => h) (Or.inl ⟨by rfl, ?_⟩) (by assumption) ?_
                rotate_left
                · intro w hSw; (try dsimp only at hSw); go_simp <;> first | with_reducible rfl | (rw [if_neg (by first | omega | (simp only [ByteArray.size_append] at *; omega))])
                simp only [Act.put, List.setIfInBounds_toArray, List.set_cons_zero, List.set_cons_succ]
                refine wpAnyH_take (i := 1) (oi := { dst := some 41, op := Go.Op.move (Go.Operand.tmp 11), type := 3, pos := _, after := #[], guard := none }) (v := ?_) rfl (by kernel_rfl) (by kernel_rfl) (by kernel_rfl) (fun _ _ _ h => h) (Or.inl ⟨by rfl, ?_⟩) (by assumption) ?_
                rotate_left
                · intro w hSw; (try dsimp only at hSw); go_simp <;> first | with_reducible rfl | (rw [if_neg (by first | omega | (simp only [ByteArray.size_append] at *; omega))])
                simp only [Act.put, List.setIfInBounds_toArray, List.set_cons_zero, List.set_cons_succ]
                refine wpAnyH_take (i := 2) (oi := { dst := some 42, op := Go.Op.indexAddr 47 (Go.Operand.tmp 40) (Go.Operand.tmp 41), type := 0, pos := _, after := #[{ on := 0, ground := Go.Ground.data }, { on := 1, ground := Go.Ground.data }], guard := none }) (v := ?_) rfl (by kernel_rfl) (by kernel_rfl) (by kernel_rfl) (fun _ _ _ h => h) (Or.inl ⟨by rfl, ?_⟩) (by assumption) ?_
                rotate_left
                · intro w hSw; (try dsimp only at hSw); go_simp <;> first | with_reducible rfl | (rw [if_neg (by first | omega | (simp only [ByteArray.size_append] at *; omega))])
                simp only [Act.put, List.setIfInBounds_toArray, List.set_cons_zero, List.set_cons_succ]
                refine wpAnyH_take (i := 3) (oi := { dst := some 43, op := Go.Op.load 29 (Go.Operand.tmp 42), type := 29, pos := _, after := #[{ on := 2, ground := Go.Ground.data }], guard := none }) (v := ?_) rfl (by kernel_rfl) (by kernel_rfl) (by kernel_rfl) (fun _ _ _ h => h) (Or.inl ⟨by rfl, ?_⟩) (by assumption) ?_
                rotate_left
                · intro w hSw; (try dsimp only at hSw); go_simp <;> first | with_reducible rfl | (rw [if_neg (by first | omega | (simp only [ByteArray.size_append] at *; omega))])
                simp only [Act.put, List.setIfInBounds_toArray, List.set_cons_zero, List.set_cons_succ]
                refine wpAnyH_take (i := 4) (oi := { dst := some 44, op := Go.Op.load 29 (Go.Operand.tmp 7), type := 29, pos := _, after := #[], guard := none }) (v := ?_) rfl (by kernel_rfl) (by kernel_rfl) (by kernel_rfl) (fun _ _ _ h => h) (Or.inl ⟨by rfl, ?_⟩) (by assumption) ?_
                rotate_left
                · intro w hSw; (try dsimp only at hSw); go_simp <;> first | with_reducible rfl | (rw [if_neg (by first | omega | (simp only [ByteArray.size_append] at *; omega))])
                simp only [Act.put, List.setIfInBounds_toArray, List.set_cons_zero, List.set_cons_succ]
                refine wpAnyH_take (i := 5) (oi := { dst := some 45, op := Go.Op.binOp Go.BinOp.eql 29 (Go.Operand.tmp 43) (Go.Operand.tmp 44) 29, type := 4, pos := _, after := #[{ on := 3, ground := Go.Ground.data }, { on := 4, ground := Go.Ground.data }], guard := none }) (v := ?_) rfl (by kernel_rfl) (by kernel_rfl) (by kernel_rfl) (fun _ _ _ h => h) (Or.inl ⟨by rfl, ?_⟩) (by assumption) ?_
                rotate_left
                · intro w hSw; (try dsimp only at hSw); go_simp <;> first | with_reducible rfl | (rw [if_neg (by first | omega | (simp only [ByteArray.size_append] at *; omega))])
                simp only [Act.put, List.setIfInBounds_toArray, List.set_cons_zero, List.set_cons_succ]
                refine wpAnyH_done (by kernel_rfl) ?_ _
                go_wp2_with (fail)
                go_roundw
                case rel => exact ⟨m + 1, by omega, by go_num, hid HBV.out.drew, HQ2⟩
                case measure => simp [intOf]; omega
            · have HN : Hid (isRf nm ago (mkW p k p.flows[k].st G[m]) = false) := hid (by unfold isRf mkW; rw [← HZ.out]; simp [hq1])
              have HQ2 : Hid (∀ q : Nat, ∀ h : q < G.length, q < m + 1 → isRf nm ago (mkW p k p.flows[k].st G[q]) = false) := hid (fun q hq hlt => by
                rcases Nat.lt_or_ge q m with h1 | h1
                · exact HQ.out q hq h1
                · obtain rfl : q = m := by omega
                  exact HN.out)
              go_wp2_with (fail)
              refine wp_region_held_drew (S := fun W => (W.cell? ⟨g, m * 2, none⟩ = some (.string z.1) ∧ W.cell? ⟨g, m * 2 + 1, none⟩ = some (.int .i64 (z.2 : Int))) ∧ W.cell? ⟨w.heap.size + 1, 0, none⟩ = some (.string nm) ∧ W.cell? ⟨w.heap.size + 1, 1, none⟩ = some (.int .i64 ago)) (by kernel_rfl) ?_ (fun hHeld => ?_)
              · exact ⟨⟨u0, u1⟩, t0, t1⟩
              refine wpAnyH_take (i := 0) (oi := { dst := some 40, op := Go.Op.move (Go.Operand.tmp 10), type := 47, pos := _, after := #[], guard := none }) (v := ?_) rfl (by kernel_rfl) (by kernel_rfl) (by kernel_rfl) (fun _ _ _ h => h) (Or.inl ⟨by rfl, ?_⟩) (by assumption) ?_
              rotate_left
              · intro w hSw; (try dsimp only at hSw); go_simp <;> first | with_reducible rfl | (rw [if_neg (by first | omega | (simp only [ByteArray.size_append] at *; omega))])
              simp only [Act.put, List.setIfInBounds_toArray, List.set_cons_zero, List.set_cons_succ]
              refine wpAnyH_take (i := 1) (oi := { dst := some 41, op := Go.Op.move (Go.Operand.tmp 11), type := 3, pos := _, after := #[], guard := none }) (v := ?_) rfl (by kernel_rfl) (by kernel_rfl) (by kernel_rfl) (fun _ _ _ h => h) (Or.inl ⟨by rfl, ?_⟩) (by assumption) ?_
              rotate_left
              · intro w hSw; (try dsimp only at hSw); go_simp <;> first | with_reducible rfl | (rw [if_neg (by first | omega | (simp only [ByteArray.size_append] at *; omega))])
              simp only [Act.put, List.setIfInBounds_toArray, List.set_cons_zero, List.set_cons_succ]
              refine wpAnyH_take (i := 2) (oi := { dst := some 42, op := Go.Op.indexAddr 47 (Go.Operand.tmp 40) (Go.Operand.tmp 41), type := 0, pos := _, after := #[{ on := 0, ground := Go.Ground.data }, { on := 1, ground := Go.Ground.data }], guard := none }) (v := ?_) rfl (by kernel_rfl) (by kernel_rfl) (by kernel_rfl) (fun _ _ _ h => h) (Or.inl ⟨by rfl, ?_⟩) (by assumption) ?_
              rotate_left
              · intro w hSw; (try dsimp only at hSw); go_simp <;> first | with_reducible rfl | (rw [if_neg (by first | omega | (simp only [ByteArray.size_append] at *; omega))])
              simp only [Act.put, List.setIfInBounds_toArray, List.set_cons_zero, List.set_cons_succ]
              refine wpAnyH_take (i := 3) (oi := { dst := some 43, op := Go.Op.load 29 (Go.Operand.tmp 42), type := 29, pos := _, after := #[{ on := 2, ground := Go.Ground.data }], guard := none }) (v := ?_) rfl (by kernel_rfl) (by kernel_rfl) (by kernel_rfl) (fun _ _ _ h => h) (Or.inl ⟨by rfl, ?_⟩) (by assumption) ?_
              rotate_left
              · intro w hSw; (try dsimp only at hSw); go_simp <;> first | with_reducible rfl | (rw [if_neg (by first | omega | (simp only [ByteArray.size_append] at *; omega))])
              simp only [Act.put, List.setIfInBounds_toArray, List.set_cons_zero, List.set_cons_succ]
              refine wpAnyH_take (i := 4) (oi := { dst := some 44, op := Go.Op.load 29 (Go.Operand.tmp 7), type := 29, pos := _, after := #[], guard := none }) (v := ?_) rfl (by kernel_rfl) (by kernel_rfl) (by kernel_rfl) (fun _ _ _ h => h) (Or.inl ⟨by rfl, ?_⟩) (by assumption) ?_
              rotate_left
              · intro w hSw; (try dsimp only at hSw); go_simp <;> first | with_reducible rfl | (rw [if_neg (by first | omega | (simp only [ByteArray.size_append] at *; omega))])
              simp only [Act.put, List.setIfInBounds_toArray, List.set_cons_zero, List.set_cons_succ]
              refine wpAnyH_take (i := 5) (oi := { dst := some 45, op := Go.Op.binOp Go.BinOp.eql 29 (Go.Operand.tmp 43) (Go.Operand.tmp 44) 29, type := 4, pos := _, after := #[{ on := 3, ground := Go.Ground.data }, { on := 4, ground := Go.Ground.data }], guard := none }) (v := ?_) rfl (by kernel_rfl) (by kernel_rfl) (by kernel_rfl) (fun _ _ _ h => h) (Or.inl ⟨by rfl, ?_⟩) (by assumption) ?_
              rotate_left
              · intro w hSw; (try dsimp only at hSw); go_simp <;> first | with_reducible rfl | (rw [if_neg (by first | omega | (simp only [ByteArray.size_append] at *; omega))])
              simp only [Act.put, List.setIfInBounds_toArray, List.set_cons_zero, List.set_cons_succ]
              refine wpAnyH_done (by kernel_rfl) ?_ _
              go_wp2_with (fail)
              go_roundw
              case rel => exact ⟨m + 1, by omega, by go_num, hid HBV.out.drew, HQ2⟩
              case measure => simp [intOf]; omega
          · have hml' : ¬ (m : Int) < (G.length : Int) := by omega
            have HF : Hid (AF = (0, 1)) := hid (by rw [HF0.out, find_miss (f := mkW p k p.flows[k].st) (q := isRf nm ago) (G := G) (fun i hi => HQ.out i hi (by omega))]; rfl)
            go_wp2_with (fail)
            (try simp only [Exit.inBlock, Exit.then])
            refine bodyPost_ret (RT _ _ _) rfl ⟨by rw [HF.out]; rfl, XR.out.x.below⟩
      · have HF : Hid (AF = (0, 1)) := hid (by rw [HFD.out, if_neg (by omega)])
        have hge : flow ≥ (p.flows.length : Int) := by omega
        clear HFD
        go_wp2_with (fail)
        (try simp only [Exit.inBlock, Exit.then])
        refine bodyPost_ret (RT _ _ _) rfl ⟨by rw [HF.out]; rfl, X1.out.x.below⟩
end Go.Proofs.YtmlapodhpinhmaaDoor.Lex
namespace Go.Proofs.YtmlapodhpinhmaaDoor.Lex
open Go.ChangeShapes Go.WideShapes Go.ChangeAt Go.RowKit Go.Joins
/-- A twin of a row of numbers, with the mark behind it. -/
def TwInts (w : World) (l : List Int) (s : Value) : Prop :=
  ∃ (b cap : Nat), s = .slice (some ⟨b, 0, none⟩) l.length cap ∧ l.length ≤ 1000000 ∧ l.length < cap ∧ (∀ i (h : i < l.length), w.cell? ⟨b, i, none⟩ = some (.int .i64 l[i])) ∧ w.cell? ⟨b, l.length, none⟩ = some (.int .i64 77)
theorem TwInts.keep {w w' : World} {l : List Int} {s : Value} (h : TwInts w l s) (hb : Below w.heap.size w w') : TwInts w' l s := by
  obtain ⟨b, cap, rfl, h1, h2, h3, h4⟩ := h
  exact ⟨b, cap, rfl, h1, h2, fun i hi => cell_kept (h3 i hi) hb, cell_kept h4 hb⟩
theorem TwInts.at {w : World} {l : List Int} {s : Value} (h : TwInts w l s) : IAt w l s := by
  obtain ⟨b, cap, rfl, h1, h2, h3, h4⟩ := h
  exact ⟨_, cap, rfl, ⟨by omega, by omega⟩, .inr ⟨b, 0, rfl, fun i hi => by rw [Nat.zero_add]; exact h3 i hi⟩⟩
abbrev inL (x : Int) : List Value := [.int .i64 x]
set_option maxRecDepth 100000 in
set_option maxHeartbeats 2000000 in
theorem twin_ints (l : List Int) (w : World) (s : Value) (hS : IAt w l s) (hsm : l.length ≤ 1000000) :
    Calls Tryd.prog 10 #[s] w fun e w' => ∃ s', e = .returned s' ∧ TwInts w' l s' ∧ Below w.heap.size w w' := by
  obtain ⟨ao, cap, rfl, _, hc⟩ := hS
  have HC := hid hc
  obtain ⟨i0, hi, hi0, hi1, hi2⟩ := info_parts infI
  clear hc
  go_enter Tryd.func10, Tryd.ntmps10
  go_wp2_with (at_make; refine wpList_make_own w rfl (.const (.int .i64 0)) (.tmp 7) 27 rfl w.heap.size 3 i0 _ 1 Tryd.underlying27 hi hi0 hi1 .i64 .i64 _ (l.length + 1) rfl rfl (by omega) (by rw [hi2]; omega) (by unfold maxLen; omega) (Nat.le_refl _) ?_; intro w1 hown1 hgrow1; have M1 := hid (MkR.start (t := 3) (c := 1) (n := l.length) hown1 hgrow1); clear hown1 hgrow1)
  go_loopw [3, 4] (fun v i wr => ∃ (k : Nat), k ≤ l.length ∧ v = .slice (some ⟨w.heap.size, 0, none⟩) k (l.length + 1) ∧ i = .int .i64 (k : Int) ∧ Hid (MkR w 3 1 l.length ((l.take k).map inL) wr)) (fun _ i _ => l.length - (intOf i).toNat)
  case atStart => exact ⟨0, Nat.zero_le _, rfl, rfl, by simpa using M1⟩
  case round =>
    obtain ⟨k, hk, rfl, rfl, hM⟩ := hrel
    have hl' : ((l.take k).map inL).length = k := by simp; omega
    by_cases hlt : k < l.length
    · have hlt' : (k : Int) < (l.length : Int) := by omega
      have hk0 : (0 : Int) ≤ (k : Int) := by omega
      obtain ⟨bb, o, rfl, hcc⟩ := HC.out.resolve_left (by omega)
      have v0 := cell_kept (hcc k hlt) hM.out.below
      have HT : Hid ((l.take (k + 1)).map inL = (l.take k).map inL ++ [inL l[k]]) := hid (by rw [List.take_succ_eq_append_getElem hlt, List.map_append]; rfl)
      have HL := hid hl'
      clear hcc hl'
      generalize l[k] = y at *
      generalize (l.take k).map inL = es at *
      have M2 := hid (hM.out.step ((Below.refl _ _).alloc (Nat.le_refl _) (.cells #[.int .i64 y] 3)))
      have M2r := hid (show _ from by have := M2.out.row; rw [HL.out] at this; exact this)
      have N2 := hid (next_cells wr (inL y) 3)
      go_wp2_with (at_builtin; refine wpList_append_fits _ rfl (.tmp 15) (.tmp 20) 27 rfl w.heap.size 3 i0 1 Tryd.underlying27 hi hi1 w.heap.size k (l.length + 1) es.flatten rfl M2r.out ⟨wr.heap.size, 0, none⟩ 1 1 (inL y) rfl rfl N2.out (by simp [Value.oneCell']) (by omega) ?_; intro w4 hown4 hgrow4; have M4 := hid (M2.out.grow HL.out rfl hown4 hgrow4); clear hown4 hgrow4)
      go_roundw
      case rel => exact ⟨k + 1, by omega, rfl, by go_num, hid (by rw [HT.out]; exact M4.out)⟩
      case measure => simp [intOf]; omega
    · have hlt' : ¬ (k : Int) < (l.length : Int) := by omega
      obtain rfl : k = l.length := by omega
      rw [List.take_length] at hM hl'
      have M2 := hid (hM.out.step ((Below.refl _ _).alloc (Nat.le_refl _) (.cells #[.int .i64 77] 3)))
      have M2r := hid (show _ from by have := M2.out.row; rw [hl'] at this; exact this)
      have N2 := hid (next_cells wr (inL 77) 3)
      have HL := hid hl'
      clear hl'
      go_wp2_with (at_builtin; refine wpList_append_fits _ rfl (.tmp 22) (.tmp 23) 27 rfl w.heap.size 3 i0 1 Tryd.underlying27 hi hi1 w.heap.size l.length (l.length + 1) (l.map inL).flatten rfl M2r.out ⟨wr.heap.size, 0, none⟩ 1 1 (inL 77) rfl rfl N2.out (by simp [Value.oneCell']) (by omega) ?_; intro w4 hown4 hgrow4; have C4 := hid (MkR.cells M2.out.each HL.out rfl hown4); have B4 := hid (M2.out.below.grown hgrow4 M2.out.below.size (fun j hj => by cases hj; exact Nat.le_refl _)); clear hown4 hgrow4)
      go_ret
      refine ⟨_, rfl, ⟨w.heap.size, l.length + 1, rfl, hsm, by omega, fun i hi => ?_, ?_⟩, B4.out⟩
      · have he : (l.map inL)[i]? = some (inL l[i]) := by rw [List.getElem?_map, List.getElem?_eq_getElem hi]; rfl
        simpa using C4.out.1 i _ 0 _ he rfl
      · simpa using C4.out.2 0 _ rfl
set_option maxRecDepth 100000 in
set_option maxHeartbeats 2000000 in
theorem left_ints (l : List Int) (w : World) (st s : Value) (hT : TwInts w l st) (hS : IAt w l s) :
    Calls Tryd.prog 16 #[st, s] w fun e w' => e = .returned (.bool true) ∧ Below w.heap.size w w' := by
  obtain ⟨ao, cap, rfl, hlen, hc⟩ := hS
  obtain ⟨b, cp, rfl, hsm, hcp, htc, hsp⟩ := hT
  have HC := hid hc
  have HT := hid htc
  have HP := hid hsp
  have hne : ((l.length : Int) != (l.length : Int)) = false := by simp
  have hcp' : ¬ (cp : Int) ≤ (l.length : Int) := by omega
  clear hc htc hsp
  go_enter Tryd.func16, Tryd.ntmps16
  go_wp2
  go_loopw [5] (fun i wr => ∃ k : Nat, k ≤ l.length ∧ i = .int .i64 (k : Int) ∧ Hid (Below w.heap.size w wr)) (fun i _ => l.length - (intOf i).toNat)
  case atStart => exact ⟨0, Nat.zero_le _, rfl, Below.refl _ _⟩
  case round =>
    obtain ⟨k, hk, rfl, hB⟩ := hrel
    by_cases hlt : k < l.length
    · have hlt' : (k : Int) < (l.length : Int) := by omega
      have hk0 : (0 : Int) ≤ (k : Int) := by omega
      obtain ⟨bb, o, rfl, hcc⟩ := HC.out.resolve_left (by omega)
      have v0 := cell_kept (hcc k hlt) hB.out
      have u0 := cell_kept (HT.out k hlt) hB.out
      clear hcc
      generalize l[k] = N at *
      go_wp2
      go_quiet (fail)
      go_wp2
      go_roundw
      case rel => exact ⟨k + 1, by omega, by go_num, below_drewN hB.out _⟩
      case measure => simp [intOf]; omega
    · have hlt' : ¬ (k : Int) < (l.length : Int) := by omega
      have q0 := cell_kept HP.out hB.out
      have hle1 : (l.length : Int) + 1 ≤ (cp : Int) := by omega
      have hle2 : (l.length : Int) < (l.length : Int) + 1 := by omega
      have hle3 : (0 : Int) ≤ (l.length : Int) := by omega
      go_wp2
      go_ret
      exact ⟨rfl, hB.out⟩
end Go.Proofs.YtmlapodhpinhmaaDoor.Lex
namespace Go.Proofs.YtmlapodhpinhmaaDoor.Lex
open Go.ChangeShapes Go.WideShapes Go.ChangeAt Go.RowKit Go.Joins
/-- What came in, in its variable; the tables. -/
structure TlA (w : World) (p : Pg) (l : List Int) (A B C u : Value) (flow : Int) (nm : ByteArray) (ago : Int) (W : World) : Prop where
  row : W.heap[w.heap.size]? = some (.cells (akC p A B C u flow nm ago) 31 (0, 0))
  P : PgAt W p A B C
  I : IAt W l u
  R : TabR W
  J : TabJ W
  below : Below w.heap.size w W
theorem TlA.keep {w W W' : World} {p : Pg} {l : List Int} {A B C u : Value} {flow : Int} {nm : ByteArray} {ago : Int} (h : TlA w p l A B C u flow nm ago W) (hb : Below W.heap.size W W') : TlA w p l A B C u flow nm ago W' :=
  ⟨keep_row h.row hb, h.P.keep hb, h.I.keep hb, h.R.below hb, h.J.below hb, h.below.trans (hb.mono h.below.size)⟩
theorem TlA.new {w : World} {p : Pg} {l : List Int} {A B C u : Value} (h : AkAt w p l A B C u) (hR : TabR w) (hJ : TabJ w) (flow : Int) (nm : ByteArray) (ago : Int) : TlA w p l A B C u flow nm ago (w.alloc (.cells (akC p A B C u flow nm ago) 31)) := by
  have hb := (Below.refl w.heap.size w).alloc (Nat.le_refl _) (.cells (akC p A B C u flow nm ago) 31)
  exact ⟨heap_alloc_new w _, h.P.keep hb, h.I.keep hb, hR.below hb, hJ.below hb, hb⟩
theorem TlA.cells {w W : World} {p : Pg} {l : List Int} {A B C u : Value} {flow : Int} {nm : ByteArray} {ago : Int} (h : TlA w p l A B C u flow nm ago W) :
    W.cell? ⟨w.heap.size, 0, none⟩ = some (.int .i64 p.st) ∧ W.cell? ⟨w.heap.size, 1, none⟩ = some A ∧ W.cell? ⟨w.heap.size, 2, none⟩ = some B ∧ W.cell? ⟨w.heap.size, 3, none⟩ = some C ∧ W.cell? ⟨w.heap.size, 4, none⟩ = some u ∧ W.cell? ⟨w.heap.size, 5, none⟩ = some (.int .i64 flow) ∧ W.cell? ⟨w.heap.size, 6, none⟩ = some (.string nm) ∧ W.cell? ⟨w.heap.size, 7, none⟩ = some (.int .i64 ago) := by
  refine ⟨?_, ?_, ?_, ?_, ?_, ?_, ?_, ?_⟩ <;> (rw [cell_of_row _ _ _ _ 31 (0, 0) h.row]; rfl)
/-- The twin, in its variable; the list's twin. -/
structure TlT (lo : Nat) (p : Pg) (l : List Int) (b : Nat) (A B C u : Value) (W : World) : Prop where
  row : W.heap[b]? = some (.cells (pgC p A B C) 26 (0, 0))
  P : TwPg W lo p A B C
  I : TwInts W l u
theorem TlT.keep {W W' : World} {lo : Nat} {p : Pg} {l : List Int} {b : Nat} {A B C u : Value} (h : TlT lo p l b A B C u W) (hb : Below W.heap.size W W') : TlT lo p l b A B C u W' := ⟨keep_row h.row hb, h.P.keep hb, h.I.keep hb⟩
set_option maxRecDepth 100000 in
set_option maxHeartbeats 16000000 in
theorem walk3 (p : Pg) (l : List Int) (w : World) (A B C u : Value) (flow : Int) (nm : ByteArray) (ago : Int) (h : AkAt w p l A B C u) (hR : TabR w) (hJ : TabJ w) : Calls Tryd.prog 3 #[.agg (akC p A B C u flow nm ago)] w fun e w' => e = .returned (.bool true) ∧ Below w.heap.size w w' := by
  obtain ⟨A0, A1, rfl, _⟩ := h.P.ins
  obtain ⟨B0, B1, _, rfl, _⟩ := h.P.flows
  obtain ⟨C0, C1, rfl, _⟩ := h.P.outs
  have hI := h.I
  obtain ⟨ao, cap, rfl, _⟩ := hI
  have X0 := hid (TlA.new h hR hJ flow nm ago)
  clear h hR hJ
  obtain ⟨W0, hW0⟩ : ∃ W0, W0 = w.alloc (.cells (akC p (.slice A0 p.ins.length A1) (.slice B0 p.flows.length B1) (.slice C0 p.outs.length C1) (.slice ao l.length cap) flow nm ago) 31) := ⟨_, rfl⟩
  rw [← hW0] at X0
  obtain ⟨r0, r1, r2, r3, r4, r5, r6, r7⟩ := X0.out.cells
  rw [hW0] at r0 r1 r2 r3 r4 r5 r6 r7
  go_enter Tryd.func3, Tryd.ntmps3
  go_wp2_with (fail)
  rw [← hW0]
  clear hW0 r0 r1 r2 r3 r4 r5 r6 r7
  refine (great p _ _ _ _ X0.out.P).mono ?_
  rintro e w1 ⟨⟨gr, rfl, _⟩, hb1⟩
  have X1 := hid (X0.out.keep hb1)
  clear hb1 X0
  obtain ⟨s0, s1, s2, s3, s4, s5, s6, s7⟩ := X1.out.cells
  cases gr with
  | true =>
    go_wp2_with (fail)
    refine (lives _ X1.out.R X1.out.J).mono ?_
    rintro e wz ⟨rfl, hbz⟩
    have BZ := hid (X1.out.below.trans (hbz.mono X1.out.below.size))
    clear hbz
    go_wp2_with (fail)
    go_ret
    exact ⟨rfl, BZ.out⟩
  | false =>
    by_cases hl : 200 < l.length
    · have hl' : (l.length : Int) > 200 := by omega
      go_wp2_with (fail)
      refine (lives _ X1.out.R X1.out.J).mono ?_
      rintro e wz ⟨rfl, hbz⟩
      have BZ := hid (X1.out.below.trans (hbz.mono X1.out.below.size))
      clear hbz
      go_wp2_with (fail)
      go_ret
      exact ⟨rfl, BZ.out⟩
    · have hl' : ¬ (l.length : Int) > 200 := by omega
      go_wp2_with (fail)
      refine (twin_prog p _ _ _ _ X1.out.P).mono ?_
      rintro e w2 ⟨e0, f0, g0, rfl, hT, hb2⟩
      obtain ⟨E0, E1, rfl, _⟩ := hT.at.ins
      obtain ⟨F0, F1, _, rfl, _⟩ := hT.at.flows
      obtain ⟨G0, G1, rfl, _⟩ := hT.at.outs
      have X2 := hid (X1.out.keep hb2)
      have T2 := hid hT
      clear hb2 hT s0 s1 s2 s3 s4 s5 s6 s7
      have XA := heap_alloc_new w2 (.cells c26 26)
      have B3 := (Below.refl w2.heap.size w2).alloc (Nat.le_refl _) (.cells c26 26)
      go_wp2_with
        (refine wpList_store_row rfl 26 _ _ rfl w2.heap.size (pgC p (.slice E0 p.ins.length E1) (.slice F0 p.flows.length F1) (.slice G0 p.outs.length G1)) rfl rfl 26 _ XA info26 rfl (by simp [Value.oneCell']) ?_
         have XR : ((w2.alloc (.cells c26 26)).setRow w2.heap.size (pgC p (.slice E0 p.ins.length E1) (.slice F0 p.flows.length F1) (.slice G0 p.outs.length G1))).heap[w2.heap.size]? = some (.cells (pgC p (.slice E0 p.ins.length E1) (.slice F0 p.flows.length F1) (.slice G0 p.outs.length G1)) 26 (0, 0)) := setRow_heap _ _ _ _ _ _ XA
         have b3 := below_row B3 (by simp) (Nat.le_refl _) (pgC p (.slice E0 p.ins.length E1) (.slice F0 p.flows.length F1) (.slice G0 p.outs.length G1))
         generalize (w2.alloc (.cells c26 26)).setRow w2.heap.size (pgC p (.slice E0 p.ins.length E1) (.slice F0 p.flows.length F1) (.slice G0 p.outs.length G1)) = V3 at *
         have X3 := hid (X2.out.keep b3)
         have T3 := hid (T2.out.keep b3)
         have HXR := hid XR
         clear b3 B3 XA XR X2 T2 X1
         obtain ⟨s0, s1, s2, s3, s4, s5, s6, s7⟩ := X3.out.cells)
      refine (twin_ints l _ _ X3.out.I (by omega)).mono ?_
      rintro e w4 ⟨u4, rfl, hT4, hb4⟩
      have hT4' := hT4
      obtain ⟨tb, tc, rfl, _⟩ := hT4'
      have X4 := hid (X3.out.keep hb4)
      have T4 := hid (TlT.mk (keep_row HXR.out hb4) (T3.out.keep hb4) hT4 : TlT _ p l w2.heap.size (.slice E0 p.ins.length E1) (.slice F0 p.flows.length F1) (.slice G0 p.outs.length G1) (.slice (some ⟨tb, 0, none⟩) l.length tc) w4)
      clear hT4 hb4 X3 T3 HXR s0 s1 s2 s3 s4 s5 s6 s7
      obtain ⟨s0, s1, s2, s3, s4, s5, s6, s7⟩ := X4.out.cells
      obtain ⟨y0, y1, y2, y3⟩ := row4 T4.out.row
      have c11 := (callsIn_wide (n := 22)).1 (age_f p l _ flow nm ago _ _ _ _ T4.out.P.at T4.out.I.at X4.out.R X4.out.J)
      go_wp2_with (fail)
      refine c11.mono ?_
      rintro e w5 ⟨rfl, hb5⟩
      have X5 := hid (X4.out.keep hb5)
      have T5 := hid (T4.out.keep hb5)
      clear hb5 X4 T4 s0 s1 s2 s3 s4 s5 s6 s7 y0 y1 y2 y3 c11
      obtain ⟨s0, s1, s2, s3, s4, s5, s6, s7⟩ := X5.out.cells
      have c12 := rage p l _ flow nm ago _ _ _ _ X5.out.P X5.out.I X5.out.R X5.out.J
      generalize ageF p l flow nm ago = AF at *
      go_wp2_with (fail)
      refine c12.mono ?_
      rintro e w6 ⟨rfl, hb6⟩
      have X6 := hid (X5.out.keep hb6)
      have T6 := hid (T5.out.keep hb6)
      clear hb6 X5 T5 s0 s1 s2 s3 s4 s5 s6 s7 c12
      obtain ⟨s0, s1, s2, s3, s4, s5, s6, s7⟩ := X6.out.cells
      obtain ⟨y0, y1, y2, y3⟩ := row4 T6.out.row
      have HD := hid ((Below.refl w6.heap.size w6).drew)
      have X6d := hid (X6.out.keep HD.out)
      have T6d := hid (T6.out.keep HD.out)
      have c13 := (callsIn_wide (n := 20)).1 (check_ p l _ _ _ _ _ T6d.out.P.at T6d.out.I.at X6d.out.R X6d.out.J)
      have HLO : Hid (∀ b : Bool, (b == b) = true) := hid (fun b => by cases b <;> rfl)
      clear X6 T6
      go_wp2_with (fail)
      refine wp_region_held_drew (S := fun W => W.cell? ⟨w.heap.size, 0, none⟩ = some (.int .i64 p.st) ∧ W.cell? ⟨w.heap.size, 1, none⟩ = some (.slice A0 p.ins.length A1) ∧ W.cell? ⟨w.heap.size, 2, none⟩ = some (.slice B0 p.flows.length B1) ∧ W.cell? ⟨w.heap.size, 3, none⟩ = some (.slice C0 p.outs.length C1) ∧ W.cell? ⟨w.heap.size, 4, none⟩ = some (.slice ao l.length cap) ∧ W.cell? ⟨w2.heap.size, 0, none⟩ = some (.int .i64 p.st) ∧ W.cell? ⟨w2.heap.size, 1, none⟩ = some (.slice E0 p.ins.length E1) ∧ W.cell? ⟨w2.heap.size, 2, none⟩ = some (.slice F0 p.flows.length F1) ∧ W.cell? ⟨w2.heap.size, 3, none⟩ = some (.slice G0 p.outs.length G1)) (by kernel_rfl) ?_ (fun hHeld => ?_)
      · exact ⟨s0, s1, s2, s3, s4, y0, y1, y2, y3⟩
      refine wpAnyH_take (i := 0) (oi := { dst := some 47, op := Go.Op.load 26 (Go.Operand.tmp 3), type := 26, pos := _, after := #[], guard := none }) (v := ?_) rfl (by kernel_rfl) (by kernel_rfl) (by kernel_rfl) (fun _ _ _ h => h) (Or.inl ⟨by rfl, ?_⟩) (by assumption) ?_
      rotate_left
      · intro w hSw; (try dsimp only at hSw); go_simp <;> first | with_reducible rfl | (rw [if_neg (by first | omega | (simp only [ByteArray.size_append] at *; omega))])
      simp only [Act.put, List.setIfInBounds_toArray, List.set_cons_zero, List.set_cons_succ]
      refine wpAnyH_take (i := 1) (oi := { dst := some 48, op := Go.Op.move (Go.Operand.tmp 4), type := 27, pos := _, after := #[], guard := none }) (v := ?_) rfl (by kernel_rfl) (by kernel_rfl) (by kernel_rfl) (fun _ _ _ h => h) (Or.inl ⟨by rfl, ?_⟩) (by assumption) ?_
      rotate_left
      · intro w hSw; (try dsimp only at hSw); go_simp <;> first | with_reducible rfl | (rw [if_neg (by first | omega | (simp only [ByteArray.size_append] at *; omega))])
      simp only [Act.put, List.setIfInBounds_toArray, List.set_cons_zero, List.set_cons_succ]
      refine wpAnyH_take (i := 3) (oi := { dst := some 50, op := Go.Op.fieldAddr 31 (Go.Operand.tmp 1) 0, type := 0, pos := _, after := #[], guard := none }) (v := ?_) rfl (by kernel_rfl) (by kernel_rfl) (by kernel_rfl) (fun _ _ _ h => h) (Or.inl ⟨by rfl, ?_⟩) (by assumption) ?_
      rotate_left
      · intro w hSw; (try dsimp only at hSw); go_simp <;> first | with_reducible rfl | (rw [if_neg (by first | omega | (simp only [ByteArray.size_append] at *; omega))])
      simp only [Act.put, List.setIfInBounds_toArray, List.set_cons_zero, List.set_cons_succ]
      refine wpAnyH_take (i := 4) (oi := { dst := some 51, op := Go.Op.load 26 (Go.Operand.tmp 50), type := 26, pos := _, after := #[{ on := 3, ground := Go.Ground.data }], guard := none }) (v := ?_) rfl (by kernel_rfl) (by kernel_rfl) (by kernel_rfl) (fun _ _ _ h => h) (Or.inl ⟨by rfl, ?_⟩) (by assumption) ?_
      rotate_left
      · intro w hSw; (try dsimp only at hSw); go_simp <;> first | with_reducible rfl | (rw [if_neg (by first | omega | (simp only [ByteArray.size_append] at *; omega))])
      simp only [Act.put, List.setIfInBounds_toArray, List.set_cons_zero, List.set_cons_succ]
      refine wpAnyH_take (i := 5) (oi := { dst := some 52, op := Go.Op.fieldAddr 31 (Go.Operand.tmp 1) 1, type := 0, pos := _, after := #[], guard := none }) (v := ?_) rfl (by kernel_rfl) (by kernel_rfl) (by kernel_rfl) (fun _ _ _ h => h) (Or.inl ⟨by rfl, ?_⟩) (by assumption) ?_
      rotate_left
      · intro w hSw; (try dsimp only at hSw); go_simp <;> first | with_reducible rfl | (rw [if_neg (by first | omega | (simp only [ByteArray.size_append] at *; omega))])
      simp only [Act.put, List.setIfInBounds_toArray, List.set_cons_zero, List.set_cons_succ]
      refine wpAnyH_take (i := 6) (oi := { dst := some 53, op := Go.Op.load 27 (Go.Operand.tmp 52), type := 27, pos := _, after := #[{ on := 5, ground := Go.Ground.data }], guard := none }) (v := ?_) rfl (by kernel_rfl) (by kernel_rfl) (by kernel_rfl) (fun _ _ _ h => h) (Or.inl ⟨by rfl, ?_⟩) (by assumption) ?_
      rotate_left
      · intro w hSw; (try dsimp only at hSw); go_simp <;> first | with_reducible rfl | (rw [if_neg (by first | omega | (simp only [ByteArray.size_append] at *; omega))])
      simp only [Act.put, List.setIfInBounds_toArray, List.set_cons_zero, List.set_cons_succ]
      refine wpAnyH_ready (rs := [2]) (by kernel_rfl) (by simp) ?_
      refine AllReadyH.cons (o := { dst := some 49, op := Go.Op.call { callee := Go.Callee.value (Go.Operand.func 13), args := #[Go.Operand.tmp 47, Go.Operand.tmp 48], argTypes := #[26, 27] }, type := 4, pos := _, after := #[{ on := 0, ground := Go.Ground.data }, { on := 1, ground := Go.Ground.data }], guard := none }) rfl (fun K hK => ?_) AllReadyH.nil
      go_simp
      refine c13.mono ?_
      rintro e w7 ⟨rfl, hb7⟩
      have X7 := hid (X6d.out.keep hb7)
      have T7 := hid (T6d.out.keep hb7)
      clear hb7 c13
      obtain ⟨n07, n17, n27, n37, n47, _⟩ := X7.out.cells
      obtain ⟨m07, m17, m27, m37⟩ := row4 T7.out.row
      have c14 := rlate p l _ _ _ _ _ X7.out.P X7.out.I X7.out.R X7.out.J
      generalize lateOk p l = LO at *
      go_wp2_with fail
      refine hK.out _ _ ?_ (fun hHeld1 => ?_)
      · exact ⟨n07, n17, n27, n37, n47, m07, m17, m27, m37⟩
      clear hK K
      refine wpAnyH_ready (rs := [7]) (by kernel_rfl) (by simp) ?_
      refine AllReadyH.cons (o := { dst := some 54, op := Go.Op.call { callee := Go.Callee.value (Go.Operand.func 14), args := #[Go.Operand.tmp 51, Go.Operand.tmp 53], argTypes := #[26, 27] }, type := 4, pos := _, after := #[{ on := 4, ground := Go.Ground.data }, { on := 6, ground := Go.Ground.data }, { on := 2, ground := Go.Ground.chain }], guard := none }) rfl (fun K hK => ?_) AllReadyH.nil
      go_simp
      refine c14.mono ?_
      rintro e w8 ⟨rfl, hb8⟩
      have X8 := hid (X7.out.keep hb8)
      have T8 := hid (T7.out.keep hb8)
      clear hb8 c14
      obtain ⟨n08, n18, n28, n38, n48, _⟩ := X8.out.cells
      obtain ⟨m08, m18, m28, m38⟩ := row4 T8.out.row
      have c15 := left_prog p _ _ _ _ _ _ _ _ T8.out.P X8.out.P
      go_wp2_with fail
      refine hK.out _ _ ?_ (fun hHeld2 => ?_)
      · exact ⟨n08, n18, n28, n38, n48, m08, m18, m28, m38⟩
      clear hK K
      refine wpAnyH_take (i := 8) (oi := { dst := some 55, op := Go.Op.binOp Go.BinOp.eql 4 (Go.Operand.tmp 49) (Go.Operand.tmp 54) 4, type := 4, pos := _, after := #[{ on := 2, ground := Go.Ground.data }, { on := 7, ground := Go.Ground.data }], guard := none }) (v := ?_) rfl (by kernel_rfl) (by kernel_rfl) (by kernel_rfl) (fun _ _ _ h => h) (Or.inl ⟨by rfl, ?_⟩) (by assumption) ?_
      rotate_left
      · intro w hSw; (try dsimp only at hSw); go_simp <;> first | with_reducible rfl | (rw [if_neg (by first | omega | (simp only [ByteArray.size_append] at *; omega))])
      simp only [Act.put, List.setIfInBounds_toArray, List.set_cons_zero, List.set_cons_succ]
      refine wpAnyH_take (i := 9) (oi := { dst := some 56, op := Go.Op.move (Go.Operand.tmp 55), type := 4, pos := _, after := #[{ on := 8, ground := Go.Ground.data }, { on := 7, ground := Go.Ground.chain }], guard := none }) (v := ?_) rfl (by kernel_rfl) (by kernel_rfl) (by kernel_rfl) (fun _ _ _ h => h) (Or.inl ⟨by rfl, ?_⟩) (by assumption) ?_
      rotate_left
      · intro w hSw; (try dsimp only at hSw); go_simp <;> first | with_reducible rfl | (rw [if_neg (by first | omega | (simp only [ByteArray.size_append] at *; omega))])
      simp only [Act.put, List.setIfInBounds_toArray, List.set_cons_zero, List.set_cons_succ]
      refine wpAnyH_take (i := 10) (oi := { dst := some 57, op := Go.Op.move (Go.Operand.tmp 5), type := 3, pos := _, after := #[{ on := 9, ground := Go.Ground.guard }], guard := some (9, true) }) (v := ?_) rfl (by kernel_rfl) (by kernel_rfl) (by kernel_rfl) (fun _ _ _ h => h) (Or.inl ⟨by rfl, ?_⟩) (by assumption) ?_
      rotate_left
      · intro w hSw; (try dsimp only at hSw); go_simp <;> first | with_reducible rfl | (rw [if_neg (by first | omega | (simp only [ByteArray.size_append] at *; omega))])
      simp only [Act.put, List.setIfInBounds_toArray, List.set_cons_zero, List.set_cons_succ]
      refine wpAnyH_take (i := 11) (oi := { dst := some 58, op := Go.Op.move (Go.Operand.tmp 7), type := 3, pos := _, after := #[{ on := 9, ground := Go.Ground.guard }], guard := some (9, true) }) (v := ?_) rfl (by kernel_rfl) (by kernel_rfl) (by kernel_rfl) (fun _ _ _ h => h) (Or.inl ⟨by rfl, ?_⟩) (by assumption) ?_
      rotate_left
      · intro w hSw; (try dsimp only at hSw); go_simp <;> first | with_reducible rfl | (rw [if_neg (by first | omega | (simp only [ByteArray.size_append] at *; omega))])
      simp only [Act.put, List.setIfInBounds_toArray, List.set_cons_zero, List.set_cons_succ]
      refine wpAnyH_take (i := 12) (oi := { dst := some 59, op := Go.Op.binOp Go.BinOp.eql 3 (Go.Operand.tmp 57) (Go.Operand.tmp 58) 3, type := 4, pos := _, after := #[{ on := 10, ground := Go.Ground.data }, { on := 11, ground := Go.Ground.data }, { on := 9, ground := Go.Ground.guard }], guard := some (9, true) }) (v := ?_) rfl (by kernel_rfl) (by kernel_rfl) (by kernel_rfl) (fun _ _ _ h => h) (Or.inl ⟨by rfl, ?_⟩) (by assumption) ?_
      rotate_left
      · intro w hSw; (try dsimp only at hSw); go_simp <;> first | with_reducible rfl | (rw [if_neg (by first | omega | (simp only [ByteArray.size_append] at *; omega))])
      simp only [Act.put, List.setIfInBounds_toArray, List.set_cons_zero, List.set_cons_succ]
      refine wpAnyH_take (i := 13) (oi := { dst := some 60, op := Go.Op.pick (Go.Operand.tmp 56) (Go.Operand.tmp 59) (Go.Operand.const (Go.Value.bool false)), type := 4, pos := _, after := #[{ on := 9, ground := Go.Ground.data }, { on := 12, ground := Go.Ground.data }], guard := none }) (v := ?_) rfl (by kernel_rfl) (by kernel_rfl) (by kernel_rfl) (fun _ _ _ h => h) (Or.inl ⟨by rfl, ?_⟩) (by assumption) ?_
      rotate_left
      · intro w hSw; (try dsimp only at hSw); go_simp <;> first | with_reducible rfl | (rw [if_neg (by first | omega | (simp only [ByteArray.size_append] at *; omega))])
      simp only [Act.put, List.setIfInBounds_toArray, List.set_cons_zero, List.set_cons_succ]
      refine wpAnyH_take (i := 14) (oi := { dst := some 61, op := Go.Op.move (Go.Operand.tmp 60), type := 4, pos := _, after := #[{ on := 13, ground := Go.Ground.data }, { on := 9, ground := Go.Ground.chain }], guard := none }) (v := ?_) rfl (by kernel_rfl) (by kernel_rfl) (by kernel_rfl) (fun _ _ _ h => h) (Or.inl ⟨by rfl, ?_⟩) (by assumption) ?_
      rotate_left
      · intro w hSw; (try dsimp only at hSw); go_simp <;> first | with_reducible rfl | (rw [if_neg (by first | omega | (simp only [ByteArray.size_append] at *; omega))])
      simp only [Act.put, List.setIfInBounds_toArray, List.set_cons_zero, List.set_cons_succ]
      refine wpAnyH_take (i := 15) (oi := { dst := some 62, op := Go.Op.move (Go.Operand.tmp 6), type := 36, pos := _, after := #[{ on := 14, ground := Go.Ground.guard }], guard := some (14, true) }) (v := ?_) rfl (by kernel_rfl) (by kernel_rfl) (by kernel_rfl) (fun _ _ _ h => h) (Or.inl ⟨by rfl, ?_⟩) (by assumption) ?_
      rotate_left
      · intro w hSw; (try dsimp only at hSw); go_simp <;> first | with_reducible rfl | (rw [if_neg (by first | omega | (simp only [ByteArray.size_append] at *; omega))])
      simp only [Act.put, List.setIfInBounds_toArray, List.set_cons_zero, List.set_cons_succ]
      refine wpAnyH_take (i := 16) (oi := { dst := some 63, op := Go.Op.move (Go.Operand.tmp 8), type := 36, pos := _, after := #[{ on := 14, ground := Go.Ground.guard }], guard := some (14, true) }) (v := ?_) rfl (by kernel_rfl) (by kernel_rfl) (by kernel_rfl) (fun _ _ _ h => h) (Or.inl ⟨by rfl, ?_⟩) (by assumption) ?_
      rotate_left
      · intro w hSw; (try dsimp only at hSw); go_simp <;> first | with_reducible rfl | (rw [if_neg (by first | omega | (simp only [ByteArray.size_append] at *; omega))])
      simp only [Act.put, List.setIfInBounds_toArray, List.set_cons_zero, List.set_cons_succ]
      refine wpAnyH_take (i := 17) (oi := { dst := some 64, op := Go.Op.binOp Go.BinOp.eql 36 (Go.Operand.tmp 62) (Go.Operand.tmp 63) 36, type := 4, pos := _, after := #[{ on := 15, ground := Go.Ground.data }, { on := 16, ground := Go.Ground.data }, { on := 14, ground := Go.Ground.guard }], guard := some (14, true) }) (v := ?_) rfl (by kernel_rfl) (by kernel_rfl) (by kernel_rfl) (fun _ _ _ h => h) (Or.inl ⟨by rfl, ?_⟩) (by assumption) ?_
      rotate_left
      · intro w hSw; (try dsimp only at hSw); go_simp <;> first | with_reducible rfl | (rw [if_neg (by first | omega | (simp only [ByteArray.size_append] at *; omega))])
      simp only [Act.put, List.setIfInBounds_toArray, List.set_cons_zero, List.set_cons_succ]
      refine wpAnyH_take (i := 18) (oi := { dst := some 65, op := Go.Op.pick (Go.Operand.tmp 61) (Go.Operand.tmp 64) (Go.Operand.const (Go.Value.bool false)), type := 4, pos := _, after := #[{ on := 14, ground := Go.Ground.data }, { on := 17, ground := Go.Ground.data }], guard := none }) (v := ?_) rfl (by kernel_rfl) (by kernel_rfl) (by kernel_rfl) (fun _ _ _ h => h) (Or.inl ⟨by rfl, ?_⟩) (by assumption) ?_
      rotate_left
      · intro w hSw; (try dsimp only at hSw); go_simp <;> first | with_reducible rfl | (rw [if_neg (by first | omega | (simp only [ByteArray.size_append] at *; omega))])
      simp only [Act.put, List.setIfInBounds_toArray, List.set_cons_zero, List.set_cons_succ]
      refine wpAnyH_take (i := 19) (oi := { dst := some 66, op := Go.Op.move (Go.Operand.tmp 65), type := 4, pos := _, after := #[{ on := 18, ground := Go.Ground.data }, { on := 14, ground := Go.Ground.chain }], guard := none }) (v := ?_) rfl (by kernel_rfl) (by kernel_rfl) (by kernel_rfl) (fun _ _ _ h => h) (Or.inl ⟨by rfl, ?_⟩) (by assumption) ?_
      rotate_left
      · intro w hSw; (try dsimp only at hSw); go_simp <;> first | with_reducible rfl | (rw [if_neg (by first | omega | (simp only [ByteArray.size_append] at *; omega))])
      simp only [Act.put, List.setIfInBounds_toArray, List.set_cons_zero, List.set_cons_succ]
      refine wpAnyH_take (i := 20) (oi := { dst := some 67, op := Go.Op.load 26 (Go.Operand.tmp 3), type := 26, pos := _, after := #[{ on := 19, ground := Go.Ground.guard }], guard := some (19, true) }) (v := ?_) rfl (by kernel_rfl) (by kernel_rfl) (by kernel_rfl) (fun _ _ _ h => h) (Or.inl ⟨by rfl, ?_⟩) (by assumption) ?_
      rotate_left
      · intro w hSw; (try dsimp only at hSw); go_simp <;> first | with_reducible rfl | (rw [if_neg (by first | omega | (simp only [ByteArray.size_append] at *; omega))])
      simp only [Act.put, List.setIfInBounds_toArray, List.set_cons_zero, List.set_cons_succ]
      refine wpAnyH_take (i := 21) (oi := { dst := some 68, op := Go.Op.fieldAddr 31 (Go.Operand.tmp 1) 0, type := 0, pos := _, after := #[{ on := 19, ground := Go.Ground.guard }], guard := some (19, true) }) (v := ?_) rfl (by kernel_rfl) (by kernel_rfl) (by kernel_rfl) (fun _ _ _ h => h) (Or.inl ⟨by rfl, ?_⟩) (by assumption) ?_
      rotate_left
      · intro w hSw; (try dsimp only at hSw); go_simp <;> first | with_reducible rfl | (rw [if_neg (by first | omega | (simp only [ByteArray.size_append] at *; omega))])
      simp only [Act.put, List.setIfInBounds_toArray, List.set_cons_zero, List.set_cons_succ]
      refine wpAnyH_take (i := 22) (oi := { dst := some 69, op := Go.Op.load 26 (Go.Operand.tmp 68), type := 26, pos := _, after := #[{ on := 21, ground := Go.Ground.data }, { on := 19, ground := Go.Ground.guard }], guard := some (19, true) }) (v := ?_) rfl (by kernel_rfl) (by kernel_rfl) (by kernel_rfl) (fun _ _ _ h => h) (Or.inl ⟨by rfl, ?_⟩) (by assumption) ?_
      rotate_left
      · intro w hSw; (try dsimp only at hSw); go_simp <;> first | with_reducible rfl | (rw [if_neg (by first | omega | (simp only [ByteArray.size_append] at *; omega))])
      simp only [Act.put, List.setIfInBounds_toArray, List.set_cons_zero, List.set_cons_succ]
      refine wpAnyH_ready (rs := [23]) (by kernel_rfl) (by simp) ?_
      refine AllReadyH.cons (o := { dst := some 70, op := Go.Op.call { callee := Go.Callee.value (Go.Operand.func 15), args := #[Go.Operand.tmp 67, Go.Operand.tmp 69], argTypes := #[26, 26] }, type := 4, pos := _, after := #[{ on := 20, ground := Go.Ground.data }, { on := 22, ground := Go.Ground.data }, { on := 19, ground := Go.Ground.chain }, { on := 19, ground := Go.Ground.guard }], guard := some (19, true) }) rfl (fun K hK => ?_) AllReadyH.nil
      go_simp
      refine c15.mono ?_
      rintro e w9 ⟨rfl, hb9⟩
      have X9 := hid (X8.out.keep hb9)
      have T9 := hid (T8.out.keep hb9)
      clear hb9 c15
      obtain ⟨n09, n19, n29, n39, n49, _⟩ := X9.out.cells
      obtain ⟨m09, m19, m29, m39⟩ := row4 T9.out.row
      have c16 := left_ints l _ _ _ T9.out.I X9.out.I
      go_wp2_with fail
      refine hK.out _ _ ?_ (fun hHeld3 => ?_)
      · exact ⟨n09, n19, n29, n39, n49, m09, m19, m29, m39⟩
      clear hK K
      refine wpAnyH_take (i := 24) (oi := { dst := some 71, op := Go.Op.pick (Go.Operand.tmp 66) (Go.Operand.tmp 70) (Go.Operand.const (Go.Value.bool false)), type := 4, pos := _, after := #[{ on := 19, ground := Go.Ground.data }, { on := 23, ground := Go.Ground.data }], guard := none }) (v := ?_) rfl (by kernel_rfl) (by kernel_rfl) (by kernel_rfl) (fun _ _ _ h => h) (Or.inl ⟨by rfl, ?_⟩) (by assumption) ?_
      rotate_left
      · intro w hSw; (try dsimp only at hSw); go_simp <;> first | with_reducible rfl | (rw [if_neg (by first | omega | (simp only [ByteArray.size_append] at *; omega))])
      simp only [Act.put, List.setIfInBounds_toArray, List.set_cons_zero, List.set_cons_succ]
      refine wpAnyH_take (i := 25) (oi := { dst := some 72, op := Go.Op.move (Go.Operand.tmp 71), type := 4, pos := _, after := #[{ on := 24, ground := Go.Ground.data }, { on := 23, ground := Go.Ground.chain }], guard := none }) (v := ?_) rfl (by kernel_rfl) (by kernel_rfl) (by kernel_rfl) (fun _ _ _ h => h) (Or.inl ⟨by rfl, ?_⟩) (by assumption) ?_
      rotate_left
      · intro w hSw; (try dsimp only at hSw); go_simp <;> first | with_reducible rfl | (rw [if_neg (by first | omega | (simp only [ByteArray.size_append] at *; omega))])
      simp only [Act.put, List.setIfInBounds_toArray, List.set_cons_zero, List.set_cons_succ]
      refine wpAnyH_take (i := 26) (oi := { dst := some 73, op := Go.Op.move (Go.Operand.tmp 4), type := 27, pos := _, after := #[{ on := 25, ground := Go.Ground.guard }], guard := some (25, true) }) (v := ?_) rfl (by kernel_rfl) (by kernel_rfl) (by kernel_rfl) (fun _ _ _ h => h) (Or.inl ⟨by rfl, ?_⟩) (by assumption) ?_
      rotate_left
      · intro w hSw; (try dsimp only at hSw); go_simp <;> first | with_reducible rfl | (rw [if_neg (by first | omega | (simp only [ByteArray.size_append] at *; omega))])
      simp only [Act.put, List.setIfInBounds_toArray, List.set_cons_zero, List.set_cons_succ]
      refine wpAnyH_take (i := 27) (oi := { dst := some 74, op := Go.Op.fieldAddr 31 (Go.Operand.tmp 1) 1, type := 0, pos := _, after := #[{ on := 25, ground := Go.Ground.guard }], guard := some (25, true) }) (v := ?_) rfl (by kernel_rfl) (by kernel_rfl) (by kernel_rfl) (fun _ _ _ h => h) (Or.inl ⟨by rfl, ?_⟩) (by assumption) ?_
      rotate_left
      · intro w hSw; (try dsimp only at hSw); go_simp <;> first | with_reducible rfl | (rw [if_neg (by first | omega | (simp only [ByteArray.size_append] at *; omega))])
      simp only [Act.put, List.setIfInBounds_toArray, List.set_cons_zero, List.set_cons_succ]
      refine wpAnyH_take (i := 28) (oi := { dst := some 75, op := Go.Op.load 27 (Go.Operand.tmp 74), type := 27, pos := _, after := #[{ on := 27, ground := Go.Ground.data }, { on := 25, ground := Go.Ground.guard }], guard := some (25, true) }) (v := ?_) rfl (by kernel_rfl) (by kernel_rfl) (by kernel_rfl) (fun _ _ _ h => h) (Or.inl ⟨by rfl, ?_⟩) (by assumption) ?_
      rotate_left
      · intro w hSw; (try dsimp only at hSw); go_simp <;> first | with_reducible rfl | (rw [if_neg (by first | omega | (simp only [ByteArray.size_append] at *; omega))])
      simp only [Act.put, List.setIfInBounds_toArray, List.set_cons_zero, List.set_cons_succ]
      refine wpAnyH_ready (rs := [29]) (by kernel_rfl) (by simp) ?_
      refine AllReadyH.cons (o := { dst := some 76, op := Go.Op.call { callee := Go.Callee.value (Go.Operand.func 16), args := #[Go.Operand.tmp 73, Go.Operand.tmp 75], argTypes := #[27, 27] }, type := 4, pos := _, after := #[{ on := 26, ground := Go.Ground.data }, { on := 28, ground := Go.Ground.data }, { on := 25, ground := Go.Ground.chain }, { on := 25, ground := Go.Ground.guard }], guard := some (25, true) }) rfl (fun K hK => ?_) AllReadyH.nil
      go_simp
      refine c16.mono ?_
      rintro e w10 ⟨rfl, hb10⟩
      have X10 := hid (X9.out.keep hb10)
      have T10 := hid (T9.out.keep hb10)
      clear hb10 c16
      obtain ⟨n010, n110, n210, n310, n410, _⟩ := X10.out.cells
      obtain ⟨m010, m110, m210, m310⟩ := row4 T10.out.row
      have c8 := lives _ X10.out.R X10.out.J
      go_wp2_with fail
      refine hK.out _ _ ?_ (fun hHeld4 => ?_)
      · exact ⟨n010, n110, n210, n310, n410, m010, m110, m210, m310⟩
      clear hK K
      refine wpAnyH_take (i := 30) (oi := { dst := some 77, op := Go.Op.pick (Go.Operand.tmp 72) (Go.Operand.tmp 76) (Go.Operand.const (Go.Value.bool false)), type := 4, pos := _, after := #[{ on := 25, ground := Go.Ground.data }, { on := 29, ground := Go.Ground.data }], guard := none }) (v := ?_) rfl (by kernel_rfl) (by kernel_rfl) (by kernel_rfl) (fun _ _ _ h => h) (Or.inl ⟨by rfl, ?_⟩) (by assumption) ?_
      rotate_left
      · intro w hSw; (try dsimp only at hSw); go_simp <;> first | with_reducible rfl | (rw [if_neg (by first | omega | (simp only [ByteArray.size_append] at *; omega))])
      simp only [Act.put, List.setIfInBounds_toArray, List.set_cons_zero, List.set_cons_succ]
      refine wpAnyH_take (i := 31) (oi := { dst := some 78, op := Go.Op.move (Go.Operand.tmp 77), type := 4, pos := _, after := #[{ on := 30, ground := Go.Ground.data }, { on := 29, ground := Go.Ground.chain }], guard := none }) (v := ?_) rfl (by kernel_rfl) (by kernel_rfl) (by kernel_rfl) (fun _ _ _ h => h) (Or.inl ⟨by rfl, ?_⟩) (by assumption) ?_
      rotate_left
      · intro w hSw; (try dsimp only at hSw); go_simp <;> first | with_reducible rfl | (rw [if_neg (by first | omega | (simp only [ByteArray.size_append] at *; omega))])
      simp only [Act.put, List.setIfInBounds_toArray, List.set_cons_zero, List.set_cons_succ]
      refine wpAnyH_ready (rs := [32]) (by kernel_rfl) (by simp) ?_
      refine AllReadyH.cons (o := { dst := some 79, op := Go.Op.call { callee := Go.Callee.value (Go.Operand.func 8), args := #[], argTypes := #[] }, type := 4, pos := _, after := #[{ on := 31, ground := Go.Ground.chain }, { on := 31, ground := Go.Ground.guard }], guard := some (31, true) }) rfl (fun K hK => ?_) AllReadyH.nil
      go_simp
      refine c8.mono ?_
      rintro e w11 ⟨rfl, hb11⟩
      have X11 := hid (X10.out.keep hb11)
      have T11 := hid (T10.out.keep hb11)
      clear hb11 c8
      obtain ⟨n011, n111, n211, n311, n411, _⟩ := X11.out.cells
      obtain ⟨m011, m111, m211, m311⟩ := row4 T11.out.row
      have BZ := hid X11.out.below
      go_wp2_with fail
      refine hK.out _ _ ?_ (fun hHeld5 => ?_)
      · exact ⟨n011, n111, n211, n311, n411, m011, m111, m211, m311⟩
      clear hK K
      refine wpAnyH_take (i := 33) (oi := { dst := some 80, op := Go.Op.pick (Go.Operand.tmp 78) (Go.Operand.tmp 79) (Go.Operand.const (Go.Value.bool false)), type := 4, pos := _, after := #[{ on := 31, ground := Go.Ground.data }, { on := 32, ground := Go.Ground.data }], guard := none }) (v := ?_) rfl (by kernel_rfl) (by kernel_rfl) (by kernel_rfl) (fun _ _ _ h => h) (Or.inl ⟨by rfl, ?_⟩) (by assumption) ?_
      rotate_left
      · intro w hSw; (try dsimp only at hSw); go_simp <;> first | with_reducible rfl | (rw [if_neg (by first | omega | (simp only [ByteArray.size_append] at *; omega))])
      simp only [Act.put, List.setIfInBounds_toArray, List.set_cons_zero, List.set_cons_succ]
      refine wpAnyH_take (i := 34) (oi := { dst := some 2, op := Go.Op.assign (Go.Operand.tmp 80), type := 4, pos := _, after := #[{ on := 33, ground := Go.Ground.data }, { on := 32, ground := Go.Ground.chain }, { on := 0, ground := Go.Ground.phase }, { on := 1, ground := Go.Ground.phase }, { on := 2, ground := Go.Ground.phase }, { on := 3, ground := Go.Ground.phase }, { on := 4, ground := Go.Ground.phase }, { on := 5, ground := Go.Ground.phase }, { on := 6, ground := Go.Ground.phase }, { on := 7, ground := Go.Ground.phase }, { on := 8, ground := Go.Ground.phase }, { on := 9, ground := Go.Ground.phase }, { on := 10, ground := Go.Ground.phase }, { on := 11, ground := Go.Ground.phase }, { on := 12, ground := Go.Ground.phase }, { on := 13, ground := Go.Ground.phase }, { on := 14, ground := Go.Ground.phase }, { on := 15, ground := Go.Ground.phase }, { on := 16, ground := Go.Ground.phase }, { on := 17, ground := Go.Ground.phase }, { on := 18, ground := Go.Ground.phase }, { on := 19, ground := Go.Ground.phase }, { on := 20, ground := Go.Ground.phase }, { on := 21, ground := Go.Ground.phase }, { on := 22, ground := Go.Ground.phase }, { on := 23, ground := Go.Ground.phase }, { on := 24, ground := Go.Ground.phase }, { on := 25, ground := Go.Ground.phase }, { on := 26, ground := Go.Ground.phase }, { on := 27, ground := Go.Ground.phase }, { on := 28, ground := Go.Ground.phase }, { on := 29, ground := Go.Ground.phase }, { on := 30, ground := Go.Ground.phase }, { on := 31, ground := Go.Ground.phase }, { on := 32, ground := Go.Ground.phase }, { on := 33, ground := Go.Ground.phase }], guard := none }) (v := ?_) rfl (by kernel_rfl) (by kernel_rfl) (by kernel_rfl) (fun _ _ _ h => h) (Or.inl ⟨by rfl, ?_⟩) (by assumption) ?_
      rotate_left
      · intro w hSw; (try dsimp only at hSw); go_simp <;> first | with_reducible rfl | (rw [if_neg (by first | omega | (simp only [ByteArray.size_append] at *; omega))])
      simp only [Act.put, List.setIfInBounds_toArray, List.set_cons_zero, List.set_cons_succ]
      refine wpAnyH_done (by kernel_rfl) ?_ _
      go_wp2_with (fail)
      go_ret
      exact ⟨rfl, BZ.out⟩
end Go.Proofs.YtmlapodhpinhmaaDoor.Lex
