/-
  The walk of the law ValuesTold.
-/
import Derived.Test.YtkniacdfhajogabDoorToldM
namespace Go.Proofs.YtkniacdfhajogabDoor.Val
open Go.ChangeShapes Go.WideShapes Go.ChangeAt Go.RowKit Go.Joins
set_option maxHeartbeats 2000000
set_option linter.unusedVariables false
set_option maxRecDepth 100000 in
theorem told_p (u : Nat) (a b : Int) (p q : Bool) (S T Y Z : ByteArray) (D : List UInt8) (w : World) (hu2 : u ≤ 9223372036854775807) (hin : ∀ c ∈ D, 48 ≤ c.toNat ∧ c.toNat ≤ 57) (hval : dv D = u) (hhead : 1 < D.length → ∃ c t, D = c :: t ∧ c.toNat ≠ 48) (hlen : D.length ≤ 21) (hlen0 : 0 < D.length) (hS : S.data.toList = D)
    (hst : (S.toList == T.toList) = (a == b)) (da : decide (a < 0) = false) (hA : IntKind.i64.wrap (u : Int) = a) (dp : decide (b < a) = p) (dq : decide (a ≤ b) = q) (hYZ : (Y.toList == Z.toList) = false)
    (cs : ∀ W, TabP W → Calls Tryd.prog 5 #[vV (numV a)] W fun e w' => e = .returned (.string S) ∧ Below W.heap.size W w') (ct : ∀ W, TabP W → Calls Tryd.prog 5 #[vV (numV b)] W fun e w' => e = .returned (.string T) ∧ Below W.heap.size W w')
    (cy : ∀ W, TabP W → Calls Tryd.prog 5 #[vV (yesV p)] W fun e w' => e = .returned (.string Y) ∧ Below W.heap.size W w') (cz : ∀ W, TabP W → Calls Tryd.prog 5 #[vV (yesV q)] W fun e w' => e = .returned (.string Z) ∧ Below W.heap.size W w')
    (co : ∀ W, TabP W → Calls Tryd.prog 5 #[.agg #[.int .u8 2, .int .i64 2]] W fun e w' => e = .returned (.string ⟨#[]⟩) ∧ Below W.heap.size W w') (hT : TabP w) : Calls Tryd.prog 3 #[.int .i64 a, .int .i64 b] w fun e w' => e = .returned (.bool true) ∧ Below w.heap.size w w' := by
  have BB := hid (Below.refl w.heap.size w)
  have HT := hid hT
  have hsz : S.size = D.length := by rw [Lib.size_eq, hS]
  have h0 : S.toList.isEmpty = false := by
    rw [ByteArray.toList_eq, hS]
    cases D with | nil => exact absurd hlen0 (by simp) | cons c t => rfl
  have hSl : S.size ≤ 22 := by omega
  have HSZ := hid hsz
  have HIN := hid hin
  have HVAL := hid hval
  have HHEAD := hid hhead
  have HSD := hid hS
  have HL0 := hid hlen0
  have HU := hid hu2
  have HST := hid hst
  have HA := hid hA
  have HYZ := hid hYZ
  have CY := hid cy
  have CZ := hid cz
  have CO := hid co
  have HDP := hid dp
  have HDQ := hid dq
  clear hT hsz hin hval hhead hS hlen0 hlen hu2 hst hA hYZ cy cz co dp dq
  go_enter Tryd.func3, Tryd.ntmps3
  go_wp2_with (fail)
  refine (lnumber_at _ _).mono ?_
  rintro e wn ⟨rfl, hb⟩
  replace BB := hid (bstep BB.out hb BB.out.size)
  clear hb
  go_wp2_with (fail)
  refine (cs _ (HT.out.below BB.out)).mono ?_
  rintro e wn ⟨rfl, hb⟩
  replace BB := hid (bstep BB.out hb BB.out.size)
  clear hb
  go_wp2_with (fail)
  refine (lnumber_at _ _).mono ?_
  rintro e wn ⟨rfl, hb⟩
  replace BB := hid (bstep BB.out hb BB.out.size)
  clear hb
  go_wp2_with (fail)
  refine (ct _ (HT.out.below BB.out)).mono ?_
  rintro e wn ⟨rfl, hb⟩
  replace BB := hid (bstep BB.out hb BB.out.size)
  clear hb
  clear cs ct
  go_wp2_with (fail)
  go_loopw [7, 8] (fun n i wr => ∃ k v : Nat, k ≤ S.size ∧ v = dv (D.take k) ∧ n = .int .u64 (v : Int) ∧ i = .int .i64 (k : Int) ∧ wr = wn) (fun _ i _ => S.size - (intOf i).toNat)
  case atStart => exact ⟨0, 0, Nat.zero_le _, by simp [dv], rfl, rfl, rfl⟩
  case round =>
    obtain ⟨k, v, hk, hv, rfl, rfl, rfl⟩ := hrel
    have HV := hid hv
    clear hv
    by_cases hlt : k < S.size
    · have hlt' : (k : Int) < (S.size : Int) := by omega
      have hk0 : (0 : Int) ≤ (k : Int) := by omega
      have hd : k < D.length := by have := HSZ.out; omega
      have e1 : S.data.toList[k]'(by rw [Lib.size_eq] at hlt; exact hlt) = S[k] := rfl
      have hcb : S[k] = D[k] := by
        rw [← e1]
        simp only [HSD.out]
      have hci := HIN.out _ (List.getElem_mem hd)
      have hnext : dv (D.take (k + 1)) = 10 * dv (D.take k) + (D[k].toNat - 48) := by rw [List.take_succ_eq_append_getElem hd, dv_snoc]
      have hle := dv_take D (k + 1)
      rw [HVAL.out] at hle
      obtain ⟨c, hc⟩ : ∃ c : Nat, S[k].toNat = c := ⟨_, rfl⟩
      rw [← hcb, hc] at hci hnext
      rw [← HV.out] at hnext
      obtain ⟨v2, hv2⟩ : ∃ v2, v2 = dv (D.take (k + 1)) := ⟨_, rfl⟩
      rw [← hv2] at hnext hle
      have HV2 := hid hv2
      have f1 : ((c : Int) == 45) = false := by rw [beq_eq_false_iff_ne]; omega
      have f2 : decide ((c : Int) < 48) = false := by rw [decide_eq_false_iff_not]; omega
      have f3 : decide ((57 : Int) < (c : Int)) = false := by rw [decide_eq_false_iff_not]; omega
      have g1 : IntKind.u64.wrap (10 * (v : Int)) = 10 * (v : Int) := by have := HU.out; rw [IntKind.wrap_u64]; omega
      have g2 : IntKind.u64.wrap (10 * (v : Int) + ((c : Int) - 48)) = (v2 : Int) := by have := HU.out; rw [IntKind.wrap_u64]; omega
      have g3 : IntKind.u8.wrap ((c : Int) - 48) = (c : Int) - 48 := by rw [IntKind.wrap_u8]; omega
      have g4 : IntKind.u64.wrap ((c : Int) - 48) = (c : Int) - 48 := by rw [IntKind.wrap_u64]; omega
      have HLEAD : Hid (c = 48 → 1 < S.size → k ≠ 0) := hid (by
        intro h48 h1 hk0
        subst hk0
        obtain ⟨c0, t, e, hne⟩ := HHEAD.out (by rw [← HSZ.out]; exact h1)
        apply hne
        have : D[0] = c0 := by simp [e]
        rw [← this, ← hcb, hc]
        exact h48)
      clear hd e1 hcb hci hnext hle hv2 
      by_cases h48 : c = 48
      · have f4 : ((c : Int) == 48) = true := by rw [beq_iff_eq]; omega
        have hl := HLEAD.out h48
        clear h48 HLEAD
        by_cases h1 : 1 < S.size
        · have s1 : decide ((1 : Int) < (S.size : Int)) = true := by rw [decide_eq_true_eq]; omega
          have hkn : k ≠ 0 := hl h1
          have k0 : ((k : Int) == 0) = false := by rw [beq_eq_false_iff_ne]; omega
          clear h1 hl hkn
          by_cases k1 : k = 1
          · have k1' : ((k : Int) == 1) = true := by rw [beq_iff_eq]; omega
            clear k1
            go_wp2_with (fail)
            go_roundw
            case rel => exact ⟨k + 1, v2, by omega, by rw [HV2.out], rfl, by go_num, trivial⟩
            case measure => simp [intOf]; omega
          · have k1' : ((k : Int) == 1) = false := by rw [beq_eq_false_iff_ne]; omega
            clear k1
            go_wp2_with (fail)
            go_roundw
            case rel => exact ⟨k + 1, v2, by omega, by rw [HV2.out], rfl, by go_num, trivial⟩
            case measure => simp [intOf]; omega
        · have s1 : decide ((1 : Int) < (S.size : Int)) = false := by rw [decide_eq_false_iff_not]; omega
          clear h1 hl
          go_wp2_with (fail)
          go_roundw
          case rel => exact ⟨k + 1, v2, by omega, by rw [HV2.out], rfl, by go_num, trivial⟩
          case measure => simp [intOf]; omega
      · have f4 : ((c : Int) == 48) = false := by rw [beq_eq_false_iff_ne]; omega
        clear h48
        go_wp2_with (fail)
        go_roundw
        case rel => exact ⟨k + 1, v2, by omega, by rw [HV2.out], rfl, by go_num, trivial⟩
        case measure => simp [intOf]; omega
    · have hlt' : ¬ (k : Int) < (S.size : Int) := by omega
      obtain rfl : v = u := by
        rw [HV.out, List.take_of_length_le (by have := HSZ.out; omega)]
        exact HVAL.out
      clear HV
      have hA := HA.out
      have hst := HST.out
      have hyz := HYZ.out
      have dp := HDP.out
      have dq := HDQ.out
      have ha2 : (a == a) = true := by simp
      clear hyz hst
      go_wp2_with (fail)
      refine (alive_at _ (HT.out.below BB.out)).mono ?_
      rintro e wn ⟨rfl, hb⟩
      replace BB := hid (bstep BB.out hb BB.out.size)
      clear hb
      have hst := HST.out
      generalize hab : (a == b) = ab at *
      have hab2 : (ab == ab) = true := by cases ab <;> rfl
      go_wp2_with (fail)
      refine (lyes_at _ _).mono ?_
      rintro e wn ⟨rfl, hb⟩
      replace BB := hid (bstep BB.out hb BB.out.size)
      clear hb
      go_wp2_with (fail)
      refine (CY.out _ (HT.out.below BB.out)).mono ?_
      rintro e wn ⟨rfl, hb⟩
      replace BB := hid (bstep BB.out hb BB.out.size)
      clear hb
      go_wp2_with (fail)
      refine (lyes_at _ _).mono ?_
      rintro e wn ⟨rfl, hb⟩
      replace BB := hid (bstep BB.out hb BB.out.size)
      clear hb
      go_wp2_with (fail)
      refine (CZ.out _ (HT.out.below BB.out)).mono ?_
      rintro e wn ⟨rfl, hb⟩
      replace BB := hid (bstep BB.out hb BB.out.size)
      clear hb
      have hyz := HYZ.out
      have hyz2 : (Y.toList != Z.toList) = true := by rw [bne, hyz]; rfl
      go_wp2_with (fail)
      refine (CO.out _ (HT.out.below BB.out)).mono ?_
      rintro e wn ⟨rfl, hb⟩
      replace BB := hid (bstep BB.out hb BB.out.size)
      clear hb
      go_wp2_with (fail)
      go_ret
      exact ⟨rfl, BB.out⟩
set_option maxRecDepth 100000 in
theorem told_n (u : Nat) (a b : Int) (p q : Bool) (S T Y Z : ByteArray) (D : List UInt8) (w : World) (hu : 0 < u) (hu2 : u ≤ 9223372036854775808) (hin : ∀ c ∈ D, 48 ≤ c.toNat ∧ c.toNat ≤ 57) (hval : dv D = u) (hhead : 0 < D.length → ∃ c t, D = c :: t ∧ c.toNat ≠ 48) (hlen : D.length ≤ 21) (hlen0 : 0 < D.length) (hS : S.data.toList = 45 :: D)
    (hst : (S.toList == T.toList) = (a == b)) (da : decide (a < 0) = true) (hA : IntKind.i64.wrap (IntKind.u64.wrap (-(u : Int))) = a) (dp : decide (b < a) = p) (dq : decide (a ≤ b) = q) (hYZ : (Y.toList == Z.toList) = false)
    (cs : ∀ W, TabP W → Calls Tryd.prog 5 #[vV (numV a)] W fun e w' => e = .returned (.string S) ∧ Below W.heap.size W w') (ct : ∀ W, TabP W → Calls Tryd.prog 5 #[vV (numV b)] W fun e w' => e = .returned (.string T) ∧ Below W.heap.size W w')
    (cy : ∀ W, TabP W → Calls Tryd.prog 5 #[vV (yesV p)] W fun e w' => e = .returned (.string Y) ∧ Below W.heap.size W w') (cz : ∀ W, TabP W → Calls Tryd.prog 5 #[vV (yesV q)] W fun e w' => e = .returned (.string Z) ∧ Below W.heap.size W w')
    (co : ∀ W, TabP W → Calls Tryd.prog 5 #[.agg #[.int .u8 2, .int .i64 2]] W fun e w' => e = .returned (.string ⟨#[]⟩) ∧ Below W.heap.size W w') (hT : TabP w) : Calls Tryd.prog 3 #[.int .i64 a, .int .i64 b] w fun e w' => e = .returned (.bool true) ∧ Below w.heap.size w w' := by
  have BB := hid (Below.refl w.heap.size w)
  have HT := hid hT
  have hsz : S.size = D.length + 1 := by rw [Lib.size_eq, hS]; rfl
  have h0 : S.toList.isEmpty = false := by
    rw [ByteArray.toList_eq, hS]
    rfl
  have hSl : S.size ≤ 22 := by omega
  have HSZ := hid hsz
  have HIN := hid hin
  have HVAL := hid hval
  have HHEAD := hid hhead
  have HSD := hid hS
  have HL0 := hid hlen0
  have HU := hid hu2
  have HST := hid hst
  have HA := hid hA
  have HYZ := hid hYZ
  have CY := hid cy
  have CZ := hid cz
  have CO := hid co
  have HDP := hid dp
  have HDQ := hid dq
  have HU0 := hid hu
  clear hT hsz hin hval hhead hS hlen0 hlen hu2 hst hA hYZ cy cz co dp dq hu
  go_enter Tryd.func3, Tryd.ntmps3
  go_wp2_with (fail)
  refine (lnumber_at _ _).mono ?_
  rintro e wn ⟨rfl, hb⟩
  replace BB := hid (bstep BB.out hb BB.out.size)
  clear hb
  go_wp2_with (fail)
  refine (cs _ (HT.out.below BB.out)).mono ?_
  rintro e wn ⟨rfl, hb⟩
  replace BB := hid (bstep BB.out hb BB.out.size)
  clear hb
  go_wp2_with (fail)
  refine (lnumber_at _ _).mono ?_
  rintro e wn ⟨rfl, hb⟩
  replace BB := hid (bstep BB.out hb BB.out.size)
  clear hb
  go_wp2_with (fail)
  refine (ct _ (HT.out.below BB.out)).mono ?_
  rintro e wn ⟨rfl, hb⟩
  replace BB := hid (bstep BB.out hb BB.out.size)
  clear hb
  clear cs ct
  go_wp2_with (fail)
  go_loopw [7, 8] (fun n i wr => ∃ k v : Nat, k ≤ S.size ∧ v = dv (D.take (k - 1)) ∧ n = .int .u64 (v : Int) ∧ i = .int .i64 (k : Int) ∧ wr = wn) (fun _ i _ => S.size - (intOf i).toNat)
  case atStart => exact ⟨0, 0, Nat.zero_le _, by simp [dv], rfl, rfl, rfl⟩
  case round =>
    obtain ⟨k, v, hk, hv, rfl, rfl, rfl⟩ := hrel
    have HV := hid hv
    clear hv
    by_cases hlt : k < S.size
    · have hlt' : (k : Int) < (S.size : Int) := by omega
      have hk0 : (0 : Int) ≤ (k : Int) := by omega
      by_cases hk1 : k = 0
      · subst hk1
        have hc : S[0].toNat = 45 := by
          have e1 : S.data.toList[0]'(by rw [Lib.size_eq] at hlt; exact hlt) = S[0] := rfl
          rw [← e1]
          simp only [HSD.out, List.getElem_cons_zero]
          rfl
        go_wp2_with (fail)
        go_roundw
        case rel => exact ⟨1, v, by omega, by rw [HV.out], rfl, rfl, trivial⟩
        case measure => simp [intOf]; omega
      · have k0 : ((k : Int) == 0) = false := by rw [beq_eq_false_iff_ne]; omega
        have HK1 := hid hk1
        have hd : (k - 1) < D.length := by have := HSZ.out; omega
        have e1 : S.data.toList[k]'(by rw [Lib.size_eq] at hlt; exact hlt) = S[k] := rfl
        have hcb : S[k] = D[(k - 1)] := by
          rw [← e1]
          obtain ⟨j, rfl⟩ : ∃ j, k = j + 1 := ⟨k - 1, by omega⟩; simp only [HSD.out, List.getElem_cons_succ, Nat.add_sub_cancel]
        have hci := HIN.out _ (List.getElem_mem hd)
        have hnext : dv (D.take ((k - 1) + 1)) = 10 * dv (D.take (k - 1)) + (D[(k - 1)].toNat - 48) := by rw [List.take_succ_eq_append_getElem hd, dv_snoc]
        have hle := dv_take D ((k - 1) + 1)
        rw [HVAL.out] at hle
        obtain ⟨c, hc⟩ : ∃ c : Nat, S[k].toNat = c := ⟨_, rfl⟩
        rw [← hcb, hc] at hci hnext
        rw [← HV.out] at hnext
        obtain ⟨v2, hv2⟩ : ∃ v2, v2 = dv (D.take ((k - 1) + 1)) := ⟨_, rfl⟩
        rw [← hv2] at hnext hle
        have HV2 := hid hv2
        have f1 : ((c : Int) == 45) = false := by rw [beq_eq_false_iff_ne]; omega
        have f2 : decide ((c : Int) < 48) = false := by rw [decide_eq_false_iff_not]; omega
        have f3 : decide ((57 : Int) < (c : Int)) = false := by rw [decide_eq_false_iff_not]; omega
        have g1 : IntKind.u64.wrap (10 * (v : Int)) = 10 * (v : Int) := by have := HU.out; rw [IntKind.wrap_u64]; omega
        have g2 : IntKind.u64.wrap (10 * (v : Int) + ((c : Int) - 48)) = (v2 : Int) := by have := HU.out; rw [IntKind.wrap_u64]; omega
        have g3 : IntKind.u8.wrap ((c : Int) - 48) = (c : Int) - 48 := by rw [IntKind.wrap_u8]; omega
        have g4 : IntKind.u64.wrap ((c : Int) - 48) = (c : Int) - 48 := by rw [IntKind.wrap_u64]; omega
        have HLEAD : Hid (c = 48 → k ≠ 1) := hid (by
          intro h48 hkk
          subst hkk
          obtain ⟨c0, t, e, hne⟩ := HHEAD.out HL0.out
          apply hne
          have : D[0] = c0 := by simp [e]
          rw [← this]
          have hcb' : S[1] = D[0] := hcb
          rw [← hcb', hc]
          exact h48)
        clear hd e1 hcb hci hnext hle hv2 
        by_cases h48 : c = 48
        · have f4 : ((c : Int) == 48) = true := by rw [beq_iff_eq]; omega
          have hl := HLEAD.out h48
          clear h48 HLEAD
          have s1 : decide ((1 : Int) < (S.size : Int)) = true := by have := HSZ.out; have := HL0.out; rw [decide_eq_true_eq]; omega
          have k1' : ((k : Int) == 1) = false := by rw [beq_eq_false_iff_ne]; omega
          clear hl hk1
          go_wp2_with (fail)
          go_roundw
          case rel => exact ⟨k + 1, v2, by omega, by rw [HV2.out, show k - 1 + 1 = k + 1 - 1 by have := HK1.out; omega], rfl, by go_num, trivial⟩
          case measure => simp [intOf]; omega
        · have f4 : ((c : Int) == 48) = false := by rw [beq_eq_false_iff_ne]; omega
          clear h48
          go_wp2_with (fail)
          go_roundw
          case rel => exact ⟨k + 1, v2, by omega, by rw [HV2.out, show k - 1 + 1 = k + 1 - 1 by have := HK1.out; omega], rfl, by go_num, trivial⟩
          case measure => simp [intOf]; omega
    · have hlt' : ¬ (k : Int) < (S.size : Int) := by omega
      obtain rfl : v = u := by
        rw [HV.out, List.take_of_length_le (by have := HSZ.out; omega)]
        exact HVAL.out
      clear HV
      have hA := HA.out
      have hst := HST.out
      have hyz := HYZ.out
      have dp := HDP.out
      have dq := HDQ.out
      have ha2 : (a == a) = true := by simp
      have hz : 0 < S.size := by have := HSZ.out; omega
      have hc : S[0].toNat = 45 := by
        have e1 : S.data.toList[0]'(by rw [Lib.size_eq] at hz; exact hz) = S[0] := rfl
        rw [← e1]
        simp only [HSD.out, List.getElem_cons_zero]
        rfl
      clear hyz hst
      go_wp2_with (fail)
      refine (alive_at _ (HT.out.below BB.out)).mono ?_
      rintro e wn ⟨rfl, hb⟩
      replace BB := hid (bstep BB.out hb BB.out.size)
      clear hb
      have hst := HST.out
      generalize hab : (a == b) = ab at *
      have hab2 : (ab == ab) = true := by cases ab <;> rfl
      go_wp2_with (fail)
      refine (lyes_at _ _).mono ?_
      rintro e wn ⟨rfl, hb⟩
      replace BB := hid (bstep BB.out hb BB.out.size)
      clear hb
      go_wp2_with (fail)
      refine (CY.out _ (HT.out.below BB.out)).mono ?_
      rintro e wn ⟨rfl, hb⟩
      replace BB := hid (bstep BB.out hb BB.out.size)
      clear hb
      go_wp2_with (fail)
      refine (lyes_at _ _).mono ?_
      rintro e wn ⟨rfl, hb⟩
      replace BB := hid (bstep BB.out hb BB.out.size)
      clear hb
      go_wp2_with (fail)
      refine (CZ.out _ (HT.out.below BB.out)).mono ?_
      rintro e wn ⟨rfl, hb⟩
      replace BB := hid (bstep BB.out hb BB.out.size)
      clear hb
      have hyz := HYZ.out
      have hyz2 : (Y.toList != Z.toList) = true := by rw [bne, hyz]; rfl
      go_wp2_with (fail)
      refine (CO.out _ (HT.out.below BB.out)).mono ?_
      rintro e wn ⟨rfl, hb⟩
      replace BB := hid (bstep BB.out hb BB.out.size)
      clear hb
      go_wp2_with (fail)
      go_ret
      exact ⟨rfl, BB.out⟩
theorem told_odd (W : World) (h : TabP W) : Calls Tryd.prog 5 #[.agg #[.int .u8 2, .int .i64 2]] W fun e w' => e = .returned (.string ⟨#[]⟩) ∧ Below W.heap.size W w' := text_at ⟨2, 2⟩ ⟨by show (2 : Nat) < 256; omega, by show (-9223372036854775808 : Int) ≤ 2; omega, by show (2 : Int) ≤ _; omega⟩ W h
theorem yes_ok (p : Bool) : (yesV p).ok := by cases p <;> exact ⟨by show (2 : Nat) < 256; omega, by decide, by decide⟩
theorem words_ne (p : Bool) : ((txtB (yesV p)).toList == (txtB (yesV (!p))).toList) = false := by
  rw [ByteArray.toList_eq, ByteArray.toList_eq]
  cases p <;> decide +kernel
theorem walk3 (a b : Int) (w : World) (ha : -9223372036854775808 ≤ a ∧ a ≤ 9223372036854775807) (hb : -9223372036854775808 ≤ b ∧ b ≤ 9223372036854775807) (hT : TabP w) : Calls Tryd.prog 3 #[.int .i64 a, .int .i64 b] w fun e w' => e = .returned (.bool true) ∧ Below w.heap.size w w' := by
  have hq : decide (a ≤ b) = !decide (b < a) := by rw [Bool.eq_iff_iff]; simp
  have ca := fun W h => text_at (numV a) ⟨by show (1 : Nat) < 256; omega, ha⟩ W h
  have cb := fun W h => text_at (numV b) ⟨by show (1 : Nat) < 256; omega, hb⟩ W h
  by_cases h0 : a < 0
  · obtain ⟨u, rfl, hu⟩ : ∃ u : Nat, a = -(u : Int) ∧ 0 < u := ⟨a.natAbs, by omega, by omega⟩
    have hl := Lib.itoa_length_le (-(u : Int)) ha.1 ha.2
    rw [itoa_neg u hu, List.length_cons] at hl
    exact told_n u _ b _ _ _ _ _ _ (Lib.decDigits u) w hu (by omega) (digits_in u u (Nat.le_refl _)) (dv_digits u u (Nat.le_refl _)) (fun _ => digits_head u u (Nat.le_refl _) hu) (by omega) (List.length_pos_iff.2 (digits_some u)) (show (Lib.itoa (-(u : Int))) = _ from itoa_neg u hu) (ia_same _ b) (decide_eq_true h0) (by rw [IntKind.wrap_u64, IntKind.wrap_i64]; omega) rfl hq (words_ne _) ca cb (fun W h => text_at _ (yes_ok _) W h) (fun W h => text_at _ (yes_ok _) W h) told_odd hT
  · obtain ⟨u, rfl⟩ : ∃ u : Nat, a = (u : Int) := ⟨a.natAbs, by omega⟩
    have hl := Lib.itoa_length_le (u : Int) ha.1 ha.2
    rw [itoa_nat u] at hl
    exact told_p u _ b _ _ _ _ _ _ (Lib.decDigits u) w (by omega) (digits_in u u (Nat.le_refl _)) (dv_digits u u (Nat.le_refl _)) (fun h1 => digits_head u u (Nat.le_refl _) (by
      by_cases hu : u < 10
      · rw [digs_small u hu] at h1; simp at h1
      · omega)) hl (List.length_pos_iff.2 (digits_some u)) (show (Lib.itoa (u : Int)) = _ from itoa_nat u) (ia_same _ b) (decide_eq_false h0) (by rw [IntKind.wrap_i64]; omega) rfl hq (words_ne _) ca cb (fun W h => text_at _ (yes_ok _) W h) (fun W h => text_at _ (yes_ok _) W h) told_odd hT
end Go.Proofs.YtkniacdfhajogabDoor.Val
