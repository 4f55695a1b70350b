/-
  The walk of OrderBehind.
-/
import Derived.Test.YtdhjedpgdhageaaBehW
namespace Go.Proofs.Ytdhjedpgdhageaa.Ord
open Go.ChangeShapes Go.WideShapes Go.ChangeAt Go.RowKit Go.Joins
set_option maxRecDepth 100000 in
set_option maxHeartbeats 1000000 in
theorem walk3 (vl : Value) (l : List (List Int)) (W : World) (h : LL W W.heap.size vl l) : Calls Try.prog 3 #[vl] W fun e w' => e = .returned (.bool true) ∧ Below W.heap.size W w' := by
  have HL := hid h
  obtain ⟨ao, c, rfl, hle, hcc, _⟩ := h
  go_enter Try.func3, Try.ntmps3
  go_wp2_with (fail)
  refine (alive_at W).mono ?_
  rintro e w1 ⟨rfl, b1⟩
  have L1 := hid (HL.out.keepW b1)
  have B1 := hid b1
  clear b1
  go_wp2_with (fail)
  refine (great_at w1 _ _ l L1.out).mono ?_
  rintro e w2 ⟨g, rfl, rfl, hg⟩
  cases g with
  | true =>
    go_wp2_with (fail)
    refine (alive_at w2).mono ?_
    rintro e w3 ⟨rfl, b3⟩
    have B3 := hid (bstep B1.out b3)
    clear b3
    go_wp2_with (fail)
    go_ret
    exact ⟨rfl, B3.out⟩
  | false =>
    obtain ⟨hl200, hrows⟩ := hg rfl
    have HRW := hid hrows
    clear hg hrows
    go_wp2_with (fail)
    refine (of_at w2 _ l L1.out (by omega)).mono ?_
    rintro e w3 ⟨v, rfl, hrow, hb3⟩
    obtain ⟨va, vc, rfl, hcut⟩ := hrow.at
    clear hcut
    have R3 := hid hrow
    have L3 := hid (L1.out.keepW hb3)
    have B3 := hid (bstep B1.out hb3)
    have hvl : (ofV l).1.length ≤ l.length := ofV_len l
    clear hrow hb3
    by_cases he : (ofV l).2 = 0
    · obtain ⟨_, hx1, hxl⟩ := ofV_ok he
      have HGO := hid (ord_goes l)
      have e0 : ((ofV l).2 != 0) = false := by rw [he]; rfl
      rw [hx1] at R3 hvl ⊢
      generalize ord l = x at *
      have HXL := hid hxl
      have e1 : ((x.length : Int) != (l.length : Int)) = false := by rw [bne_eq_false_iff_eq]; omega
      have mk := mk_ints l.length (by omega)
      clear he hx1 hxl
      go_wp2_with (fail)
      have BS0 : Hid (∃ xb, BS W (w3.alloc (.cells (madeCells #[.int .i64 0] l.length) 3)) (.slice ao l.length c) l xb vc x w3.heap.size (List.replicate l.length 0) ∧ (x = [] ∨ va = some ⟨xb, 0, none⟩)) := hid (by
        have hb : Below w3.heap.size w3 (w3.alloc (.cells (madeCells #[.int .i64 0] l.length) 3)) := (Below.refl _ _).alloc (Nat.le_refl _) _
        have hw : W.heap.size ≤ w2.heap.size := B1.out.size
        have hL := (HL.out.keep B3.out).keep (hb.mono B3.out.size)
        have hA := made_ints w3 l.length W.heap.size B3.out.size (by omega)
        by_cases h0 : x.length = 0
        · have hx0 : x = [] := List.length_eq_zero_iff.1 h0
          exact ⟨0, ⟨hL, .inl hx0, hA, by simp, .inl hx0, B3.out.trans (hb.mono B3.out.size)⟩, .inl hx0⟩
        · obtain ⟨g, cap, cur, e, _⟩ := R3.out.full (by omega)
          injection e with e1 _ _
          have hR := (R3.out.down hw).below hb
          rw [e1] at hR
          have hlt := (R3.out.lo g (by rw [e1]; rfl)).2
          exact ⟨g, ⟨hL, .inr hR, hA, by simp, .inr (by omega), B3.out.trans (hb.mono B3.out.size)⟩, .inr e1⟩)
      obtain ⟨xb, hBS0, hva⟩ := BS0.out
      have HB0 := hid hBS0
      have HVA := hid hva
      clear hBS0 hva BS0
      generalize (w3.alloc (.cells (madeCells #[.int .i64 0] l.length) 3)) = w4 at *
      generalize w3.heap.size = ab at *
      generalize List.replicate l.length (0 : Int) = A0 at *
      clear R3 L3 B3 L1 B1 mk
      go_loopw [6] (fun s6 wr => ∃ (i : Nat) (A : List Int), i ≤ l.length ∧ s6 = .int .i64 (i : Int) ∧ Hid (BS W wr (.slice ao l.length c) l xb vc x ab A ∧ ∀ j, j < i → ga A j = -1)) (fun s6 _ => l.length - (intOf s6).toNat)
      case atStart => exact ⟨0, A0, by omega, rfl, hid ⟨HB0.out, fun j hj => by omega⟩⟩
      case round =>
        obtain ⟨i, A, hi, rfl, HI⟩ := hrel
        by_cases hlt : i < l.length
        · have hlt' : (i : Int) < (l.length : Int) := by omega
          obtain ⟨ca, fa⟩ := HI.out.1.ca hlt
          have HN := hid (HI.out.1.put i (-1))
          have HJ : Hid (∀ j, j < i + 1 → ga (A.set i (-1)) j = -1) := hid (fun j hj => by
            rw [ga_set (by rw [HI.out.1.len]; exact hlt)]
            by_cases e : j = i
            · rw [if_pos e]
            · rw [if_neg e]; exact HI.out.2 j (by omega))
          go_wp2_with (fail)
          go_roundw
          case rel => exact ⟨i + 1, A.set i (-1), by omega, by go_num, hid ⟨HN.out, HJ.out⟩⟩
          case measure => simp [intOf]; omega
        · have hlt' : ¬ (i : Int) < (l.length : Int) := by omega
          obtain rfl : i = l.length := by omega
          clear HB0
          have HXL2 := hid HXL.out
          go_wp2_with (fail)
          go_loopw [7] (fun s7 wr => ∃ (i : Nat) (A : List Int), i ≤ x.length ∧ s7 = .int .i64 (i : Int) ∧ Hid (BS W wr (.slice ao l.length c) l xb vc x ab A ∧ (∀ z : Nat, z < l.length → (z : Int) ∉ x.take i → ga A z = -1) ∧ ∀ j, j < i → ga A (ga x j).toNat = (j : Int))) (fun s7 _ => x.length - (intOf s7).toNat)
          case atStart => exact ⟨0, A, by omega, rfl, hid ⟨HI.out.1, fun z hz _ => HI.out.2 z hz, fun j hj => by omega⟩⟩
          case round =>
            obtain ⟨i, A, hi, rfl, HI⟩ := hrel
            by_cases hlt : i < x.length
            · have hlt' : (i : Int) < (x.length : Int) := by omega
              obtain rfl : va = some ⟨xb, 0, none⟩ := HVA.out.resolve_left (by intro e; rw [e] at hlt; simp at hlt)
              have cx := HI.out.1.cx hlt
              obtain ⟨⟨x0, x1⟩, ⟨xn1, _⟩, _⟩ := HGO.out.mem hlt
              have HS : Hid (BS W (wr.setCell ⟨ab, (ga x i).toNat, none⟩ (.int .i64 (i : Int))) (.slice ao l.length c) l xb vc x ab (A.set (ga x i).toNat (i : Int))) := hid (HI.out.1.put _ _)
              have HJ : Hid ((∀ z : Nat, z < l.length → (z : Int) ∉ x.take (i + 1) → ga (A.set (ga x i).toNat (i : Int)) z = -1) ∧ ∀ j, j < i + 1 → ga (A.set (ga x i).toNat (i : Int)) (ga x j).toNat = (j : Int)) := hid (by
                have hAl : (ga x i).toNat < A.length := by rw [HI.out.1.len]; omega
                refine ⟨fun z hz hno => ?_, fun j hj => ?_⟩
                · rw [take_ga hlt, List.mem_append, List.mem_singleton] at hno
                  rw [ga_set hAl, if_neg (fun e => hno (.inr (by omega)))]
                  exact HI.out.2.1 z hz (fun e => hno (.inl e))
                · rw [ga_set hAl]
                  by_cases e : j = i
                  · rw [e, if_pos rfl]
                  · have hne := HGO.out.ne hlt (show j < i by omega)
                    have hj0 := (HGO.out.mem (show j < x.length by omega)).1.1
                    rw [if_neg (by omega)]
                    exact HI.out.2.2 j (by omega))
              have cA := (HI.out.1.ca (i := (ga x i).toNat) (by omega)).1
              have fA := (HI.out.1.ca (i := (ga x i).toNat) (by omega)).2
              rw [HI.out.2.1 _ (by omega) (by rw [show (((ga x i).toNat : Nat) : Int) = ga x i by omega]; exact xn1)] at cA
              obtain ⟨xn, hxn⟩ := Int.eq_ofNat_of_zero_le x0
              rw [hxn] at cx x1 HS HJ cA fA
              rw [show ((xn : Int)).toNat = xn by omega] at HS HJ cA fA
              have d1 : decide ((l.length : Int) ≤ (xn : Int)) = false := decide_eq_false (by omega)
              have d2 : decide ((xn : Int) ≥ (l.length : Int)) = false := decide_eq_false (by omega)
              have hxl : (xn : Int) < (l.length : Int) := by omega
              have hxl2 : xn < l.length := by omega
              clear xn1 hxn x0
              go_wp2_with (fail)
              go_roundw
              case rel => exact ⟨i + 1, _, by omega, by go_num, hid ⟨HS.out, HJ.out⟩⟩
              case measure => simp [intOf]; omega
            · have hlt' : ¬ (i : Int) < (x.length : Int) := by omega
              obtain rfl : i = x.length := by omega
              have HPL := hid HI.out.2.2
              have HBS := hid HI.out.1
              clear HI HXL2
              go_wp2_with (fail)
              go_loopw [8] (fun s8 wr => ∃ i : Nat, i ≤ x.length ∧ s8 = .int .i64 (i : Int) ∧ Hid (BS W wr (.slice ao l.length c) l xb vc x ab A)) (fun s8 _ => x.length - (intOf s8).toNat)
              case atStart => exact ⟨0, by omega, rfl, HBS⟩
              case round =>
                clear HBS
                obtain ⟨i, hi, rfl, HI⟩ := hrel
                by_cases hlt : i < x.length
                · have hlt' : (i : Int) < (x.length : Int) := by omega
                  obtain rfl : va = some ⟨xb, 0, none⟩ := HVA.out.resolve_left (by intro e; rw [e] at hlt; simp at hlt)
                  cases i with
                  | zero =>
                    obtain ⟨⟨x0, x1⟩, hnot, _⟩ := HGO.out.mem hlt
                    clear hnot
                    have cx := HI.out.cx hlt
                    have HBEH := hid (fun y hy => HGO.out.behind hlt (y := y) hy)
                    obtain ⟨xn, hxn⟩ := Int.eq_ofNat_of_zero_le x0
                    have HXN := hid hxn
                    rw [hxn] at cx HBEH x1
                    clear hxn x0
                    have hxl : xn < l.length := by omega
                    obtain ⟨lb, lo2, ao2, c2, hao, hlb, hcl0, hrd0⟩ := HL.out.row hxl
                    subst hao
                    have HRD := hid hrd0
                    have hrl : (l.getD xn []).length ≤ 3000 := HRW.out xn hxl
                    have HRO := hid (rowOf_nat l xn)
                    clear hrd0
                    have HCL := hid hcl0
                    clear hcl0
                    generalize l.getD xn [] = r at *
                    have hle2 : r.length ≤ c2 := by
                      obtain ⟨_, _, e, h1, _⟩ := HRD.out
                      injection e with _ _ e3
                      omega
                    have hcl := (HI.out.below.cell (p := ⟨lb, lo2 + xn, none⟩) hlb).trans HCL.out
                    go_wp2_with (fail)
                    go_loopw [10, 11] (fun s10 s11 wr => ∃ (fr : Bool) (k : Nat), k ≤ r.length ∧ s10 = .bool fr ∧ s11 = .int .i64 (k : Int) ∧ Hid (BS W wr (.slice (some ⟨lb, lo2, none⟩) l.length c) l xb vc x ab A ∧ (fr = false))) (fun _ s11 _ => r.length - (intOf s11).toNat)
                    case atStart => exact ⟨false, 0, by omega, rfl, rfl, hid ⟨HI.out, rfl⟩⟩
                    case round =>
                      clear hcl cx 
                      obtain ⟨fr, k, hk, rfl, rfl, HK⟩ := hrel
                      have hcl := (HK.out.1.below.cell (p := ⟨lb, lo2 + xn, none⟩) hlb).trans HCL.out
                      by_cases hkl : k < r.length
                      · have hkl' : (k : Int) < (r.length : Int) := by omega
                        obtain ⟨rb, ro, hrao, hrb, hck0⟩ := HRD.out.cellAt hkl
                        subst hrao
                        have hck := (HK.out.1.below.cell (p := ⟨rb, ro + k, none⟩) hrb).trans hck0
                        have HY : Hid (∃ j, j < 0 ∧ ga x j = ga r k) := hid (HBEH.out (ga r k) (by rw [HRO.out, ga_lt hkl]; exact List.getElem_mem hkl))
                        obtain ⟨j, hj, hjy⟩ := HY.out
                        exact (Nat.not_lt_zero j hj).elim
                      · have hkl' : ¬ (k : Int) < (r.length : Int) := by omega
                        obtain rfl : k = r.length := by omega
                        obtain rfl : fr = false := HK.out.2
                        go_wp2_with (fail)
                        go_roundw
                        case rel => exact ⟨0 + 1, by omega, by go_num, hid HK.out.1⟩
                        case measure => simp [intOf]; omega
                  | succ i =>
                    obtain ⟨⟨x0, x1⟩, hnot, _⟩ := HGO.out.mem hlt
                    clear hnot
                    have cx := HI.out.cx hlt
                    have HBEH := hid (fun y hy => HGO.out.behind hlt (y := y) hy)
                    have HWT := hid (fun h => HGO.out.waits hlt h)
                    have cp := HI.out.cx (show i < x.length by omega)
                    obtain ⟨xn, hxn⟩ := Int.eq_ofNat_of_zero_le x0
                    have HXN := hid hxn
                    rw [hxn] at cx HBEH x1
                    clear hxn x0
                    have hxl : xn < l.length := by omega
                    obtain ⟨lb, lo2, ao2, c2, hao, hlb, hcl0, hrd0⟩ := HL.out.row hxl
                    subst hao
                    have HRD := hid hrd0
                    have hrl : (l.getD xn []).length ≤ 3000 := HRW.out xn hxl
                    have HRO := hid (rowOf_nat l xn)
                    clear hrd0
                    have HCL := hid hcl0
                    clear hcl0
                    generalize l.getD xn [] = r at *
                    have hle2 : r.length ≤ c2 := by
                      obtain ⟨_, _, e, h1, _⟩ := HRD.out
                      injection e with _ _ e3
                      omega
                    have hcl := (HI.out.below.cell (p := ⟨lb, lo2 + xn, none⟩) hlb).trans HCL.out
                    have HF0 : Hid (decide ((xn : Int) < ga x i) = true → ga x (i + 1) < ga x i) := hid (fun h => by rw [HXN.out]; exact of_decide_eq_true h)
                    go_wp2_with (fail)
                    go_loopw [10, 11] (fun s10 s11 wr => ∃ (fr : Bool) (k : Nat), k ≤ r.length ∧ s10 = .bool fr ∧ s11 = .int .i64 (k : Int) ∧ Hid (BS W wr (.slice (some ⟨lb, lo2, none⟩) l.length c) l xb vc x ab A ∧ (fr = true → ga x (i + 1) < ga x i ∧ ∀ j, j < k → ga r j ≠ ga x i))) (fun _ s11 _ => r.length - (intOf s11).toNat)
                    case atStart => exact ⟨_, 0, by omega, rfl, rfl, hid ⟨HI.out, fun h => ⟨HF0.out h, fun j hj => by omega⟩⟩⟩
                    case round =>
                      clear hcl cx cp
                      obtain ⟨fr, k, hk, rfl, rfl, HK⟩ := hrel
                      have hcl := (HK.out.1.below.cell (p := ⟨lb, lo2 + xn, none⟩) hlb).trans HCL.out
                      by_cases hkl : k < r.length
                      · have hkl' : (k : Int) < (r.length : Int) := by omega
                        obtain ⟨rb, ro, hrao, hrb, hck0⟩ := HRD.out.cellAt hkl
                        subst hrao
                        have hck := (HK.out.1.below.cell (p := ⟨rb, ro + k, none⟩) hrb).trans hck0
                        have HY : Hid (∃ j, j < (i + 1) ∧ ga x j = ga r k) := hid (HBEH.out (ga r k) (by rw [HRO.out, ga_lt hkl]; exact List.getElem_mem hkl))
                        obtain ⟨j, hj, hjy⟩ := HY.out
                        have HJY := hid hjy
                        have hjb := (HGO.out.mem (show j < x.length by omega)).1
                        have hpl := HPL.out j (by omega)
                        rw [hjy] at hjb hpl
                        obtain ⟨yn, hyn⟩ := Int.eq_ofNat_of_zero_le hjb.1
                        have HYN := hid hyn
                        rw [hyn] at hpl hck hjb
                        rw [show ((yn : Int)).toNat = yn by omega] at hpl
                        have hyl : yn < l.length := by omega
                        have cA := (HK.out.1.ca hyl).1
                        rw [hpl] at cA
                        clear hpl hyn hjy HY hck0 hjb
                        have d1 : decide ((l.length : Int) ≤ (yn : Int)) = false := decide_eq_false (by omega)
                        have d2 : decide ((yn : Int) ≥ (l.length : Int)) = false := decide_eq_false (by omega)
                        have hyl' : (yn : Int) < (l.length : Int) := by omega
                        have d3 : decide (((i : Int) + 1) ≤ (j : Int)) = false := decide_eq_false (by omega)
                        have d4 : decide ((j : Int) ≥ ((i : Int) + 1)) = false := decide_eq_false (by omega)
                        cases fr with
                        | false =>
                          go_wp2_with (fail)
                          refine wp_region_held_drew (S := fun V => True) (by kernel_rfl) ?_ (fun hHeld => ?_)
                          · trivial
                          refine wpAnyH_take (i := 0) (oi := { dst := some 147, op := Go.Op.move (Go.Operand.tmp 10), type := 4, pos := _, after := #[], guard := none }) (v := ?_) rfl (by kernel_rfl) (by kernel_rfl) (by kernel_rfl) (fun _ _ _ h => h) (Or.inl ⟨by rfl, ?_⟩) (by assumption) ?_
                          rotate_left
                          · intro w hSw; (try dsimp only at hSw); go_simp <;> first | with_reducible rfl | (rw [if_neg (by first | omega | (simp only [ByteArray.size_append] at *; omega))])
                          simp only [Act.put, List.setIfInBounds_toArray, List.set_cons_zero, List.set_cons_succ]
                          refine wpAnyH_take (i := 1) (oi := { dst := some 148, op := Go.Op.move (Go.Operand.tmp 147), type := 4, pos := _, after := #[{ on := 0, ground := Go.Ground.data }], guard := none }) (v := ?_) rfl (by kernel_rfl) (by kernel_rfl) (by kernel_rfl) (fun _ _ _ h => h) (Or.inl ⟨by rfl, ?_⟩) (by assumption) ?_
                          rotate_left
                          · intro w hSw; (try dsimp only at hSw); go_simp <;> first | with_reducible rfl | (rw [if_neg (by first | omega | (simp only [ByteArray.size_append] at *; omega))])
                          simp only [Act.put, List.setIfInBounds_toArray, List.set_cons_zero, List.set_cons_succ]
                          refine wpAnyH_take (i := 2) (oi := { dst := some 149, op := Go.Op.move (Go.Operand.tmp 0), type := 22, pos := _, after := #[{ on := 1, ground := Go.Ground.guard }], guard := some (1, true) }) (v := undef) rfl (by kernel_rfl) (by kernel_rfl) (by kernel_rfl) (fun _ _ _ h => h) (Or.inr ⟨by rfl, rfl⟩) (by assumption) ?_
                          simp only [Act.put, List.setIfInBounds_toArray, List.set_cons_zero, List.set_cons_succ]
                          refine wpAnyH_take (i := 3) (oi := { dst := some 150, op := Go.Op.move (Go.Operand.tmp 9), type := 3, pos := _, after := #[{ on := 1, ground := Go.Ground.guard }], guard := some (1, true) }) (v := undef) rfl (by kernel_rfl) (by kernel_rfl) (by kernel_rfl) (fun _ _ _ h => h) (Or.inr ⟨by rfl, rfl⟩) (by assumption) ?_
                          simp only [Act.put, List.setIfInBounds_toArray, List.set_cons_zero, List.set_cons_succ]
                          refine wpAnyH_take (i := 4) (oi := { dst := some 151, op := Go.Op.indexAddr 22 (Go.Operand.tmp 149) (Go.Operand.tmp 150), type := 0, pos := _, after := #[{ on := 2, ground := Go.Ground.data }, { on := 3, ground := Go.Ground.data }, { on := 1, ground := Go.Ground.guard }], guard := some (1, true) }) (v := undef) rfl (by kernel_rfl) (by kernel_rfl) (by kernel_rfl) (fun _ _ _ h => h) (Or.inr ⟨by rfl, rfl⟩) (by assumption) ?_
                          simp only [Act.put, List.setIfInBounds_toArray, List.set_cons_zero, List.set_cons_succ]
                          refine wpAnyH_take (i := 5) (oi := { dst := some 152, op := Go.Op.load 25 (Go.Operand.tmp 151), type := 25, pos := _, after := #[{ on := 4, ground := Go.Ground.data }, { on := 1, ground := Go.Ground.guard }], guard := some (1, true) }) (v := undef) rfl (by kernel_rfl) (by kernel_rfl) (by kernel_rfl) (fun _ _ _ h => h) (Or.inr ⟨by rfl, rfl⟩) (by assumption) ?_
                          simp only [Act.put, List.setIfInBounds_toArray, List.set_cons_zero, List.set_cons_succ]
                          refine wpAnyH_take (i := 6) (oi := { dst := some 153, op := Go.Op.move (Go.Operand.tmp 11), type := 3, pos := _, after := #[{ on := 1, ground := Go.Ground.guard }], guard := some (1, true) }) (v := undef) rfl (by kernel_rfl) (by kernel_rfl) (by kernel_rfl) (fun _ _ _ h => h) (Or.inr ⟨by rfl, rfl⟩) (by assumption) ?_
                          simp only [Act.put, List.setIfInBounds_toArray, List.set_cons_zero, List.set_cons_succ]
                          refine wpAnyH_take (i := 7) (oi := { dst := some 154, op := Go.Op.indexAddr 25 (Go.Operand.tmp 152) (Go.Operand.tmp 153), type := 0, pos := _, after := #[{ on := 5, ground := Go.Ground.data }, { on := 6, ground := Go.Ground.data }, { on := 1, ground := Go.Ground.guard }], guard := some (1, true) }) (v := undef) rfl (by kernel_rfl) (by kernel_rfl) (by kernel_rfl) (fun _ _ _ h => h) (Or.inr ⟨by rfl, rfl⟩) (by assumption) ?_
                          simp only [Act.put, List.setIfInBounds_toArray, List.set_cons_zero, List.set_cons_succ]
                          refine wpAnyH_take (i := 8) (oi := { dst := some 155, op := Go.Op.load 3 (Go.Operand.tmp 154), type := 3, pos := _, after := #[{ on := 7, ground := Go.Ground.data }, { on := 1, ground := Go.Ground.guard }], guard := some (1, true) }) (v := undef) rfl (by kernel_rfl) (by kernel_rfl) (by kernel_rfl) (fun _ _ _ h => h) (Or.inr ⟨by rfl, rfl⟩) (by assumption) ?_
                          simp only [Act.put, List.setIfInBounds_toArray, List.set_cons_zero, List.set_cons_succ]
                          refine wpAnyH_take (i := 9) (oi := { dst := some 156, op := Go.Op.move (Go.Operand.tmp 3), type := 25, pos := _, after := #[{ on := 1, ground := Go.Ground.guard }], guard := some (1, true) }) (v := undef) rfl (by kernel_rfl) (by kernel_rfl) (by kernel_rfl) (fun _ _ _ h => h) (Or.inr ⟨by rfl, rfl⟩) (by assumption) ?_
                          simp only [Act.put, List.setIfInBounds_toArray, List.set_cons_zero, List.set_cons_succ]
                          refine wpAnyH_take (i := 10) (oi := { dst := some 157, op := Go.Op.move (Go.Operand.tmp 8), type := 3, pos := _, after := #[{ on := 1, ground := Go.Ground.guard }], guard := some (1, true) }) (v := undef) rfl (by kernel_rfl) (by kernel_rfl) (by kernel_rfl) (fun _ _ _ h => h) (Or.inr ⟨by rfl, rfl⟩) (by assumption) ?_
                          simp only [Act.put, List.setIfInBounds_toArray, List.set_cons_zero, List.set_cons_succ]
                          refine wpAnyH_take (i := 11) (oi := { dst := some 158, op := Go.Op.binOp Go.BinOp.sub 3 (Go.Operand.tmp 157) (Go.Operand.const (Go.Value.int Go.IntKind.i64 1)) 3, type := 3, pos := _, after := #[{ on := 10, ground := Go.Ground.data }, { on := 1, ground := Go.Ground.guard }], guard := some (1, true) }) (v := undef) rfl (by kernel_rfl) (by kernel_rfl) (by kernel_rfl) (fun _ _ _ h => h) (Or.inr ⟨by rfl, rfl⟩) (by assumption) ?_
                          simp only [Act.put, List.setIfInBounds_toArray, List.set_cons_zero, List.set_cons_succ]
                          refine wpAnyH_take (i := 12) (oi := { dst := some 159, op := Go.Op.indexAddr 25 (Go.Operand.tmp 156) (Go.Operand.tmp 158), type := 0, pos := _, after := #[{ on := 9, ground := Go.Ground.data }, { on := 11, ground := Go.Ground.data }, { on := 1, ground := Go.Ground.guard }], guard := some (1, true) }) (v := undef) rfl (by kernel_rfl) (by kernel_rfl) (by kernel_rfl) (fun _ _ _ h => h) (Or.inr ⟨by rfl, rfl⟩) (by assumption) ?_
                          simp only [Act.put, List.setIfInBounds_toArray, List.set_cons_zero, List.set_cons_succ]
                          refine wpAnyH_take (i := 13) (oi := { dst := some 160, op := Go.Op.load 3 (Go.Operand.tmp 159), type := 3, pos := _, after := #[{ on := 12, ground := Go.Ground.data }, { on := 1, ground := Go.Ground.guard }], guard := some (1, true) }) (v := undef) rfl (by kernel_rfl) (by kernel_rfl) (by kernel_rfl) (fun _ _ _ h => h) (Or.inr ⟨by rfl, rfl⟩) (by assumption) ?_
                          simp only [Act.put, List.setIfInBounds_toArray, List.set_cons_zero, List.set_cons_succ]
                          refine wpAnyH_take (i := 14) (oi := { dst := some 161, op := Go.Op.binOp Go.BinOp.neq 3 (Go.Operand.tmp 155) (Go.Operand.tmp 160) 3, type := 4, pos := _, after := #[{ on := 8, ground := Go.Ground.data }, { on := 13, ground := Go.Ground.data }, { on := 1, ground := Go.Ground.guard }], guard := some (1, true) }) (v := undef) rfl (by kernel_rfl) (by kernel_rfl) (by kernel_rfl) (fun _ _ _ h => h) (Or.inr ⟨by rfl, rfl⟩) (by assumption) ?_
                          simp only [Act.put, List.setIfInBounds_toArray, List.set_cons_zero, List.set_cons_succ]
                          refine wpAnyH_take (i := 15) (oi := { dst := some 162, op := Go.Op.pick (Go.Operand.tmp 148) (Go.Operand.tmp 161) (Go.Operand.const (Go.Value.bool false)), type := 4, pos := _, after := #[{ on := 1, ground := Go.Ground.data }, { on := 14, ground := Go.Ground.data }], guard := none }) (v := ?_) rfl (by kernel_rfl) (by kernel_rfl) (by kernel_rfl) (fun _ _ _ h => h) (Or.inl ⟨by rfl, ?_⟩) (by assumption) ?_
                          rotate_left
                          · intro w hSw; (try dsimp only at hSw); go_simp <;> first | with_reducible rfl | (rw [if_neg (by first | omega | (simp only [ByteArray.size_append] at *; omega))])
                          simp only [Act.put, List.setIfInBounds_toArray, List.set_cons_zero, List.set_cons_succ]
                          refine wpAnyH_take (i := 16) (oi := { dst := some 10, op := Go.Op.assign (Go.Operand.tmp 162), type := 4, pos := _, after := #[{ on := 15, ground := Go.Ground.data }, { on := 1, ground := Go.Ground.chain }, { on := 0, ground := Go.Ground.phase }, { on := 1, ground := Go.Ground.phase }, { on := 2, ground := Go.Ground.phase }, { on := 3, ground := Go.Ground.phase }, { on := 4, ground := Go.Ground.phase }, { on := 5, ground := Go.Ground.phase }, { on := 6, ground := Go.Ground.phase }, { on := 7, ground := Go.Ground.phase }, { on := 8, ground := Go.Ground.phase }, { on := 9, ground := Go.Ground.phase }, { on := 10, ground := Go.Ground.phase }, { on := 11, ground := Go.Ground.phase }, { on := 12, ground := Go.Ground.phase }, { on := 13, ground := Go.Ground.phase }, { on := 14, ground := Go.Ground.phase }, { on := 15, ground := Go.Ground.phase }], guard := none }) (v := ?_) rfl (by kernel_rfl) (by kernel_rfl) (by kernel_rfl) (fun _ _ _ h => h) (Or.inl ⟨by rfl, ?_⟩) (by assumption) ?_
                          rotate_left
                          · intro w hSw; (try dsimp only at hSw); go_simp <;> first | with_reducible rfl | (rw [if_neg (by first | omega | (simp only [ByteArray.size_append] at *; omega))])
                          simp only [Act.put, List.setIfInBounds_toArray, List.set_cons_zero, List.set_cons_succ]
                          refine wpAnyH_done (by kernel_rfl) ?_ _
                          have HBD := hid (HK.out.1.drew 1)
                          go_wp2_with (fail)
                          go_roundw
                          case rel => exact ⟨false, k + 1, by omega, rfl, by go_num, hid ⟨HBD.out, fun e => by cases e⟩⟩
                          case measure => simp [intOf]; omega
                        | true => 
                          have hcp := HK.out.1.cx (show i < x.length by omega)
                          have HKT := hid (HK.out.2 rfl)
                          have HKB := hid HK.out.1
                          have wi : IntKind.i64.wrap (i : Int) = (i : Int) := by rw [IntKind.wrap_i64]; omega
                          have hix : (i : Int) < (x.length : Int) := by omega
                          clear HK
                          go_wp2_with (fail)
                          refine wp_region_held_drew (S := fun V => V.cell? ⟨lb, lo2 + xn, none⟩ = some (.slice (some ⟨rb, ro, none⟩) r.length c2) ∧ V.cell? ⟨rb, ro + k, none⟩ = some (.int .i64 (yn : Int)) ∧ V.cell? ⟨xb, i, none⟩ = some (.int .i64 (ga x i))) (by kernel_rfl) ?_ (fun hHeld => ?_)
                          · exact ⟨hcl, hck, hcp⟩
                          refine wpAnyH_take (i := 0) (oi := { dst := some 147, op := Go.Op.move (Go.Operand.tmp 10), type := 4, pos := _, after := #[], guard := none }) (v := ?_) rfl (by kernel_rfl) (by kernel_rfl) (by kernel_rfl) (fun _ _ _ h => h) (Or.inl ⟨by rfl, ?_⟩) (by assumption) ?_
                          rotate_left
                          · intro w hSw; (try dsimp only at hSw); (try obtain ⟨hS1, hS2, hS3⟩ := hSw); go_simp <;> first | with_reducible rfl | (rw [if_neg (by first | omega | (simp only [ByteArray.size_append] at *; omega))])
                          simp only [Act.put, List.setIfInBounds_toArray, List.set_cons_zero, List.set_cons_succ]
                          refine wpAnyH_take (i := 1) (oi := { dst := some 148, op := Go.Op.move (Go.Operand.tmp 147), type := 4, pos := _, after := #[{ on := 0, ground := Go.Ground.data }], guard := none }) (v := ?_) rfl (by kernel_rfl) (by kernel_rfl) (by kernel_rfl) (fun _ _ _ h => h) (Or.inl ⟨by rfl, ?_⟩) (by assumption) ?_
                          rotate_left
                          · intro w hSw; (try dsimp only at hSw); (try obtain ⟨hS1, hS2, hS3⟩ := hSw); go_simp <;> first | with_reducible rfl | (rw [if_neg (by first | omega | (simp only [ByteArray.size_append] at *; omega))])
                          simp only [Act.put, List.setIfInBounds_toArray, List.set_cons_zero, List.set_cons_succ]
                          refine wpAnyH_take (i := 2) (oi := { dst := some 149, op := Go.Op.move (Go.Operand.tmp 0), type := 22, pos := _, after := #[{ on := 1, ground := Go.Ground.guard }], guard := some (1, true) }) (v := ?_) rfl (by kernel_rfl) (by kernel_rfl) (by kernel_rfl) (fun _ _ _ h => h) (Or.inl ⟨by rfl, ?_⟩) (by assumption) ?_
                          rotate_left
                          · intro w hSw; (try dsimp only at hSw); (try obtain ⟨hS1, hS2, hS3⟩ := hSw); go_simp <;> first | with_reducible rfl | (rw [if_neg (by first | omega | (simp only [ByteArray.size_append] at *; omega))])
                          simp only [Act.put, List.setIfInBounds_toArray, List.set_cons_zero, List.set_cons_succ]
                          refine wpAnyH_take (i := 3) (oi := { dst := some 150, op := Go.Op.move (Go.Operand.tmp 9), type := 3, pos := _, after := #[{ on := 1, ground := Go.Ground.guard }], guard := some (1, true) }) (v := ?_) rfl (by kernel_rfl) (by kernel_rfl) (by kernel_rfl) (fun _ _ _ h => h) (Or.inl ⟨by rfl, ?_⟩) (by assumption) ?_
                          rotate_left
                          · intro w hSw; (try dsimp only at hSw); (try obtain ⟨hS1, hS2, hS3⟩ := hSw); go_simp <;> first | with_reducible rfl | (rw [if_neg (by first | omega | (simp only [ByteArray.size_append] at *; omega))])
                          simp only [Act.put, List.setIfInBounds_toArray, List.set_cons_zero, List.set_cons_succ]
                          refine wpAnyH_take (i := 4) (oi := { dst := some 151, op := Go.Op.indexAddr 22 (Go.Operand.tmp 149) (Go.Operand.tmp 150), type := 0, pos := _, after := #[{ on := 2, ground := Go.Ground.data }, { on := 3, ground := Go.Ground.data }, { on := 1, ground := Go.Ground.guard }], guard := some (1, true) }) (v := ?_) rfl (by kernel_rfl) (by kernel_rfl) (by kernel_rfl) (fun _ _ _ h => h) (Or.inl ⟨by rfl, ?_⟩) (by assumption) ?_
                          rotate_left
                          · intro w hSw; (try dsimp only at hSw); (try obtain ⟨hS1, hS2, hS3⟩ := hSw); go_simp <;> first | with_reducible rfl | (rw [if_neg (by first | omega | (simp only [ByteArray.size_append] at *; omega))])
                          simp only [Act.put, List.setIfInBounds_toArray, List.set_cons_zero, List.set_cons_succ]
                          refine wpAnyH_take (i := 5) (oi := { dst := some 152, op := Go.Op.load 25 (Go.Operand.tmp 151), type := 25, pos := _, after := #[{ on := 4, ground := Go.Ground.data }, { on := 1, ground := Go.Ground.guard }], guard := some (1, true) }) (v := ?_) rfl (by kernel_rfl) (by kernel_rfl) (by kernel_rfl) (fun _ _ _ h => h) (Or.inl ⟨by rfl, ?_⟩) (by assumption) ?_
                          rotate_left
                          · intro w hSw; (try dsimp only at hSw); (try obtain ⟨hS1, hS2, hS3⟩ := hSw); go_simp <;> first | with_reducible rfl | (rw [if_neg (by first | omega | (simp only [ByteArray.size_append] at *; omega))])
                          simp only [Act.put, List.setIfInBounds_toArray, List.set_cons_zero, List.set_cons_succ]
                          refine wpAnyH_take (i := 6) (oi := { dst := some 153, op := Go.Op.move (Go.Operand.tmp 11), type := 3, pos := _, after := #[{ on := 1, ground := Go.Ground.guard }], guard := some (1, true) }) (v := ?_) rfl (by kernel_rfl) (by kernel_rfl) (by kernel_rfl) (fun _ _ _ h => h) (Or.inl ⟨by rfl, ?_⟩) (by assumption) ?_
                          rotate_left
                          · intro w hSw; (try dsimp only at hSw); (try obtain ⟨hS1, hS2, hS3⟩ := hSw); go_simp <;> first | with_reducible rfl | (rw [if_neg (by first | omega | (simp only [ByteArray.size_append] at *; omega))])
                          simp only [Act.put, List.setIfInBounds_toArray, List.set_cons_zero, List.set_cons_succ]
                          refine wpAnyH_take (i := 7) (oi := { dst := some 154, op := Go.Op.indexAddr 25 (Go.Operand.tmp 152) (Go.Operand.tmp 153), type := 0, pos := _, after := #[{ on := 5, ground := Go.Ground.data }, { on := 6, ground := Go.Ground.data }, { on := 1, ground := Go.Ground.guard }], guard := some (1, true) }) (v := ?_) rfl (by kernel_rfl) (by kernel_rfl) (by kernel_rfl) (fun _ _ _ h => h) (Or.inl ⟨by rfl, ?_⟩) (by assumption) ?_
                          rotate_left
                          · intro w hSw; (try dsimp only at hSw); (try obtain ⟨hS1, hS2, hS3⟩ := hSw); go_simp <;> first | with_reducible rfl | (rw [if_neg (by first | omega | (simp only [ByteArray.size_append] at *; omega))])
                          simp only [Act.put, List.setIfInBounds_toArray, List.set_cons_zero, List.set_cons_succ]
                          refine wpAnyH_take (i := 8) (oi := { dst := some 155, op := Go.Op.load 3 (Go.Operand.tmp 154), type := 3, pos := _, after := #[{ on := 7, ground := Go.Ground.data }, { on := 1, ground := Go.Ground.guard }], guard := some (1, true) }) (v := ?_) rfl (by kernel_rfl) (by kernel_rfl) (by kernel_rfl) (fun _ _ _ h => h) (Or.inl ⟨by rfl, ?_⟩) (by assumption) ?_
                          rotate_left
                          · intro w hSw; (try dsimp only at hSw); (try obtain ⟨hS1, hS2, hS3⟩ := hSw); go_simp <;> first | with_reducible rfl | (rw [if_neg (by first | omega | (simp only [ByteArray.size_append] at *; omega))])
                          simp only [Act.put, List.setIfInBounds_toArray, List.set_cons_zero, List.set_cons_succ]
                          refine wpAnyH_take (i := 9) (oi := { dst := some 156, op := Go.Op.move (Go.Operand.tmp 3), type := 25, pos := _, after := #[{ on := 1, ground := Go.Ground.guard }], guard := some (1, true) }) (v := ?_) rfl (by kernel_rfl) (by kernel_rfl) (by kernel_rfl) (fun _ _ _ h => h) (Or.inl ⟨by rfl, ?_⟩) (by assumption) ?_
                          rotate_left
                          · intro w hSw; (try dsimp only at hSw); (try obtain ⟨hS1, hS2, hS3⟩ := hSw); go_simp <;> first | with_reducible rfl | (rw [if_neg (by first | omega | (simp only [ByteArray.size_append] at *; omega))])
                          simp only [Act.put, List.setIfInBounds_toArray, List.set_cons_zero, List.set_cons_succ]
                          refine wpAnyH_take (i := 10) (oi := { dst := some 157, op := Go.Op.move (Go.Operand.tmp 8), type := 3, pos := _, after := #[{ on := 1, ground := Go.Ground.guard }], guard := some (1, true) }) (v := ?_) rfl (by kernel_rfl) (by kernel_rfl) (by kernel_rfl) (fun _ _ _ h => h) (Or.inl ⟨by rfl, ?_⟩) (by assumption) ?_
                          rotate_left
                          · intro w hSw; (try dsimp only at hSw); (try obtain ⟨hS1, hS2, hS3⟩ := hSw); go_simp <;> first | with_reducible rfl | (rw [if_neg (by first | omega | (simp only [ByteArray.size_append] at *; omega))])
                          simp only [Act.put, List.setIfInBounds_toArray, List.set_cons_zero, List.set_cons_succ]
                          refine wpAnyH_take (i := 11) (oi := { dst := some 158, op := Go.Op.binOp Go.BinOp.sub 3 (Go.Operand.tmp 157) (Go.Operand.const (Go.Value.int Go.IntKind.i64 1)) 3, type := 3, pos := _, after := #[{ on := 10, ground := Go.Ground.data }, { on := 1, ground := Go.Ground.guard }], guard := some (1, true) }) (v := ?_) rfl (by kernel_rfl) (by kernel_rfl) (by kernel_rfl) (fun _ _ _ h => h) (Or.inl ⟨by rfl, ?_⟩) (by assumption) ?_
                          rotate_left
                          · intro w hSw; (try dsimp only at hSw); (try obtain ⟨hS1, hS2, hS3⟩ := hSw); go_simp <;> first | with_reducible rfl | (rw [if_neg (by first | omega | (simp only [ByteArray.size_append] at *; omega))])
                          simp only [Act.put, List.setIfInBounds_toArray, List.set_cons_zero, List.set_cons_succ]
                          refine wpAnyH_take (i := 12) (oi := { dst := some 159, op := Go.Op.indexAddr 25 (Go.Operand.tmp 156) (Go.Operand.tmp 158), type := 0, pos := _, after := #[{ on := 9, ground := Go.Ground.data }, { on := 11, ground := Go.Ground.data }, { on := 1, ground := Go.Ground.guard }], guard := some (1, true) }) (v := ?_) rfl (by kernel_rfl) (by kernel_rfl) (by kernel_rfl) (fun _ _ _ h => h) (Or.inl ⟨by rfl, ?_⟩) (by assumption) ?_
                          rotate_left
                          · intro w hSw; (try dsimp only at hSw); (try obtain ⟨hS1, hS2, hS3⟩ := hSw); go_simp <;> first | with_reducible rfl | (rw [if_neg (by first | omega | (simp only [ByteArray.size_append] at *; omega))])
                          simp only [Act.put, List.setIfInBounds_toArray, List.set_cons_zero, List.set_cons_succ]
                          refine wpAnyH_take (i := 13) (oi := { dst := some 160, op := Go.Op.load 3 (Go.Operand.tmp 159), type := 3, pos := _, after := #[{ on := 12, ground := Go.Ground.data }, { on := 1, ground := Go.Ground.guard }], guard := some (1, true) }) (v := ?_) rfl (by kernel_rfl) (by kernel_rfl) (by kernel_rfl) (fun _ _ _ h => h) (Or.inl ⟨by rfl, ?_⟩) (by assumption) ?_
                          rotate_left
                          · intro w hSw; (try dsimp only at hSw); (try obtain ⟨hS1, hS2, hS3⟩ := hSw); go_simp <;> first | with_reducible rfl | (rw [if_neg (by first | omega | (simp only [ByteArray.size_append] at *; omega))])
                          simp only [Act.put, List.setIfInBounds_toArray, List.set_cons_zero, List.set_cons_succ]
                          refine wpAnyH_take (i := 14) (oi := { dst := some 161, op := Go.Op.binOp Go.BinOp.neq 3 (Go.Operand.tmp 155) (Go.Operand.tmp 160) 3, type := 4, pos := _, after := #[{ on := 8, ground := Go.Ground.data }, { on := 13, ground := Go.Ground.data }, { on := 1, ground := Go.Ground.guard }], guard := some (1, true) }) (v := ?_) rfl (by kernel_rfl) (by kernel_rfl) (by kernel_rfl) (fun _ _ _ h => h) (Or.inl ⟨by rfl, ?_⟩) (by assumption) ?_
                          rotate_left
                          · intro w hSw; (try dsimp only at hSw); (try obtain ⟨hS1, hS2, hS3⟩ := hSw); go_simp <;> first | with_reducible rfl | (rw [if_neg (by first | omega | (simp only [ByteArray.size_append] at *; omega))])
                          simp only [Act.put, List.setIfInBounds_toArray, List.set_cons_zero, List.set_cons_succ]
                          refine wpAnyH_take (i := 15) (oi := { dst := some 162, op := Go.Op.pick (Go.Operand.tmp 148) (Go.Operand.tmp 161) (Go.Operand.const (Go.Value.bool false)), type := 4, pos := _, after := #[{ on := 1, ground := Go.Ground.data }, { on := 14, ground := Go.Ground.data }], guard := none }) (v := ?_) rfl (by kernel_rfl) (by kernel_rfl) (by kernel_rfl) (fun _ _ _ h => h) (Or.inl ⟨by rfl, ?_⟩) (by assumption) ?_
                          rotate_left
                          · intro w hSw; (try dsimp only at hSw); (try obtain ⟨hS1, hS2, hS3⟩ := hSw); go_simp <;> first | with_reducible rfl | (rw [if_neg (by first | omega | (simp only [ByteArray.size_append] at *; omega))])
                          simp only [Act.put, List.setIfInBounds_toArray, List.set_cons_zero, List.set_cons_succ]
                          refine wpAnyH_take (i := 16) (oi := { dst := some 10, op := Go.Op.assign (Go.Operand.tmp 162), type := 4, pos := _, after := #[{ on := 15, ground := Go.Ground.data }, { on := 1, ground := Go.Ground.chain }, { on := 0, ground := Go.Ground.phase }, { on := 1, ground := Go.Ground.phase }, { on := 2, ground := Go.Ground.phase }, { on := 3, ground := Go.Ground.phase }, { on := 4, ground := Go.Ground.phase }, { on := 5, ground := Go.Ground.phase }, { on := 6, ground := Go.Ground.phase }, { on := 7, ground := Go.Ground.phase }, { on := 8, ground := Go.Ground.phase }, { on := 9, ground := Go.Ground.phase }, { on := 10, ground := Go.Ground.phase }, { on := 11, ground := Go.Ground.phase }, { on := 12, ground := Go.Ground.phase }, { on := 13, ground := Go.Ground.phase }, { on := 14, ground := Go.Ground.phase }, { on := 15, ground := Go.Ground.phase }], guard := none }) (v := ?_) rfl (by kernel_rfl) (by kernel_rfl) (by kernel_rfl) (fun _ _ _ h => h) (Or.inl ⟨by rfl, ?_⟩) (by assumption) ?_
                          rotate_left
                          · intro w hSw; (try dsimp only at hSw); (try obtain ⟨hS1, hS2, hS3⟩ := hSw); go_simp <;> first | with_reducible rfl | (rw [if_neg (by first | omega | (simp only [ByteArray.size_append] at *; omega))])
                          simp only [Act.put, List.setIfInBounds_toArray, List.set_cons_zero, List.set_cons_succ]
                          refine wpAnyH_done (by kernel_rfl) ?_ _
                          have HBD := hid (HKB.out.drew 1)
                          go_wp2_with (fail)
                          go_roundw
                          case rel =>
                            refine ⟨_, k + 1, by omega, rfl, by go_num, hid ⟨HBD.out, fun h => ⟨HKT.out.1, fun j hj => ?_⟩⟩⟩
                            by_cases e : j = k
                            · rw [e, HYN.out]
                              simpa using h
                            · exact HKT.out.2 j (by omega)
                          case measure => simp [intOf]; omega
                      · have hkl' : ¬ (k : Int) < (r.length : Int) := by omega
                        obtain rfl : k = r.length := by omega
                        obtain rfl : fr = false := by
                          cases fr with
                          | false => rfl
                          | true =>
                            exfalso
                            obtain ⟨h1, h2⟩ := HK.out.2 rfl
                            have h3 := HWT.out h1
                            rw [HXN.out, HRO.out] at h3
                            obtain ⟨j, hj, e⟩ := List.getElem_of_mem h3
                            exact h2 j hj (by rw [ga_lt hj]; exact e)
                        go_wp2_with (fail)
                        go_roundw
                        case rel => exact ⟨i + 1 + 1, by omega, by go_num, hid HK.out.1⟩
                        case measure => simp [intOf]; omega
                · have hlt' : ¬ (i : Int) < (x.length : Int) := by omega
                  obtain rfl : i = x.length := by omega
                  go_wp2_with (fail)
                  go_ret
                  exact ⟨rfl, HI.out.below⟩
    · have e0 : ((ofV l).2 != 0) = true := by rw [bne_iff_ne]; exact he
      clear R3 hvl
      rw [ofV_bad he]
      clear he
      generalize (ofV l).2 = er at *
      simp only [List.length_nil]
      go_wp2_with (fail)
      go_ret
      exact ⟨rfl, B3.out⟩
end Go.Proofs.Ytdhjedpgdhageaa.Ord
