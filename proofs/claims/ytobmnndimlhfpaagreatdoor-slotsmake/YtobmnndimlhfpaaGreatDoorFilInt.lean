/-
  fillInt: every list of this kind is filled with its marks.
-/
import Derived.Test.YtobmnndimlhfpaaGreatDoorBk1
namespace Go.Proofs.YtobmnndimlhfpaaGreatDoor.Slo
set_option linter.unusedVariables false
open Go.ChangeShapes Go.WideShapes Go.ChangeAt Go.RowKit Go.Joins
/-- The mark's cells. -/
abbrev mkInt (n : Nat) : List Value := [.int .i64 (-1000 - (n : Int))]
/-- This kind in the book. -/
abbrev IntAt (w : World) (vb : Value) (E : List En) (f g : Nat) : Prop := KAt w 84 3 1 mkInt vb E f g
theorem mark_Int (n : Nat) (w : World) (hn : n < 1000000) : Calls Tryz.prog 90 #[.int .i64 (n : Int)] w fun e w' => e = .returned (.int .i64 (-1000 - (n : Int))) ∧ Below w.heap.size w w' := by
  have hw : IntKind.i64.wrap (-1000 - (n : Int)) = -1000 - (n : Int) := by rw [IntKind.wrap_i64]; omega
  go_enter Tryz.func90, Tryz.ntmps90
  go_wp2
  go_ret
  exact ⟨rfl, Below.refl _ _⟩
set_option maxRecDepth 100000 in
set_option maxHeartbeats 4000000 in
theorem fill_Int (w : World) (bk : Nat) (C : Array Value) (vb : Value) (E : List En) (hbk : w.heap[bk]? = some (.cells C 59 (0, 0))) (hC : C[2]? = some vb) (hK : IntAt w vb E 0 0) (hn : E.length < 1000) (hm : ∀ (i : Nat) (a : En), E[i]? = some a → a.m < 100000 ∧ a.k < 1000) :
    Calls Tryz.prog 37 #[.pointer (some ⟨bk, 0, none⟩)] w fun e w' => (∃ x, e = .returned x) ∧ IntAt w' vb E E.length 0 ∧ Mv w w' (KB E) := by
  have hbn : ¬ KB E bk := fun ⟨j, a, ha, hb⟩ => by
    obtain ⟨xs, hx⟩ := hK.own j a ha
    obtain ⟨c2, h2⟩ := own_type hx hb
    rw [hbk] at h2
    injection h2 with h2
    injection h2 with _ h2 _
    exact absurd h2 (by decide)
  obtain ⟨ao, cb, hvb⟩ := own_form hK.row
  subst hvb
  have HBK := hid hbk
  have HM := hid hm
  have HCC := hid hC
  have HK0 := hid hK
  clear hbk hm hC hK
  go_enter Tryz.func37, Tryz.ntmps37
  go_wp2
  go_loopw [2] (fun s2 wr => ∃ j : Nat, j ≤ E.length ∧ s2 = .int .i64 (j : Int) ∧ Hid (IntAt wr (.slice ao E.length cb) E j 0) ∧ Hid (Mv w wr (KB E))) (fun s2 _ => E.length - (intOf s2).toNat)
  case atStart => exact ⟨0, Nat.zero_le _, rfl, HK0, hid (Mv.refl _ _)⟩
  case round =>
    obtain ⟨j, hj, rfl, HK, HV⟩ := hrel
    have hc1 : wr.cell? ⟨bk, 2, none⟩ = some (.slice ao E.length cb) := (cell_of_row _ _ _ _ 59 (0, 0) (HV.out.cellsRow HBK.out hbn)).trans HCC.out
    by_cases hlt : j < E.length
    · obtain ⟨a, ha⟩ : ∃ a, E[j]? = some a := ⟨E[j], List.getElem?_eq_getElem hlt⟩
      obtain ⟨gb, hao⟩ : ∃ gb, ao = some ⟨gb, 0, none⟩ := by
        rcases HK.out.row.2 with ⟨h1, h2⟩ | ⟨g, c2, cur, h1, _⟩
        · omega
        · injection h1 with h1 _ _; exact ⟨g, h1⟩
      subst hao
      obtain ⟨e0, e1, e2⟩ := held_cells HK.out.row ha
      have hlt' : (j : Int) < (E.length : Int) := by omega
      have hj0 : (0 : Int) ≤ (j : Int) := by omega
      obtain ⟨xs0, hx0⟩ := HK.out.own j a ha
      obtain ⟨va, vc, hva⟩ := own_form hx0
      have hma := HM.out j a ha
      have Hlt : Hid (∀ b, a.v.ownBlock = some b → b < wr.heap.size) := hid (fun b hb => (own_lo hx0 b hb).2)
      obtain ⟨xb, xl, xc, hxx⟩ := HK.out.sl j a ha
      rw [hva] at e0
      rw [hxx] at e1
      have HA := hid ha
      have HVA := hid hva
      have HX0 := hid hx0
      clear ha hva hx0 hxx
      go_wp2
      have HK1 : Hid (IntAt (wr.alloc (.cells #[.slice va a.m vc, .slice xb xl xc, .int .i64 (a.k : Int)] 84)) (.slice (some ⟨gb, 0, none⟩) E.length cb) E j 0) := hid (HK.out.below (balloc _ _))
      have HV1 : Hid (Mv w (wr.alloc (.cells #[.slice va a.m vc, .slice xb xl xc, .int .i64 (a.k : Int)] 84)) (KB E)) := hid (HV.out.trans (Mv.ofBelow (S := fun _ => False) (balloc _ _)) (fun i hi => hi.elim))
      have HR1 : Hid ((wr.alloc (.cells #[.slice va a.m vc, .slice xb xl xc, .int .i64 (a.k : Int)] 84)).heap[wr.heap.size]? = some (.cells #[.slice va a.m vc, .slice xb xl xc, .int .i64 (a.k : Int)] 84 (0, 0))) := hid (push_new _ _ _ rfl)
      have HP1 : Hid (Part (wr.alloc (.cells #[.slice va a.m vc, .slice xb xl xc, .int .i64 (a.k : Int)] 84)) 3 1 a.v a.m (mkInt a.k) 0) := hid ((Part.start (mkInt a.k) HX0.out).carry (fun b hb => Below.heap_alloc _ _ _ (Hlt.out b hb)))
      generalize (wr.alloc (.cells #[.slice va a.m vc, .slice xb xl xc, .int .i64 (a.k : Int)] 84)) = W1 at *
      clear hc1 e0 e1 e2 HX0 HK HV
      generalize wr.heap.size = H at *
      rw [HVA.out] at HP1
      go_loopw [4] (fun s4 w2 => ∃ q : Nat, q ≤ a.m ∧ s4 = .int .i64 (q : Int) ∧ Hid (Part w2 3 1 (.slice va a.m vc) a.m (mkInt a.k) q) ∧ Hid (W1.grownBy w2 a.v.ownBlock)) (fun s4 _ => a.m - (intOf s4).toNat)
      case atStart => exact ⟨0, Nat.zero_le _, rfl, HP1, hid ⟨rfl, rfl, rfl, Nat.le_refl _, fun _ _ _ => rfl⟩⟩
      case round =>
        clear HP1
        obtain ⟨q, hq, rfl, HP, HG⟩ := hrel
        by_cases hqm : q < a.m
        · have hqm' : (q : Int) < (a.m : Int) := by omega
          have hq0 : (0 : Int) ≤ (q : Int) := by omega
          obtain ⟨g, cap, hf⟩ := HP.out.form.resolve_left (by rintro ⟨_, h2⟩; omega)
          injection hf with hf1 hf2 hf3
          subst hf1 hf3
          clear hf2
          have hgo : a.v.ownBlock = some g := by rw [HVA.out]; rfl
          have hgH : g < H := Hlt.out g hgo
          have hHg : H ≠ g := by omega
          rw [hgo] at HG
          have hHlt : H < W1.heap.size := (Array.getElem?_eq_some_iff.1 HR1.out).1
          have hrow := (HG.out.block H hHlt (fun e => hHg (by injection e))).trans HR1.out
          have d0 : wr.cell? ⟨H, 0, none⟩ = some (.slice (some ⟨g, 0, none⟩) a.m vc) := (cell_of_row _ _ _ _ 84 (0, 0) hrow).trans rfl
          have d2 : wr.cell? ⟨H, 2, none⟩ = some (.int .i64 (a.k : Int)) := (cell_of_row _ _ _ _ 84 (0, 0) hrow).trans rfl
          have hHl2 : H < wr.heap.size := (Array.getElem?_eq_some_iff.1 hrow).1
          have hlt2 : ∀ b, (Value.slice (some ⟨g, 0, none⟩) a.m vc).ownBlock = some b → b < wr.heap.size := fun b hb => by
            have : g = b := Option.some.inj hb
            have := HG.out.size
            omega
          clear hrow hgo
          go_wp2
          refine wp_region_held_drew (S := fun V => V.cell? ⟨H, 0, none⟩ = some (.slice (some ⟨g, 0, none⟩) a.m vc) ∧ V.cell? ⟨H, 2, none⟩ = some (.int .i64 (a.k : Int))) (by kernel_rfl) ?_ (fun hHeld => ?_)
          · exact ⟨d0, d2⟩
          refine wpAnyH_take (i := 0) (oi := { dst := some 28, op := Go.Op.fieldAddr 84 (Go.Operand.tmp 3) 0, type := 0, pos := _, after := #[], guard := none }) (v := ?_) rfl (by kernel_rfl) (by kernel_rfl) (by kernel_rfl) (fun _ _ _ h => h) (Or.inl ⟨by rfl, ?_⟩) (by assumption) ?_
          rotate_left
          · intro w hSw; (try dsimp only at hSw); go_simp <;> first | with_reducible rfl | (rw [if_neg (by first | omega | (simp only [ByteArray.size_append] at *; omega))])
          simp only [Act.put, List.setIfInBounds_toArray, List.set_cons_zero, List.set_cons_succ]
          refine wpAnyH_take (i := 1) (oi := { dst := some 29, op := Go.Op.load 24 (Go.Operand.tmp 28), type := 24, pos := _, after := #[{ on := 0, ground := Go.Ground.data }], guard := none }) (v := ?_) rfl (by kernel_rfl) (by kernel_rfl) (by kernel_rfl) (fun _ _ _ h => h) (Or.inl ⟨by rfl, ?_⟩) (by assumption) ?_
          rotate_left
          · intro w hSw; (try dsimp only at hSw); go_simp <;> first | with_reducible rfl | (rw [if_neg (by first | omega | (simp only [ByteArray.size_append] at *; omega))])
          simp only [Act.put, List.setIfInBounds_toArray, List.set_cons_zero, List.set_cons_succ]
          refine wpAnyH_take (i := 2) (oi := { dst := some 30, op := Go.Op.move (Go.Operand.tmp 4), type := 3, pos := _, after := #[], guard := none }) (v := ?_) rfl (by kernel_rfl) (by kernel_rfl) (by kernel_rfl) (fun _ _ _ h => h) (Or.inl ⟨by rfl, ?_⟩) (by assumption) ?_
          rotate_left
          · intro w hSw; (try dsimp only at hSw); go_simp <;> first | with_reducible rfl | (rw [if_neg (by first | omega | (simp only [ByteArray.size_append] at *; omega))])
          simp only [Act.put, List.setIfInBounds_toArray, List.set_cons_zero, List.set_cons_succ]
          refine wpAnyH_take (i := 3) (oi := { dst := some 31, op := Go.Op.fieldAddr 84 (Go.Operand.tmp 3) 2, type := 0, pos := _, after := #[], guard := none }) (v := ?_) rfl (by kernel_rfl) (by kernel_rfl) (by kernel_rfl) (fun _ _ _ h => h) (Or.inl ⟨by rfl, ?_⟩) (by assumption) ?_
          rotate_left
          · intro w hSw; (try dsimp only at hSw); go_simp <;> first | with_reducible rfl | (rw [if_neg (by first | omega | (simp only [ByteArray.size_append] at *; omega))])
          simp only [Act.put, List.setIfInBounds_toArray, List.set_cons_zero, List.set_cons_succ]
          refine wpAnyH_take (i := 4) (oi := { dst := some 32, op := Go.Op.load 3 (Go.Operand.tmp 31), type := 3, pos := _, after := #[{ on := 3, ground := Go.Ground.data }], guard := none }) (v := ?_) rfl (by kernel_rfl) (by kernel_rfl) (by kernel_rfl) (fun _ _ _ h => h) (Or.inl ⟨by rfl, ?_⟩) (by assumption) ?_
          rotate_left
          · intro w hSw; (try dsimp only at hSw); go_simp <;> first | with_reducible rfl | (rw [if_neg (by first | omega | (simp only [ByteArray.size_append] at *; omega))])
          simp only [Act.put, List.setIfInBounds_toArray, List.set_cons_zero, List.set_cons_succ]
          refine wpAnyH_ready (rs := [5]) (by kernel_rfl) (by simp) ?_
          refine AllReadyH.cons (o := { dst := some 33, op := Go.Op.call { callee := Go.Callee.value (Go.Operand.func 90), args := #[Go.Operand.tmp 32], argTypes := #[3] }, type := 3, pos := _, after := #[{ on := 4, ground := Go.Ground.data }], guard := none }) rfl (fun K hK => ?_) AllReadyH.nil
          go_simp
          refine (mark_Int a.k _ (by omega)).mono ?_
          rintro e w5 ⟨rfl, hb5a⟩
          have hb5 : Below wr.heap.size wr w5 := (Below.refl _ _).drew.trans hb5a
          have HP5 := hid (HP.out.carry (w' := w5) (fun b hb => hb5.block b (hlt2 b hb)))
          have HG5 : Hid (W1.grownBy w5 (some g)) := hid (grown_below HG.out hb5)
          have c0 := (hb5.cell (p := ⟨H, 0, none⟩) hHl2).trans d0
          have c2 := (hb5.cell (p := ⟨H, 2, none⟩) hHl2).trans d2
          obtain ⟨⟨u0, hu0⟩, hf0⟩ := (HP5.out.cell (show q < a.m * 1 by omega))
          have HP6 := hid (HP5.out.put (o := q) rfl hqm (by omega))
          have HG6 : Hid (W1.grownBy (w5.setCells g (q) (mkInt a.k)) (some g)) := hid (grown_grown HG5.out (puts_grown g _ _ _))
          have HS0 : Hid ((w5.setCells g (q) (mkInt a.k)).cell? ⟨H, 0, none⟩ = some (.slice (some ⟨g, 0, none⟩) a.m vc)) := hid ((World.cell?_setCells_out g _ _ _ _ (fun e2 => absurd e2 hHg)).trans c0)
          have HS2 : Hid ((w5.setCells g (q) (mkInt a.k)).cell? ⟨H, 2, none⟩ = some (.int .i64 (a.k : Int))) := hid ((World.cell?_setCells_out g _ _ _ _ (fun e2 => absurd e2 hHg)).trans c2)
          clear hb5 hb5a d0 d2
          go_wp2_with fail
          refine hK.out _ _ ?_ (fun hHeld1 => ?_)
          · exact ⟨c0, c2⟩
          clear hK K
          refine wpAnyH_take (i := 6) (oi := { dst := some 34, op := Go.Op.indexAddr 24 (Go.Operand.tmp 29) (Go.Operand.tmp 30), type := 0, pos := _, after := #[{ on := 1, ground := Go.Ground.data }, { on := 2, ground := Go.Ground.data }, { on := 0, ground := Go.Ground.phase }, { on := 1, ground := Go.Ground.phase }, { on := 2, ground := Go.Ground.phase }, { on := 3, ground := Go.Ground.phase }, { on := 4, ground := Go.Ground.phase }, { on := 5, ground := Go.Ground.phase }], guard := none }) (v := ?_) rfl (by kernel_rfl) (by kernel_rfl) (by kernel_rfl) (fun _ _ _ h => h) (Or.inl ⟨by rfl, ?_⟩) (by assumption) ?_
          rotate_left
          · intro w hSw; (try dsimp only at hSw); go_simp <;> first | with_reducible rfl | (rw [if_neg (by first | omega | (simp only [ByteArray.size_append] at *; omega))])
          simp only [Act.put, List.setIfInBounds_toArray, List.set_cons_zero, List.set_cons_succ]
          refine wpAnyH_ready (rs := [7]) (by kernel_rfl) (by simp) ?_
          refine AllReadyH.cons (o := { dst := none, op := Go.Op.store 3 (Go.Operand.tmp 34) (Go.Operand.tmp 33), type := 0, pos := _, after := #[{ on := 6, ground := Go.Ground.data }, { on := 5, ground := Go.Ground.data }, { on := 5, ground := Go.Ground.chain }, { on := 0, ground := Go.Ground.phase }, { on := 1, ground := Go.Ground.phase }, { on := 2, ground := Go.Ground.phase }, { on := 3, ground := Go.Ground.phase }, { on := 4, ground := Go.Ground.phase }, { on := 5, ground := Go.Ground.phase }], guard := none }) rfl (fun K hK => ?_) AllReadyH.nil
          go_simp
          go_wp2_with fail
          refine hK.out _ _ ?_ (fun hHeld2 => ?_)
          · exact ⟨HS0.out, HS2.out⟩
          clear hK K
          refine wpAnyH_done (by kernel_rfl) ?_ _
          go_wp2
          go_roundw
          case rel => exact ⟨q + 1, by omega, by go_num, HP6, by rw [HVA.out]; exact HG6⟩
          case measure => simp [intOf]; omega
        · have hqm' : ¬ (q : Int) < (a.m : Int) := by omega
          obtain rfl : q = a.m := by omega
          have HK2 : Hid (IntAt wr (.slice (some ⟨gb, 0, none⟩) E.length cb) E (j + 1) 0) := hid (HK1.out.filled (by decide) HA.out HG.out (by rw [HVA.out]; exact HP.out.full rfl (by decide)))
          have HV2 : Hid (Mv w wr (KB E)) := hid (HV1.out.trans (Mv.grown (S := KB E) HG.out (fun i hi => .inl ⟨j, a, HA.out, hi⟩)) (fun i hi => .inl hi))
          have HD : Hid (∃ g0, True) := hid ⟨0, trivial⟩
          obtain ⟨d0, d2⟩ : wr.cell? ⟨H, 0, none⟩ = some (.slice va a.m vc) ∧ wr.cell? ⟨H, 2, none⟩ = some (.int .i64 (a.k : Int)) := by
            have hHlt : H < W1.heap.size := (Array.getElem?_eq_some_iff.1 HR1.out).1
            have hrow := (HG.out.block H hHlt (fun e => by have := Hlt.out H e.symm; omega)).trans HR1.out
            exact ⟨(cell_of_row _ _ _ _ 84 (0, 0) hrow).trans rfl, (cell_of_row _ _ _ _ 84 (0, 0) hrow).trans rfl⟩
          go_wp2
          go_roundw
          case rel => exact ⟨j + 1, by omega, by go_num, HK2, HV2⟩
          case measure => simp [intOf]; omega
    · have hlt' : ¬ (j : Int) < (E.length : Int) := by omega
      obtain rfl : j = E.length := by omega
      go_wp2
      go_end0
      exact ⟨⟨_, rfl⟩, HK.out, HV.out⟩
end Go.Proofs.YtobmnndimlhfpaaGreatDoor.Slo
