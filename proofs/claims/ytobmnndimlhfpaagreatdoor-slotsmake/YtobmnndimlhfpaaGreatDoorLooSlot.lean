/-
  lookSlot: every list of this kind, and its longer copy, has its marks all over.
-/
import Derived.Test.YtobmnndimlhfpaaGreatDoorBk2
import Derived.Test.YtobmnndimlhfpaaGreatDoorFilSlot
namespace Go.Proofs.YtobmnndimlhfpaaGreatDoor.Slo
set_option linter.unusedVariables false
open Go.ChangeShapes Go.WideShapes Go.ChangeAt Go.RowKit Go.Joins
theorem is_Slot (n : Nat) (w : World) (hn : n < 1000000) : Calls Tryz.prog 117 #[.agg #[.int .i64 (-1000 - (n : Int)), .int .i64 0, .int .i64 0], .int .i64 (n : Int)] w fun e w' => e = .returned (.bool true) ∧ Below w.heap.size w w' := by
  have hw : IntKind.i64.wrap (-1000 - (n : Int)) = -1000 - (n : Int) := by rw [IntKind.wrap_i64]; omega
  go_enter Tryz.func117, Tryz.ntmps117
  go_wp2
  go_ret
  exact ⟨by simp, balloc _ _⟩
set_option maxRecDepth 100000 in
set_option maxHeartbeats 4000000 in
theorem look_Slot (w : World) (bk : Nat) (C : Array Value) (vb : Value) (E : List En) (hbk : w.heap[bk]? = some (.cells C 59 (0, 0))) (hC : C[12]? = some vb) (hK : SlotAt w vb E E.length E.length) (hn : E.length < 1000) (hm : ∀ (i : Nat) (a : En), E[i]? = some a → a.m < 100000 ∧ a.k < 1000) :
    Calls Tryz.prog 81 #[.pointer (some ⟨bk, 0, none⟩)] w fun e w' => e = .returned (.bool true) ∧ Below w.heap.size w w' := by
  obtain ⟨ao, cb, hvb⟩ := own_form hK.row
  subst hvb
  have HBK := hid hbk
  have HM := hid hm
  have HCC := hid hC
  have HK0 := hid hK
  clear hbk hm hC hK
  go_enter Tryz.func81, Tryz.ntmps81
  go_wp2
  go_loopw [3] (fun s3 wr => ∃ j : Nat, j ≤ E.length ∧ s3 = .int .i64 (j : Int) ∧ Hid (Below w.heap.size w wr)) (fun s3 _ => E.length - (intOf s3).toNat)
  case atStart => exact ⟨0, Nat.zero_le _, rfl, hid (Below.refl _ _)⟩
  case round =>
    obtain ⟨j, hj, rfl, HW⟩ := hrel
    have hc1 : wr.cell? ⟨bk, 12, none⟩ = some (.slice ao E.length cb) := (cell_of_row _ _ _ _ 59 (0, 0) (keep_row HBK.out HW.out)).trans HCC.out
    by_cases hlt : j < E.length
    · have HK : Hid (SlotAt wr (.slice ao E.length cb) E E.length E.length) := hid (HK0.out.below HW.out)
      obtain ⟨a, ha⟩ : ∃ a, E[j]? = some a := ⟨E[j], List.getElem?_eq_getElem hlt⟩
      obtain ⟨gb, hao⟩ : ∃ gb, ao = some ⟨gb, 0, none⟩ := by
        rcases HK.out.row.2 with ⟨h1, h2⟩ | ⟨g, c2, cur, h1, _⟩
        · omega
        · injection h1 with h1 _ _; exact ⟨g, h1⟩
      subst hao
      obtain ⟨e0, e1, e2⟩ := held_cells HK.out.row ha
      have hlt' : (j : Int) < (E.length : Int) := by omega
      have hj0 : (0 : Int) ≤ (j : Int) := by omega
      have hv0 := HK.out.fill j a ha hlt
      have hx0 := HK.out.long j a ha hlt
      obtain ⟨va, vc, hva⟩ := own_form hv0
      obtain ⟨gx, xc, hxa⟩ : ∃ gx xc, a.x = .slice (some ⟨gx, 0, none⟩) (a.m + 40) xc := by
        rcases hx0.2 with ⟨_, h2⟩ | ⟨g, c2, cur, h1, _⟩
        · omega
        · exact ⟨g, c2, h1⟩
      have hma := HM.out j a ha
      rw [hva] at e0 hv0
      rw [hxa] at e1 hx0
      have HV := hid hv0
      have HX := hid hx0
      have hne : (((a.m + 40 : Nat) : Int) != (a.m : Int) + 40) = false := by simp
      clear ha hva hxa hv0 hx0 HK
      go_wp2
      have hb1 := balloc wr (.cells #[.slice va a.m vc, .slice (some ⟨gx, 0, none⟩) (a.m + 40) xc, .int .i64 (a.k : Int)] 141)
      have HW1 : Hid (Below w.heap.size w (wr.alloc (.cells #[.slice va a.m vc, .slice (some ⟨gx, 0, none⟩) (a.m + 40) xc, .int .i64 (a.k : Int)] 141))) := hid (HW.out.trans (hb1.mono HW.out.size))
      have HV1 : Hid ((wr.alloc (.cells #[.slice va a.m vc, .slice (some ⟨gx, 0, none⟩) (a.m + 40) xc, .int .i64 (a.k : Int)] 141)).ownsRow 0 64 3 (.slice va a.m vc) a.m (rep a.m (mkSlot a.k))) := hid (own_carry HV.out (fun b hb => hb1.block b (own_lo HV.out b hb).2))
      have HX1 : Hid ((wr.alloc (.cells #[.slice va a.m vc, .slice (some ⟨gx, 0, none⟩) (a.m + 40) xc, .int .i64 (a.k : Int)] 141)).ownsRow 0 64 3 (.slice (some ⟨gx, 0, none⟩) (a.m + 40) xc) (a.m + 40) (rep (a.m + 40) (mkSlot a.k))) := hid (own_carry HX.out (fun b hb => hb1.block b (own_lo HX.out b hb).2))
      have hrow : (wr.alloc (.cells #[.slice va a.m vc, .slice (some ⟨gx, 0, none⟩) (a.m + 40) xc, .int .i64 (a.k : Int)] 141)).heap[wr.heap.size]? = some (.cells #[.slice va a.m vc, .slice (some ⟨gx, 0, none⟩) (a.m + 40) xc, .int .i64 (a.k : Int)] 141 (0, 0)) := push_new _ _ _ rfl
      have HR0 : Hid ((wr.alloc (.cells #[.slice va a.m vc, .slice (some ⟨gx, 0, none⟩) (a.m + 40) xc, .int .i64 (a.k : Int)] 141)).cell? ⟨wr.heap.size, 0, none⟩ = some (.slice va a.m vc)) := hid ((cell_of_row _ _ _ _ 141 (0, 0) hrow).trans rfl)
      have HR1 : Hid ((wr.alloc (.cells #[.slice va a.m vc, .slice (some ⟨gx, 0, none⟩) (a.m + 40) xc, .int .i64 (a.k : Int)] 141)).cell? ⟨wr.heap.size, 1, none⟩ = some (.slice (some ⟨gx, 0, none⟩) (a.m + 40) xc)) := hid ((cell_of_row _ _ _ _ 141 (0, 0) hrow).trans rfl)
      have HR2 : Hid ((wr.alloc (.cells #[.slice va a.m vc, .slice (some ⟨gx, 0, none⟩) (a.m + 40) xc, .int .i64 (a.k : Int)] 141)).cell? ⟨wr.heap.size, 2, none⟩ = some (.int .i64 (a.k : Int))) := hid ((cell_of_row _ _ _ _ 141 (0, 0) hrow).trans rfl)
      clear hb1 hrow hc1 e0 e1 e2 HV HX HW
      generalize (wr.alloc (.cells #[.slice va a.m vc, .slice (some ⟨gx, 0, none⟩) (a.m + 40) xc, .int .i64 (a.k : Int)] 141)) = W1 at *
      generalize wr.heap.size = H at *
      go_loopw [5] (fun s5 w2 => ∃ q : Nat, q ≤ a.m + 40 ∧ s5 = .int .i64 (q : Int) ∧ Hid (Below W1.heap.size W1 w2)) (fun s5 _ => a.m + 40 - (intOf s5).toNat)
      case atStart => exact ⟨0, Nat.zero_le _, rfl, hid (Below.refl _ _)⟩
      case round =>
        obtain ⟨q, hq, rfl, HB⟩ := hrel
        have hq0 : (0 : Int) ≤ (q : Int) := by omega
        have hl1 : wr.cell? ⟨H, 1, none⟩ = some (.slice (some ⟨gx, 0, none⟩) (a.m + 40) xc) := cell_bel HB.out HR1.out
        by_cases hqM : q < a.m + 40
        · have hqM' : (q : Int) < ((a.m + 40 : Nat) : Int) := by omega
          by_cases hqm : q < a.m
          · have hqm' : decide ((q : Int) < (a.m : Int)) = true := decide_eq_true (by omega)
            have hqm2 : (q : Int) < (a.m : Int) := by omega
            obtain ⟨gv, hgv⟩ : ∃ gv, va = some ⟨gv, 0, none⟩ := by
              rcases HV1.out.2 with ⟨h1, h2⟩ | ⟨g, c2, cur, h1, _⟩
              · omega
              · injection h1 with h1 _ _; exact ⟨g, h1⟩
            subst hgv
            obtain ⟨s0, s1, s2⟩ : wr.cell? ⟨H, 0, none⟩ = some (.slice (some ⟨gv, 0, none⟩) a.m vc) ∧ wr.cell? ⟨H, 1, none⟩ = some (.slice (some ⟨gx, 0, none⟩) (a.m + 40) xc) ∧ wr.cell? ⟨H, 2, none⟩ = some (.int .i64 (a.k : Int)) := ⟨cell_bel HB.out HR0.out, cell_bel HB.out HR1.out, cell_bel HB.out HR2.out⟩
            have s3 : wr.cell? ⟨gx, q * 3, none⟩ = some (.int .i64 (-1000 - (a.k : Int))) := cell_bel HB.out (by have := rep_cell (i := q) (j := 0) HX1.out rfl (by omega) (by decide); simpa using this)
            have s4 : wr.cell? ⟨gx, q * 3 + 1, none⟩ = some (.int .i64 0) := cell_bel HB.out (by have := rep_cell (i := q) (j := 1) HX1.out rfl (by omega) (by decide); simpa using this)
            have s5 : wr.cell? ⟨gx, q * 3 + 2, none⟩ = some (.int .i64 0) := cell_bel HB.out (by have := rep_cell (i := q) (j := 2) HX1.out rfl (by omega) (by decide); simpa using this)
            have s6 : wr.cell? ⟨gv, q * 3, none⟩ = some (.int .i64 (-1000 - (a.k : Int))) := cell_bel HB.out (by have := rep_cell (i := q) (j := 0) HV1.out rfl (by omega) (by decide); simpa using this)
            have s7 : wr.cell? ⟨gv, q * 3 + 1, none⟩ = some (.int .i64 0) := cell_bel HB.out (by have := rep_cell (i := q) (j := 1) HV1.out rfl (by omega) (by decide); simpa using this)
            have s8 : wr.cell? ⟨gv, q * 3 + 2, none⟩ = some (.int .i64 0) := cell_bel HB.out (by have := rep_cell (i := q) (j := 2) HV1.out rfl (by omega) (by decide); simpa using this)
            go_wp2
            refine wp_region_held_drew (S := fun V => V.cell? ⟨H, 0, none⟩ = some (.slice (some ⟨gv, 0, none⟩) a.m vc) ∧ V.cell? ⟨H, 1, none⟩ = some (.slice (some ⟨gx, 0, none⟩) (a.m + 40) xc) ∧ V.cell? ⟨H, 2, none⟩ = some (.int .i64 (a.k : Int)) ∧ V.cell? ⟨gx, q * 3, none⟩ = some (.int .i64 (-1000 - (a.k : Int))) ∧ V.cell? ⟨gx, q * 3 + 1, none⟩ = some (.int .i64 0) ∧ V.cell? ⟨gx, q * 3 + 2, none⟩ = some (.int .i64 0) ∧ V.cell? ⟨gv, q * 3, none⟩ = some (.int .i64 (-1000 - (a.k : Int))) ∧ V.cell? ⟨gv, q * 3 + 1, none⟩ = some (.int .i64 0) ∧ V.cell? ⟨gv, q * 3 + 2, none⟩ = some (.int .i64 0)) (by kernel_rfl) ?_ (fun hHeld => ?_)
            · exact ⟨s0, s1, s2, s3, s4, s5, s6, s7, s8⟩
            refine wpAnyH_take (i := 0) (oi := { dst := some 37, op := Go.Op.fieldAddr 141 (Go.Operand.tmp 4) 1, type := 0, pos := _, after := #[], guard := none }) (v := ?_) rfl (by kernel_rfl) (by kernel_rfl) (by kernel_rfl) (fun _ _ _ h => h) (Or.inl ⟨by rfl, ?_⟩) (by assumption) ?_
            rotate_left
            · intro w hSw; (try dsimp only at hSw); go_simp <;> first | with_reducible rfl | (rw [if_neg (by first | omega | (simp only [ByteArray.size_append] at *; omega))])
            simp only [Act.put, List.setIfInBounds_toArray, List.set_cons_zero, List.set_cons_succ]
            refine wpAnyH_take (i := 1) (oi := { dst := some 38, op := Go.Op.load 25 (Go.Operand.tmp 37), type := 25, pos := _, after := #[{ on := 0, ground := Go.Ground.data }], guard := none }) (v := ?_) rfl (by kernel_rfl) (by kernel_rfl) (by kernel_rfl) (fun _ _ _ h => h) (Or.inl ⟨by rfl, ?_⟩) (by assumption) ?_
            rotate_left
            · intro w hSw; (try dsimp only at hSw); go_simp <;> first | with_reducible rfl | (rw [if_neg (by first | omega | (simp only [ByteArray.size_append] at *; omega))])
            simp only [Act.put, List.setIfInBounds_toArray, List.set_cons_zero, List.set_cons_succ]
            refine wpAnyH_take (i := 2) (oi := { dst := some 39, op := Go.Op.move (Go.Operand.tmp 5), type := 3, pos := _, after := #[], guard := none }) (v := ?_) rfl (by kernel_rfl) (by kernel_rfl) (by kernel_rfl) (fun _ _ _ h => h) (Or.inl ⟨by rfl, ?_⟩) (by assumption) ?_
            rotate_left
            · intro w hSw; (try dsimp only at hSw); go_simp <;> first | with_reducible rfl | (rw [if_neg (by first | omega | (simp only [ByteArray.size_append] at *; omega))])
            simp only [Act.put, List.setIfInBounds_toArray, List.set_cons_zero, List.set_cons_succ]
            refine wpAnyH_take (i := 3) (oi := { dst := some 40, op := Go.Op.indexAddr 25 (Go.Operand.tmp 38) (Go.Operand.tmp 39), type := 0, pos := _, after := #[{ on := 1, ground := Go.Ground.data }, { on := 2, ground := Go.Ground.data }], guard := none }) (v := ?_) rfl (by kernel_rfl) (by kernel_rfl) (by kernel_rfl) (fun _ _ _ h => h) (Or.inl ⟨by rfl, ?_⟩) (by assumption) ?_
            rotate_left
            · intro w hSw; (try dsimp only at hSw); go_simp <;> first | with_reducible rfl | (rw [if_neg (by first | omega | (simp only [ByteArray.size_append] at *; omega))])
            simp only [Act.put, List.setIfInBounds_toArray, List.set_cons_zero, List.set_cons_succ]
            refine wpAnyH_take (i := 4) (oi := { dst := some 41, op := Go.Op.load 64 (Go.Operand.tmp 40), type := 64, pos := _, after := #[{ on := 3, ground := Go.Ground.data }], guard := none }) (v := ?_) rfl (by kernel_rfl) (by kernel_rfl) (by kernel_rfl) (fun _ _ _ h => h) (Or.inl ⟨by rfl, ?_⟩) (by assumption) ?_
            rotate_left
            · intro w hSw; (try dsimp only at hSw); go_simp <;> first | with_reducible rfl | (rw [if_neg (by first | omega | (simp only [ByteArray.size_append] at *; omega))])
            simp only [Act.put, List.setIfInBounds_toArray, List.set_cons_zero, List.set_cons_succ]
            refine wpAnyH_take (i := 5) (oi := { dst := some 42, op := Go.Op.fieldAddr 141 (Go.Operand.tmp 4) 2, type := 0, pos := _, after := #[], guard := none }) (v := ?_) rfl (by kernel_rfl) (by kernel_rfl) (by kernel_rfl) (fun _ _ _ h => h) (Or.inl ⟨by rfl, ?_⟩) (by assumption) ?_
            rotate_left
            · intro w hSw; (try dsimp only at hSw); go_simp <;> first | with_reducible rfl | (rw [if_neg (by first | omega | (simp only [ByteArray.size_append] at *; omega))])
            simp only [Act.put, List.setIfInBounds_toArray, List.set_cons_zero, List.set_cons_succ]
            refine wpAnyH_take (i := 6) (oi := { dst := some 43, op := Go.Op.load 3 (Go.Operand.tmp 42), type := 3, pos := _, after := #[{ on := 5, ground := Go.Ground.data }], guard := none }) (v := ?_) rfl (by kernel_rfl) (by kernel_rfl) (by kernel_rfl) (fun _ _ _ h => h) (Or.inl ⟨by rfl, ?_⟩) (by assumption) ?_
            rotate_left
            · intro w hSw; (try dsimp only at hSw); go_simp <;> first | with_reducible rfl | (rw [if_neg (by first | omega | (simp only [ByteArray.size_append] at *; omega))])
            simp only [Act.put, List.setIfInBounds_toArray, List.set_cons_zero, List.set_cons_succ]
            refine wpAnyH_ready (rs := [7]) (by kernel_rfl) (by simp) ?_
            refine AllReadyH.cons (o := { dst := some 44, op := Go.Op.call { callee := Go.Callee.value (Go.Operand.func 117), args := #[Go.Operand.tmp 41, Go.Operand.tmp 43], argTypes := #[64, 3] }, type := 4, pos := _, after := #[{ on := 4, ground := Go.Ground.data }, { on := 6, ground := Go.Ground.data }], guard := none }) rfl (fun K hK => ?_) AllReadyH.nil
            go_simp
            refine (is_Slot a.k _ (by omega)).mono ?_
            rintro e w5 ⟨rfl, hb⟩
            have t0 := cell_bel hb s0
            have t1 := cell_bel hb s1
            have t2 := cell_bel hb s2
            have t3 := cell_bel hb s3
            have t4 := cell_bel hb s4
            have t5 := cell_bel hb s5
            have t6 := cell_bel hb s6
            have t7 := cell_bel hb s7
            have t8 := cell_bel hb s8
            have HB1 := hid hb
            clear hb s0 s1 s2 s3 s4 s5 s6 s7 s8
            go_wp2_with fail
            refine hK.out _ _ ?_ (fun hHeld1 => ?_)
            · exact ⟨t0, t1, t2, t3, t4, t5, t6, t7, t8⟩
            clear hK K
            refine wpAnyH_take (i := 8) (oi := { dst := some 45, op := Go.Op.unOp Go.UnOp.not 4 (Go.Operand.tmp 44), type := 4, pos := _, after := #[{ on := 7, ground := Go.Ground.data }], guard := none }) (v := ?_) rfl (by kernel_rfl) (by kernel_rfl) (by kernel_rfl) (fun _ _ _ h => h) (Or.inl ⟨by rfl, ?_⟩) (by assumption) ?_
            rotate_left
            · intro w hSw; (try dsimp only at hSw); go_simp <;> first | with_reducible rfl | (rw [if_neg (by first | omega | (simp only [ByteArray.size_append] at *; omega))])
            simp only [Act.put, List.setIfInBounds_toArray, List.set_cons_zero, List.set_cons_succ]
            refine wpAnyH_take (i := 9) (oi := { dst := some 46, op := Go.Op.move (Go.Operand.tmp 45), type := 4, pos := _, after := #[{ on := 8, ground := Go.Ground.data }, { on := 7, ground := Go.Ground.chain }], guard := none }) (v := ?_) rfl (by kernel_rfl) (by kernel_rfl) (by kernel_rfl) (fun _ _ _ h => h) (Or.inl ⟨by rfl, ?_⟩) (by assumption) ?_
            rotate_left
            · intro w hSw; (try dsimp only at hSw); go_simp <;> first | with_reducible rfl | (rw [if_neg (by first | omega | (simp only [ByteArray.size_append] at *; omega))])
            simp only [Act.put, List.setIfInBounds_toArray, List.set_cons_zero, List.set_cons_succ]
            refine wpAnyH_take (i := 10) (oi := { dst := some 47, op := Go.Op.move (Go.Operand.tmp 5), type := 3, pos := _, after := #[{ on := 9, ground := Go.Ground.guard }], guard := some (9, false) }) (v := ?_) rfl (by kernel_rfl) (by kernel_rfl) (by kernel_rfl) (fun _ _ _ h => h) (Or.inl ⟨by rfl, ?_⟩) (by assumption) ?_
            rotate_left
            · intro w hSw; (try dsimp only at hSw); go_simp <;> first | with_reducible rfl | (rw [if_neg (by first | omega | (simp only [ByteArray.size_append] at *; omega))])
            simp only [Act.put, List.setIfInBounds_toArray, List.set_cons_zero, List.set_cons_succ]
            refine wpAnyH_take (i := 11) (oi := { dst := some 48, op := Go.Op.fieldAddr 141 (Go.Operand.tmp 4) 0, type := 0, pos := _, after := #[{ on := 9, ground := Go.Ground.guard }], guard := some (9, false) }) (v := ?_) rfl (by kernel_rfl) (by kernel_rfl) (by kernel_rfl) (fun _ _ _ h => h) (Or.inl ⟨by rfl, ?_⟩) (by assumption) ?_
            rotate_left
            · intro w hSw; (try dsimp only at hSw); go_simp <;> first | with_reducible rfl | (rw [if_neg (by first | omega | (simp only [ByteArray.size_append] at *; omega))])
            simp only [Act.put, List.setIfInBounds_toArray, List.set_cons_zero, List.set_cons_succ]
            refine wpAnyH_take (i := 12) (oi := { dst := some 49, op := Go.Op.load 25 (Go.Operand.tmp 48), type := 25, pos := _, after := #[{ on := 11, ground := Go.Ground.data }, { on := 9, ground := Go.Ground.guard }], guard := some (9, false) }) (v := ?_) rfl (by kernel_rfl) (by kernel_rfl) (by kernel_rfl) (fun _ _ _ h => h) (Or.inl ⟨by rfl, ?_⟩) (by assumption) ?_
            rotate_left
            · intro w hSw; (try dsimp only at hSw); go_simp <;> first | with_reducible rfl | (rw [if_neg (by first | omega | (simp only [ByteArray.size_append] at *; omega))])
            simp only [Act.put, List.setIfInBounds_toArray, List.set_cons_zero, List.set_cons_succ]
            refine wpAnyH_take (i := 13) (oi := { dst := some 50, op := Go.Op.call { callee := Go.Callee.builtin Go.Builtin.len, args := #[Go.Operand.tmp 49], argTypes := #[25] }, type := 3, pos := _, after := #[{ on := 12, ground := Go.Ground.data }, { on := 9, ground := Go.Ground.guard }], guard := some (9, false) }) (v := ?_) rfl (by kernel_rfl) (by kernel_rfl) (by kernel_rfl) (fun _ _ _ h => h) (Or.inl ⟨by rfl, ?_⟩) (by assumption) ?_
            rotate_left
            · intro w hSw; (try dsimp only at hSw); go_simp <;> first | with_reducible rfl | (rw [if_neg (by first | omega | (simp only [ByteArray.size_append] at *; omega))])
            simp only [Act.put, List.setIfInBounds_toArray, List.set_cons_zero, List.set_cons_succ]
            refine wpAnyH_take (i := 14) (oi := { dst := some 51, op := Go.Op.binOp Go.BinOp.lss 3 (Go.Operand.tmp 47) (Go.Operand.tmp 50) 3, type := 4, pos := _, after := #[{ on := 10, ground := Go.Ground.data }, { on := 13, ground := Go.Ground.data }, { on := 9, ground := Go.Ground.guard }], guard := some (9, false) }) (v := ?_) rfl (by kernel_rfl) (by kernel_rfl) (by kernel_rfl) (fun _ _ _ h => h) (Or.inl ⟨by rfl, ?_⟩) (by assumption) ?_
            rotate_left
            · intro w hSw; (try dsimp only at hSw); go_simp <;> first | with_reducible rfl | (rw [if_neg (by first | omega | (simp only [ByteArray.size_append] at *; omega))])
            simp only [Act.put, List.setIfInBounds_toArray, List.set_cons_zero, List.set_cons_succ]
            refine wpAnyH_take (i := 15) (oi := { dst := some 52, op := Go.Op.move (Go.Operand.tmp 51), type := 4, pos := _, after := #[{ on := 14, ground := Go.Ground.data }, { on := 9, ground := Go.Ground.chain }, { on := 9, ground := Go.Ground.guard }], guard := some (9, false) }) (v := ?_) rfl (by kernel_rfl) (by kernel_rfl) (by kernel_rfl) (fun _ _ _ h => h) (Or.inl ⟨by rfl, ?_⟩) (by assumption) ?_
            rotate_left
            · intro w hSw; (try dsimp only at hSw); go_simp <;> first | with_reducible rfl | (rw [if_neg (by first | omega | (simp only [ByteArray.size_append] at *; omega))])
            simp only [Act.put, List.setIfInBounds_toArray, List.set_cons_zero, List.set_cons_succ]
            refine wpAnyH_take (i := 16) (oi := { dst := some 53, op := Go.Op.fieldAddr 141 (Go.Operand.tmp 4) 0, type := 0, pos := _, after := #[{ on := 15, ground := Go.Ground.guard }], guard := some (15, true) }) (v := ?_) rfl (by kernel_rfl) (by kernel_rfl) (by kernel_rfl) (fun _ _ _ h => h) (Or.inl ⟨by rfl, ?_⟩) (by assumption) ?_
            rotate_left
            · intro w hSw; (try dsimp only at hSw); go_simp <;> first | with_reducible rfl | (rw [if_neg (by first | omega | (simp only [ByteArray.size_append] at *; omega))])
            simp only [Act.put, List.setIfInBounds_toArray, List.set_cons_zero, List.set_cons_succ]
            refine wpAnyH_take (i := 17) (oi := { dst := some 54, op := Go.Op.load 25 (Go.Operand.tmp 53), type := 25, pos := _, after := #[{ on := 16, ground := Go.Ground.data }, { on := 15, ground := Go.Ground.guard }], guard := some (15, true) }) (v := ?_) rfl (by kernel_rfl) (by kernel_rfl) (by kernel_rfl) (fun _ _ _ h => h) (Or.inl ⟨by rfl, ?_⟩) (by assumption) ?_
            rotate_left
            · intro w hSw; (try dsimp only at hSw); go_simp <;> first | with_reducible rfl | (rw [if_neg (by first | omega | (simp only [ByteArray.size_append] at *; omega))])
            simp only [Act.put, List.setIfInBounds_toArray, List.set_cons_zero, List.set_cons_succ]
            refine wpAnyH_take (i := 18) (oi := { dst := some 55, op := Go.Op.move (Go.Operand.tmp 5), type := 3, pos := _, after := #[{ on := 15, ground := Go.Ground.guard }], guard := some (15, true) }) (v := ?_) rfl (by kernel_rfl) (by kernel_rfl) (by kernel_rfl) (fun _ _ _ h => h) (Or.inl ⟨by rfl, ?_⟩) (by assumption) ?_
            rotate_left
            · intro w hSw; (try dsimp only at hSw); go_simp <;> first | with_reducible rfl | (rw [if_neg (by first | omega | (simp only [ByteArray.size_append] at *; omega))])
            simp only [Act.put, List.setIfInBounds_toArray, List.set_cons_zero, List.set_cons_succ]
            refine wpAnyH_take (i := 19) (oi := { dst := some 56, op := Go.Op.indexAddr 25 (Go.Operand.tmp 54) (Go.Operand.tmp 55), type := 0, pos := _, after := #[{ on := 17, ground := Go.Ground.data }, { on := 18, ground := Go.Ground.data }, { on := 15, ground := Go.Ground.guard }], guard := some (15, true) }) (v := ?_) rfl (by kernel_rfl) (by kernel_rfl) (by kernel_rfl) (fun _ _ _ h => h) (Or.inl ⟨by rfl, ?_⟩) (by assumption) ?_
            rotate_left
            · intro w hSw; (try dsimp only at hSw); go_simp <;> first | with_reducible rfl | (rw [if_neg (by first | omega | (simp only [ByteArray.size_append] at *; omega))])
            simp only [Act.put, List.setIfInBounds_toArray, List.set_cons_zero, List.set_cons_succ]
            refine wpAnyH_take (i := 20) (oi := { dst := some 57, op := Go.Op.load 64 (Go.Operand.tmp 56), type := 64, pos := _, after := #[{ on := 19, ground := Go.Ground.data }, { on := 15, ground := Go.Ground.guard }], guard := some (15, true) }) (v := ?_) rfl (by kernel_rfl) (by kernel_rfl) (by kernel_rfl) (fun _ _ _ h => h) (Or.inl ⟨by rfl, ?_⟩) (by assumption) ?_
            rotate_left
            · intro w hSw; (try dsimp only at hSw); go_simp <;> first | with_reducible rfl | (rw [if_neg (by first | omega | (simp only [ByteArray.size_append] at *; omega))])
            simp only [Act.put, List.setIfInBounds_toArray, List.set_cons_zero, List.set_cons_succ]
            refine wpAnyH_take (i := 21) (oi := { dst := some 58, op := Go.Op.fieldAddr 141 (Go.Operand.tmp 4) 2, type := 0, pos := _, after := #[{ on := 15, ground := Go.Ground.guard }], guard := some (15, true) }) (v := ?_) rfl (by kernel_rfl) (by kernel_rfl) (by kernel_rfl) (fun _ _ _ h => h) (Or.inl ⟨by rfl, ?_⟩) (by assumption) ?_
            rotate_left
            · intro w hSw; (try dsimp only at hSw); go_simp <;> first | with_reducible rfl | (rw [if_neg (by first | omega | (simp only [ByteArray.size_append] at *; omega))])
            simp only [Act.put, List.setIfInBounds_toArray, List.set_cons_zero, List.set_cons_succ]
            refine wpAnyH_take (i := 22) (oi := { dst := some 59, op := Go.Op.load 3 (Go.Operand.tmp 58), type := 3, pos := _, after := #[{ on := 21, ground := Go.Ground.data }, { on := 15, ground := Go.Ground.guard }], guard := some (15, true) }) (v := ?_) rfl (by kernel_rfl) (by kernel_rfl) (by kernel_rfl) (fun _ _ _ h => h) (Or.inl ⟨by rfl, ?_⟩) (by assumption) ?_
            rotate_left
            · intro w hSw; (try dsimp only at hSw); go_simp <;> first | with_reducible rfl | (rw [if_neg (by first | omega | (simp only [ByteArray.size_append] at *; omega))])
            simp only [Act.put, List.setIfInBounds_toArray, List.set_cons_zero, List.set_cons_succ]
            refine wpAnyH_ready (rs := [23]) (by kernel_rfl) (by simp) ?_
            refine AllReadyH.cons (o := { dst := some 60, op := Go.Op.call { callee := Go.Callee.value (Go.Operand.func 117), args := #[Go.Operand.tmp 57, Go.Operand.tmp 59], argTypes := #[64, 3] }, type := 4, pos := _, after := #[{ on := 20, ground := Go.Ground.data }, { on := 22, ground := Go.Ground.data }, { on := 15, ground := Go.Ground.chain }, { on := 15, ground := Go.Ground.guard }], guard := some (15, true) }) rfl (fun K hK => ?_) AllReadyH.nil
            go_simp
            refine (is_Slot a.k _ (by omega)).mono ?_
            rintro e w6 ⟨rfl, hb⟩
            have r0 := cell_bel hb t0
            have r1 := cell_bel hb t1
            have r2 := cell_bel hb t2
            have r3 := cell_bel hb t3
            have r4 := cell_bel hb t4
            have r5 := cell_bel hb t5
            have r6 := cell_bel hb t6
            have r7 := cell_bel hb t7
            have r8 := cell_bel hb t8
            have HB2 := hid hb
            clear hb t0 t1 t2 t3 t4 t5 t6 t7 t8
            go_wp2_with fail
            refine hK.out _ _ ?_ (fun hHeld2 => ?_)
            · exact ⟨r0, r1, r2, r3, r4, r5, r6, r7, r8⟩
            clear hK K
            refine wpAnyH_take (i := 24) (oi := { dst := some 61, op := Go.Op.unOp Go.UnOp.not 4 (Go.Operand.tmp 60), type := 4, pos := _, after := #[{ on := 23, ground := Go.Ground.data }, { on := 15, ground := Go.Ground.guard }], guard := some (15, true) }) (v := ?_) rfl (by kernel_rfl) (by kernel_rfl) (by kernel_rfl) (fun _ _ _ h => h) (Or.inl ⟨by rfl, ?_⟩) (by assumption) ?_
            rotate_left
            · intro w hSw; (try dsimp only at hSw); go_simp <;> first | with_reducible rfl | (rw [if_neg (by first | omega | (simp only [ByteArray.size_append] at *; omega))])
            simp only [Act.put, List.setIfInBounds_toArray, List.set_cons_zero, List.set_cons_succ]
            refine wpAnyH_take (i := 25) (oi := { dst := some 62, op := Go.Op.pick (Go.Operand.tmp 52) (Go.Operand.tmp 61) (Go.Operand.const (Go.Value.bool false)), type := 4, pos := _, after := #[{ on := 15, ground := Go.Ground.data }, { on := 24, ground := Go.Ground.data }, { on := 9, ground := Go.Ground.guard }], guard := some (9, false) }) (v := ?_) rfl (by kernel_rfl) (by kernel_rfl) (by kernel_rfl) (fun _ _ _ h => h) (Or.inl ⟨by rfl, ?_⟩) (by assumption) ?_
            rotate_left
            · intro w hSw; (try dsimp only at hSw); go_simp <;> first | with_reducible rfl | (rw [if_neg (by first | omega | (simp only [ByteArray.size_append] at *; omega))])
            simp only [Act.put, List.setIfInBounds_toArray, List.set_cons_zero, List.set_cons_succ]
            refine wpAnyH_take (i := 26) (oi := { dst := some 63, op := Go.Op.pick (Go.Operand.tmp 46) (Go.Operand.const (Go.Value.bool true)) (Go.Operand.tmp 62), type := 4, pos := _, after := #[{ on := 9, ground := Go.Ground.data }, { on := 25, ground := Go.Ground.data }], guard := none }) (v := ?_) rfl (by kernel_rfl) (by kernel_rfl) (by kernel_rfl) (fun _ _ _ h => h) (Or.inl ⟨by rfl, ?_⟩) (by assumption) ?_
            rotate_left
            · intro w hSw; (try dsimp only at hSw); go_simp <;> first | with_reducible rfl | (rw [if_neg (by first | omega | (simp only [ByteArray.size_append] at *; omega))])
            simp only [Act.put, List.setIfInBounds_toArray, List.set_cons_zero, List.set_cons_succ]
            refine wpAnyH_done (by kernel_rfl) ?_ _
            go_wp2
            go_roundw
            case rel => exact ⟨q + 1, by omega, by go_num, hid (HB.out.trans (((Below.refl _ _).drew.trans (HB1.out.trans (HB2.out.mono HB1.out.size))).mono HB.out.size))⟩
            case measure => simp [intOf]; omega
          · have hqm' : decide ((q : Int) < (a.m : Int)) = false := decide_eq_false (by omega)
            obtain ⟨s0, s1, s2⟩ : wr.cell? ⟨H, 0, none⟩ = some (.slice va a.m vc) ∧ wr.cell? ⟨H, 1, none⟩ = some (.slice (some ⟨gx, 0, none⟩) (a.m + 40) xc) ∧ wr.cell? ⟨H, 2, none⟩ = some (.int .i64 (a.k : Int)) := ⟨cell_bel HB.out HR0.out, cell_bel HB.out HR1.out, cell_bel HB.out HR2.out⟩
            have s3 : wr.cell? ⟨gx, q * 3, none⟩ = some (.int .i64 (-1000 - (a.k : Int))) := cell_bel HB.out (by have := rep_cell (i := q) (j := 0) HX1.out rfl (by omega) (by decide); simpa using this)
            have s4 : wr.cell? ⟨gx, q * 3 + 1, none⟩ = some (.int .i64 0) := cell_bel HB.out (by have := rep_cell (i := q) (j := 1) HX1.out rfl (by omega) (by decide); simpa using this)
            have s5 : wr.cell? ⟨gx, q * 3 + 2, none⟩ = some (.int .i64 0) := cell_bel HB.out (by have := rep_cell (i := q) (j := 2) HX1.out rfl (by omega) (by decide); simpa using this)
            go_wp2
            refine wp_region_held_drew (S := fun V => V.cell? ⟨H, 0, none⟩ = some (.slice va a.m vc) ∧ V.cell? ⟨H, 1, none⟩ = some (.slice (some ⟨gx, 0, none⟩) (a.m + 40) xc) ∧ V.cell? ⟨H, 2, none⟩ = some (.int .i64 (a.k : Int)) ∧ V.cell? ⟨gx, q * 3, none⟩ = some (.int .i64 (-1000 - (a.k : Int))) ∧ V.cell? ⟨gx, q * 3 + 1, none⟩ = some (.int .i64 0) ∧ V.cell? ⟨gx, q * 3 + 2, none⟩ = some (.int .i64 0)) (by kernel_rfl) ?_ (fun hHeld => ?_)
            · exact ⟨s0, s1, s2, s3, s4, s5⟩
            refine wpAnyH_take (i := 0) (oi := { dst := some 37, op := Go.Op.fieldAddr 141 (Go.Operand.tmp 4) 1, type := 0, pos := _, after := #[], guard := none }) (v := ?_) rfl (by kernel_rfl) (by kernel_rfl) (by kernel_rfl) (fun _ _ _ h => h) (Or.inl ⟨by rfl, ?_⟩) (by assumption) ?_
            rotate_left
            · intro w hSw; (try dsimp only at hSw); go_simp <;> first | with_reducible rfl | (rw [if_neg (by first | omega | (simp only [ByteArray.size_append] at *; omega))])
            simp only [Act.put, List.setIfInBounds_toArray, List.set_cons_zero, List.set_cons_succ]
            refine wpAnyH_take (i := 1) (oi := { dst := some 38, op := Go.Op.load 25 (Go.Operand.tmp 37), type := 25, pos := _, after := #[{ on := 0, ground := Go.Ground.data }], guard := none }) (v := ?_) rfl (by kernel_rfl) (by kernel_rfl) (by kernel_rfl) (fun _ _ _ h => h) (Or.inl ⟨by rfl, ?_⟩) (by assumption) ?_
            rotate_left
            · intro w hSw; (try dsimp only at hSw); go_simp <;> first | with_reducible rfl | (rw [if_neg (by first | omega | (simp only [ByteArray.size_append] at *; omega))])
            simp only [Act.put, List.setIfInBounds_toArray, List.set_cons_zero, List.set_cons_succ]
            refine wpAnyH_take (i := 2) (oi := { dst := some 39, op := Go.Op.move (Go.Operand.tmp 5), type := 3, pos := _, after := #[], guard := none }) (v := ?_) rfl (by kernel_rfl) (by kernel_rfl) (by kernel_rfl) (fun _ _ _ h => h) (Or.inl ⟨by rfl, ?_⟩) (by assumption) ?_
            rotate_left
            · intro w hSw; (try dsimp only at hSw); go_simp <;> first | with_reducible rfl | (rw [if_neg (by first | omega | (simp only [ByteArray.size_append] at *; omega))])
            simp only [Act.put, List.setIfInBounds_toArray, List.set_cons_zero, List.set_cons_succ]
            refine wpAnyH_take (i := 3) (oi := { dst := some 40, op := Go.Op.indexAddr 25 (Go.Operand.tmp 38) (Go.Operand.tmp 39), type := 0, pos := _, after := #[{ on := 1, ground := Go.Ground.data }, { on := 2, ground := Go.Ground.data }], guard := none }) (v := ?_) rfl (by kernel_rfl) (by kernel_rfl) (by kernel_rfl) (fun _ _ _ h => h) (Or.inl ⟨by rfl, ?_⟩) (by assumption) ?_
            rotate_left
            · intro w hSw; (try dsimp only at hSw); go_simp <;> first | with_reducible rfl | (rw [if_neg (by first | omega | (simp only [ByteArray.size_append] at *; omega))])
            simp only [Act.put, List.setIfInBounds_toArray, List.set_cons_zero, List.set_cons_succ]
            refine wpAnyH_take (i := 4) (oi := { dst := some 41, op := Go.Op.load 64 (Go.Operand.tmp 40), type := 64, pos := _, after := #[{ on := 3, ground := Go.Ground.data }], guard := none }) (v := ?_) rfl (by kernel_rfl) (by kernel_rfl) (by kernel_rfl) (fun _ _ _ h => h) (Or.inl ⟨by rfl, ?_⟩) (by assumption) ?_
            rotate_left
            · intro w hSw; (try dsimp only at hSw); go_simp <;> first | with_reducible rfl | (rw [if_neg (by first | omega | (simp only [ByteArray.size_append] at *; omega))])
            simp only [Act.put, List.setIfInBounds_toArray, List.set_cons_zero, List.set_cons_succ]
            refine wpAnyH_take (i := 5) (oi := { dst := some 42, op := Go.Op.fieldAddr 141 (Go.Operand.tmp 4) 2, type := 0, pos := _, after := #[], guard := none }) (v := ?_) rfl (by kernel_rfl) (by kernel_rfl) (by kernel_rfl) (fun _ _ _ h => h) (Or.inl ⟨by rfl, ?_⟩) (by assumption) ?_
            rotate_left
            · intro w hSw; (try dsimp only at hSw); go_simp <;> first | with_reducible rfl | (rw [if_neg (by first | omega | (simp only [ByteArray.size_append] at *; omega))])
            simp only [Act.put, List.setIfInBounds_toArray, List.set_cons_zero, List.set_cons_succ]
            refine wpAnyH_take (i := 6) (oi := { dst := some 43, op := Go.Op.load 3 (Go.Operand.tmp 42), type := 3, pos := _, after := #[{ on := 5, ground := Go.Ground.data }], guard := none }) (v := ?_) rfl (by kernel_rfl) (by kernel_rfl) (by kernel_rfl) (fun _ _ _ h => h) (Or.inl ⟨by rfl, ?_⟩) (by assumption) ?_
            rotate_left
            · intro w hSw; (try dsimp only at hSw); go_simp <;> first | with_reducible rfl | (rw [if_neg (by first | omega | (simp only [ByteArray.size_append] at *; omega))])
            simp only [Act.put, List.setIfInBounds_toArray, List.set_cons_zero, List.set_cons_succ]
            refine wpAnyH_ready (rs := [7]) (by kernel_rfl) (by simp) ?_
            refine AllReadyH.cons (o := { dst := some 44, op := Go.Op.call { callee := Go.Callee.value (Go.Operand.func 117), args := #[Go.Operand.tmp 41, Go.Operand.tmp 43], argTypes := #[64, 3] }, type := 4, pos := _, after := #[{ on := 4, ground := Go.Ground.data }, { on := 6, ground := Go.Ground.data }], guard := none }) rfl (fun K hK => ?_) AllReadyH.nil
            go_simp
            refine (is_Slot a.k _ (by omega)).mono ?_
            rintro e w5 ⟨rfl, hb⟩
            have t0 := cell_bel hb s0
            have t1 := cell_bel hb s1
            have t2 := cell_bel hb s2
            have t3 := cell_bel hb s3
            have t4 := cell_bel hb s4
            have t5 := cell_bel hb s5
            have HB1 := hid hb
            clear hb s0 s1 s2 s3 s4 s5
            go_wp2_with fail
            refine hK.out _ _ ?_ (fun hHeld1 => ?_)
            · exact ⟨t0, t1, t2, t3, t4, t5⟩
            clear hK K
            refine wpAnyH_take (i := 8) (oi := { dst := some 45, op := Go.Op.unOp Go.UnOp.not 4 (Go.Operand.tmp 44), type := 4, pos := _, after := #[{ on := 7, ground := Go.Ground.data }], guard := none }) (v := ?_) rfl (by kernel_rfl) (by kernel_rfl) (by kernel_rfl) (fun _ _ _ h => h) (Or.inl ⟨by rfl, ?_⟩) (by assumption) ?_
            rotate_left
            · intro w hSw; (try dsimp only at hSw); go_simp <;> first | with_reducible rfl | (rw [if_neg (by first | omega | (simp only [ByteArray.size_append] at *; omega))])
            simp only [Act.put, List.setIfInBounds_toArray, List.set_cons_zero, List.set_cons_succ]
            refine wpAnyH_take (i := 9) (oi := { dst := some 46, op := Go.Op.move (Go.Operand.tmp 45), type := 4, pos := _, after := #[{ on := 8, ground := Go.Ground.data }, { on := 7, ground := Go.Ground.chain }], guard := none }) (v := ?_) rfl (by kernel_rfl) (by kernel_rfl) (by kernel_rfl) (fun _ _ _ h => h) (Or.inl ⟨by rfl, ?_⟩) (by assumption) ?_
            rotate_left
            · intro w hSw; (try dsimp only at hSw); go_simp <;> first | with_reducible rfl | (rw [if_neg (by first | omega | (simp only [ByteArray.size_append] at *; omega))])
            simp only [Act.put, List.setIfInBounds_toArray, List.set_cons_zero, List.set_cons_succ]
            refine wpAnyH_take (i := 10) (oi := { dst := some 47, op := Go.Op.move (Go.Operand.tmp 5), type := 3, pos := _, after := #[{ on := 9, ground := Go.Ground.guard }], guard := some (9, false) }) (v := ?_) rfl (by kernel_rfl) (by kernel_rfl) (by kernel_rfl) (fun _ _ _ h => h) (Or.inl ⟨by rfl, ?_⟩) (by assumption) ?_
            rotate_left
            · intro w hSw; (try dsimp only at hSw); go_simp <;> first | with_reducible rfl | (rw [if_neg (by first | omega | (simp only [ByteArray.size_append] at *; omega))])
            simp only [Act.put, List.setIfInBounds_toArray, List.set_cons_zero, List.set_cons_succ]
            refine wpAnyH_take (i := 11) (oi := { dst := some 48, op := Go.Op.fieldAddr 141 (Go.Operand.tmp 4) 0, type := 0, pos := _, after := #[{ on := 9, ground := Go.Ground.guard }], guard := some (9, false) }) (v := ?_) rfl (by kernel_rfl) (by kernel_rfl) (by kernel_rfl) (fun _ _ _ h => h) (Or.inl ⟨by rfl, ?_⟩) (by assumption) ?_
            rotate_left
            · intro w hSw; (try dsimp only at hSw); go_simp <;> first | with_reducible rfl | (rw [if_neg (by first | omega | (simp only [ByteArray.size_append] at *; omega))])
            simp only [Act.put, List.setIfInBounds_toArray, List.set_cons_zero, List.set_cons_succ]
            refine wpAnyH_take (i := 12) (oi := { dst := some 49, op := Go.Op.load 25 (Go.Operand.tmp 48), type := 25, pos := _, after := #[{ on := 11, ground := Go.Ground.data }, { on := 9, ground := Go.Ground.guard }], guard := some (9, false) }) (v := ?_) rfl (by kernel_rfl) (by kernel_rfl) (by kernel_rfl) (fun _ _ _ h => h) (Or.inl ⟨by rfl, ?_⟩) (by assumption) ?_
            rotate_left
            · intro w hSw; (try dsimp only at hSw); go_simp <;> first | with_reducible rfl | (rw [if_neg (by first | omega | (simp only [ByteArray.size_append] at *; omega))])
            simp only [Act.put, List.setIfInBounds_toArray, List.set_cons_zero, List.set_cons_succ]
            refine wpAnyH_take (i := 13) (oi := { dst := some 50, op := Go.Op.call { callee := Go.Callee.builtin Go.Builtin.len, args := #[Go.Operand.tmp 49], argTypes := #[25] }, type := 3, pos := _, after := #[{ on := 12, ground := Go.Ground.data }, { on := 9, ground := Go.Ground.guard }], guard := some (9, false) }) (v := ?_) rfl (by kernel_rfl) (by kernel_rfl) (by kernel_rfl) (fun _ _ _ h => h) (Or.inl ⟨by rfl, ?_⟩) (by assumption) ?_
            rotate_left
            · intro w hSw; (try dsimp only at hSw); go_simp <;> first | with_reducible rfl | (rw [if_neg (by first | omega | (simp only [ByteArray.size_append] at *; omega))])
            simp only [Act.put, List.setIfInBounds_toArray, List.set_cons_zero, List.set_cons_succ]
            refine wpAnyH_take (i := 14) (oi := { dst := some 51, op := Go.Op.binOp Go.BinOp.lss 3 (Go.Operand.tmp 47) (Go.Operand.tmp 50) 3, type := 4, pos := _, after := #[{ on := 10, ground := Go.Ground.data }, { on := 13, ground := Go.Ground.data }, { on := 9, ground := Go.Ground.guard }], guard := some (9, false) }) (v := ?_) rfl (by kernel_rfl) (by kernel_rfl) (by kernel_rfl) (fun _ _ _ h => h) (Or.inl ⟨by rfl, ?_⟩) (by assumption) ?_
            rotate_left
            · intro w hSw; (try dsimp only at hSw); go_simp <;> first | with_reducible rfl | (rw [if_neg (by first | omega | (simp only [ByteArray.size_append] at *; omega))])
            simp only [Act.put, List.setIfInBounds_toArray, List.set_cons_zero, List.set_cons_succ]
            refine wpAnyH_take (i := 15) (oi := { dst := some 52, op := Go.Op.move (Go.Operand.tmp 51), type := 4, pos := _, after := #[{ on := 14, ground := Go.Ground.data }, { on := 9, ground := Go.Ground.chain }, { on := 9, ground := Go.Ground.guard }], guard := some (9, false) }) (v := ?_) rfl (by kernel_rfl) (by kernel_rfl) (by kernel_rfl) (fun _ _ _ h => h) (Or.inl ⟨by rfl, ?_⟩) (by assumption) ?_
            rotate_left
            · intro w hSw; (try dsimp only at hSw); go_simp <;> first | with_reducible rfl | (rw [if_neg (by first | omega | (simp only [ByteArray.size_append] at *; omega))])
            simp only [Act.put, List.setIfInBounds_toArray, List.set_cons_zero, List.set_cons_succ]
            refine wpAnyH_take (i := 16) (oi := { dst := some 53, op := Go.Op.fieldAddr 141 (Go.Operand.tmp 4) 0, type := 0, pos := _, after := #[{ on := 15, ground := Go.Ground.guard }], guard := some (15, true) }) (v := undef) rfl (by kernel_rfl) (by kernel_rfl) (by kernel_rfl) (fun _ _ _ h => h) (Or.inr ⟨by rfl, rfl⟩) (by assumption) ?_
            simp only [Act.put, List.setIfInBounds_toArray, List.set_cons_zero, List.set_cons_succ]
            refine wpAnyH_take (i := 17) (oi := { dst := some 54, op := Go.Op.load 25 (Go.Operand.tmp 53), type := 25, pos := _, after := #[{ on := 16, ground := Go.Ground.data }, { on := 15, ground := Go.Ground.guard }], guard := some (15, true) }) (v := undef) rfl (by kernel_rfl) (by kernel_rfl) (by kernel_rfl) (fun _ _ _ h => h) (Or.inr ⟨by rfl, rfl⟩) (by assumption) ?_
            simp only [Act.put, List.setIfInBounds_toArray, List.set_cons_zero, List.set_cons_succ]
            refine wpAnyH_take (i := 18) (oi := { dst := some 55, op := Go.Op.move (Go.Operand.tmp 5), type := 3, pos := _, after := #[{ on := 15, ground := Go.Ground.guard }], guard := some (15, true) }) (v := undef) rfl (by kernel_rfl) (by kernel_rfl) (by kernel_rfl) (fun _ _ _ h => h) (Or.inr ⟨by rfl, rfl⟩) (by assumption) ?_
            simp only [Act.put, List.setIfInBounds_toArray, List.set_cons_zero, List.set_cons_succ]
            refine wpAnyH_take (i := 19) (oi := { dst := some 56, op := Go.Op.indexAddr 25 (Go.Operand.tmp 54) (Go.Operand.tmp 55), type := 0, pos := _, after := #[{ on := 17, ground := Go.Ground.data }, { on := 18, ground := Go.Ground.data }, { on := 15, ground := Go.Ground.guard }], guard := some (15, true) }) (v := undef) rfl (by kernel_rfl) (by kernel_rfl) (by kernel_rfl) (fun _ _ _ h => h) (Or.inr ⟨by rfl, rfl⟩) (by assumption) ?_
            simp only [Act.put, List.setIfInBounds_toArray, List.set_cons_zero, List.set_cons_succ]
            refine wpAnyH_take (i := 20) (oi := { dst := some 57, op := Go.Op.load 64 (Go.Operand.tmp 56), type := 64, pos := _, after := #[{ on := 19, ground := Go.Ground.data }, { on := 15, ground := Go.Ground.guard }], guard := some (15, true) }) (v := undef) rfl (by kernel_rfl) (by kernel_rfl) (by kernel_rfl) (fun _ _ _ h => h) (Or.inr ⟨by rfl, rfl⟩) (by assumption) ?_
            simp only [Act.put, List.setIfInBounds_toArray, List.set_cons_zero, List.set_cons_succ]
            refine wpAnyH_take (i := 21) (oi := { dst := some 58, op := Go.Op.fieldAddr 141 (Go.Operand.tmp 4) 2, type := 0, pos := _, after := #[{ on := 15, ground := Go.Ground.guard }], guard := some (15, true) }) (v := undef) rfl (by kernel_rfl) (by kernel_rfl) (by kernel_rfl) (fun _ _ _ h => h) (Or.inr ⟨by rfl, rfl⟩) (by assumption) ?_
            simp only [Act.put, List.setIfInBounds_toArray, List.set_cons_zero, List.set_cons_succ]
            refine wpAnyH_take (i := 22) (oi := { dst := some 59, op := Go.Op.load 3 (Go.Operand.tmp 58), type := 3, pos := _, after := #[{ on := 21, ground := Go.Ground.data }, { on := 15, ground := Go.Ground.guard }], guard := some (15, true) }) (v := undef) rfl (by kernel_rfl) (by kernel_rfl) (by kernel_rfl) (fun _ _ _ h => h) (Or.inr ⟨by rfl, rfl⟩) (by assumption) ?_
            simp only [Act.put, List.setIfInBounds_toArray, List.set_cons_zero, List.set_cons_succ]
            refine wpAnyH_take (i := 23) (oi := { dst := some 60, op := Go.Op.call { callee := Go.Callee.value (Go.Operand.func 117), args := #[Go.Operand.tmp 57, Go.Operand.tmp 59], argTypes := #[64, 3] }, type := 4, pos := _, after := #[{ on := 20, ground := Go.Ground.data }, { on := 22, ground := Go.Ground.data }, { on := 15, ground := Go.Ground.chain }, { on := 15, ground := Go.Ground.guard }], guard := some (15, true) }) (v := undef) rfl (by kernel_rfl) (by kernel_rfl) (by kernel_rfl) (fun _ _ _ h => h) (Or.inr ⟨by rfl, rfl⟩) (by assumption) ?_
            simp only [Act.put, List.setIfInBounds_toArray, List.set_cons_zero, List.set_cons_succ]
            refine wpAnyH_take (i := 24) (oi := { dst := some 61, op := Go.Op.unOp Go.UnOp.not 4 (Go.Operand.tmp 60), type := 4, pos := _, after := #[{ on := 23, ground := Go.Ground.data }, { on := 15, ground := Go.Ground.guard }], guard := some (15, true) }) (v := undef) rfl (by kernel_rfl) (by kernel_rfl) (by kernel_rfl) (fun _ _ _ h => h) (Or.inr ⟨by rfl, rfl⟩) (by assumption) ?_
            simp only [Act.put, List.setIfInBounds_toArray, List.set_cons_zero, List.set_cons_succ]
            refine wpAnyH_take (i := 25) (oi := { dst := some 62, op := Go.Op.pick (Go.Operand.tmp 52) (Go.Operand.tmp 61) (Go.Operand.const (Go.Value.bool false)), type := 4, pos := _, after := #[{ on := 15, ground := Go.Ground.data }, { on := 24, ground := Go.Ground.data }, { on := 9, ground := Go.Ground.guard }], guard := some (9, false) }) (v := ?_) rfl (by kernel_rfl) (by kernel_rfl) (by kernel_rfl) (fun _ _ _ h => h) (Or.inl ⟨by rfl, ?_⟩) (by assumption) ?_
            rotate_left
            · intro w hSw; (try dsimp only at hSw); go_simp <;> first | with_reducible rfl | (rw [if_neg (by first | omega | (simp only [ByteArray.size_append] at *; omega))])
            simp only [Act.put, List.setIfInBounds_toArray, List.set_cons_zero, List.set_cons_succ]
            refine wpAnyH_take (i := 26) (oi := { dst := some 63, op := Go.Op.pick (Go.Operand.tmp 46) (Go.Operand.const (Go.Value.bool true)) (Go.Operand.tmp 62), type := 4, pos := _, after := #[{ on := 9, ground := Go.Ground.data }, { on := 25, ground := Go.Ground.data }], guard := none }) (v := ?_) rfl (by kernel_rfl) (by kernel_rfl) (by kernel_rfl) (fun _ _ _ h => h) (Or.inl ⟨by rfl, ?_⟩) (by assumption) ?_
            rotate_left
            · intro w hSw; (try dsimp only at hSw); go_simp <;> first | with_reducible rfl | (rw [if_neg (by first | omega | (simp only [ByteArray.size_append] at *; omega))])
            simp only [Act.put, List.setIfInBounds_toArray, List.set_cons_zero, List.set_cons_succ]
            refine wpAnyH_done (by kernel_rfl) ?_ _
            go_wp2
            go_roundw
            case rel => exact ⟨q + 1, by omega, by go_num, hid (HB.out.trans (((Below.refl _ _).drew.trans HB1.out).mono HB.out.size))⟩
            case measure => simp [intOf]; omega
        · have hqM' : ¬ (q : Int) < ((a.m + 40 : Nat) : Int) := by omega
          have HW2 : Hid (Below w.heap.size w wr) := hid (HW1.out.trans (HB.out.mono HW1.out.size))
          go_wp2
          go_roundw
          case rel => exact ⟨j + 1, by omega, by go_num, HW2⟩
          case measure => simp [intOf]; omega
    · have hlt' : ¬ (j : Int) < (E.length : Int) := by omega
      go_wp2
      go_ret
      exact ⟨rfl, HW.out⟩
end Go.Proofs.YtobmnndimlhfpaaGreatDoor.Slo
