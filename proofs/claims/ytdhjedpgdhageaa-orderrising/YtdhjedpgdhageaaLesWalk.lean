/-
  The walk of OrderLess.
-/
import Derived.Test.YtdhjedpgdhageaaLesW
namespace Go.Proofs.Ytdhjedpgdhageaa.Ord
open Go.ChangeShapes Go.WideShapes Go.ChangeAt Go.RowKit Go.Joins
theorem TG.cellG {W wr : World} {v : Value} {ys : List Value} {l : List (List Int)} (h : TG W wr v ys l) (g c : Nat) (hv : v = .slice (some ⟨g, 0, none⟩) l.length c) {k : Nat} (hk : k < l.length) : (∃ u, wr.cell? ⟨g, k, none⟩ = some u) ∧ wr.frozen? ⟨g, k, none⟩ = false := by
  obtain ⟨y, hy, _⟩ := h.rows k hk
  obtain ⟨b, c', e, _, h1, h2⟩ := own_cell h.own hk hy
  rw [hv] at e
  injection e with e
  injection e with e
  injection e with e
  subst e
  exact ⟨⟨y, h1⟩, h2⟩
theorem les_done {W w wa wb : World} {v v1 : Value} {ys : List Value} {l : List (List Int)} (hT : TG W w v ys l) (hba : Below w.heap.size w wa) (hg : wa.grownBy wb v1.ownBlock) (hat : v1.ownBlock = Value.ownBlock (.slice none 0 0) ∨ v1.ownBlock = some w.heap.size) : Below w.heap.size w wb ∧ TG W wb v ys l := by
  have hb : Below w.heap.size w wb := hba.grown hg hba.size (fun j e => by
    rcases hat with h | h
    · rw [h] at e; cases e
    · rw [h] at e; injection e with e; omega)
  exact ⟨hb, hT.keep hb⟩
theorem TG.off2 {W wr : World} {v y : Value} {ys : List Value} {l : List (List Int)} {lo : Nat} {r : List Int} (h : TG W wr v ys l) (hy : Row wr lo y r) {g : Nat} (hv : v.ownBlock = some g) : y.ownBlock ≠ some g := fun e => by
  obtain ⟨_, ⟨e1, _⟩ | ⟨g1, c1, cur1, e1, _, r1, _⟩⟩ := h.own
  · rw [e1] at hv; cases hv
  · obtain ⟨_, ⟨e2, _⟩ | ⟨g2, c2, cur2, e2, _, r2, _⟩⟩ := hy
    · rw [e2] at e; cases e
    · rw [e1] at hv
      rw [e2] at e
      have a1 : g1 = g := by simpa [Value.ownBlock] using hv
      have a2 : g2 = g := by simpa [Value.ownBlock] using e
      rw [a1] at r1
      rw [a2, r1] at r2
      simp at r2
theorem set_row {l : List (List Int)} {k : Nat} (hk : k < l.length) (r : List Int) (i : Nat) : (l.set k r).getD i [] = if i = k then r else l.getD i [] := by
  by_cases e : i = k
  · subst e
    rw [if_pos rfl]
    simp [hk]
  · rw [if_neg e]
    simp [Ne.symm e]
set_option maxRecDepth 100000 in
set_option maxHeartbeats 1000000 in
theorem walk4 (vl : Value) (l : List (List Int)) (n : Nat) (W : World) (h : LL W W.heap.size vl l) (hn : n < 256) : Calls Try.prog 4 #[vl, .int .u8 (n : Int)] W fun e w' => e = .returned (.bool true) ∧ Below W.heap.size W w' := by
  have HL := hid h
  obtain ⟨ao, c, rfl, hle, hcc, _⟩ := h
  go_enter Try.func4, Try.ntmps4
  go_wp2_with (fail)
  refine (alive_at W).mono ?_
  rintro e w1 ⟨rfl, b1⟩
  have L1 := hid (HL.out.keepW b1)
  have B1 := hid b1
  clear b1
  go_wp2_with (fail)
  refine (great_at w1 _ _ l L1.out).mono ?_
  rintro e w2 ⟨g, rfl, rfl, hg⟩
  cases g with
  | true =>
    go_wp2_with (fail)
    refine (alive_at w2).mono ?_
    rintro e w3 ⟨rfl, b3⟩
    have B3 := hid (bstep B1.out b3)
    clear b3
    go_wp2_with (fail)
    go_ret
    exact ⟨rfl, B3.out⟩
  | false =>
    obtain ⟨hl200, hrows⟩ := hg rfl
    have HRW := hid hrows
    clear hg hrows
    by_cases h0 : l.length = 0
    · have e0 : ((l.length : Int) == 0) = true := by rw [beq_iff_eq]; omega
      go_wp2_with (fail)
      refine (alive_at w2).mono ?_
      rintro e w3 ⟨rfl, b3⟩
      have B3 := hid (bstep B1.out b3)
      clear b3
      go_wp2_with (fail)
      go_ret
      exact ⟨rfl, B3.out⟩
    · have e0 : ((l.length : Int) == 0) = false := by rw [beq_eq_false_iff_ne]; omega
      go_wp2_with (fail)
      refine (of_at w2 _ l L1.out (by omega)).mono ?_
      rintro e w3 ⟨v, rfl, hrow, hb3⟩
      obtain ⟨va, vc, rfl, hcut⟩ := hrow.at
      clear hcut
      have R3 := hid hrow
      have B3 := hid (bstep B1.out hb3)
      have L3 := hid (L1.out.keepW hb3)
      clear hrow hb3
      have HR1 : Hid (∀ k, k < l.length → (l.getD k []).length ≤ 1048576) := hid (fun k hk => by have := HRW.out k hk; omega)
      have hmod : ((n : Int)).tmod (l.length : Int) = ((n % l.length : Nat) : Int) := rfl
      have hkl : n % l.length < l.length := Nat.mod_lt _ (by omega)
      generalize n % l.length = k at *
      have hne0 : (l.length : Int) ≠ 0 := by omega
      go_wp2_with (fail)
      refine (twin_lists w3 _ l L3.out (by omega) HR1.out).mono ?_
      rintro e w4 ⟨sv, sys, rfl, hT4⟩
      obtain ⟨sy, hsy, _⟩ := hT4.rows k hkl
      obtain ⟨sg, sc, rfl, hsc, hc4, hf4⟩ := own_cell hT4.own hkl hsy
      have HT4 := hid hT4
      have HP4 := hid (hT4.put (by omega) HR1.out rfl hkl (y := .slice none 0 0) (r := []) ⟨none, 0, rfl, Nat.le_refl _, ⟨by omega, by simp⟩, .inl rfl⟩)
      clear hT4 hsy
      go_wp2_with (fail)
      generalize (w4.setCell ⟨sg, k, none⟩ (.slice none 0 0)) = w5 at *
      have B5 := hid (B3.out.trans (HP4.out.2.mono B3.out.size))
      have L5 := hid (L3.out.keepW HP4.out.2)
      refine (twin_lists w5 _ l L5.out (by omega) HR1.out).mono ?_
      rintro e w6 ⟨tv, tys, rfl, hT6⟩
      obtain ⟨ty, hty, _⟩ := hT6.rows k hkl
      obtain ⟨tg, tc, rfl, htc, _, _⟩ := own_cell hT6.own hkl hty
      have HTG : Hid (TG w5 w6.drew (.slice (some ⟨tg, 0, none⟩) l.length tc) tys l) := hid (hT6.keep (bdrew w6 1))
      have B6 := hid (B5.out.trans (hT6.below.mono B5.out.size))
      have HLL := hid HP4.out.1
      have L6 := hid (HP4.out.1.keepW hT6.below)
      have LS : Hid (LL w6 w6.heap.size (.slice (some ⟨sg, 0, none⟩) l.length sc) (l.set k [])) := hid L6.out
      clear hT6 hty
      obtain ⟨lb, lo2, ao2, c2, hao, hlb, hcl0, hrd0⟩ := HL.out.row hkl
      subst hao
      have HRDD : Hid (Rd w6.drew W.heap.size (.slice ao2 (l.getD k []).length c2) (l.getD k [])) := hid (hrd0.keep (B6.out.trans ((bdrew w6 1).mono B6.out.size)))
      have hck : w6.drew.cell? ⟨lb, lo2 + k, none⟩ = some (.slice ao2 (l.getD k []).length c2) := (B6.out.cell (p := ⟨lb, lo2 + k, none⟩) hlb).trans hcl0
      have HSZ : Hid (W.heap.size ≤ w6.drew.heap.size) := hid B6.out.size
      have HLBS : Hid (lb < w6.drew.heap.size) := hid (Nat.lt_of_lt_of_le hlb B6.out.size)
      have HNE : Hid (lb ≠ tg) := hid (by have := (own_lo HTG.out.own tg rfl).1; have := B5.out.size; omega)
      have hrl : (l.getD k []).length ≤ 3000 := HRW.out k hkl
      have HGD := hid (rfl : l.getD k [] = l.getD k [])
      generalize hrr : l.getD k [] = r at HRDD hck hrl
      have HRR := hid hrr
      clear hcl0 hrd0 hrr HGD
      go_wp2_with (fail)
      refine wp_region_held_drew (S := fun V => V.cell? ⟨lb, lo2 + k, none⟩ = some (.slice ao2 r.length c2)) (by kernel_rfl) ?_ (fun hHeld => ?_)
      · exact hck
      refine wpAnyH_take (i := 0) (oi := { dst := some 43, op := Go.Op.move (Go.Operand.tmp 9), type := 22, pos := _, after := #[], guard := none }) (v := ?_) rfl (by kernel_rfl) (by kernel_rfl) (by kernel_rfl) (fun _ _ _ h => h) (Or.inl ⟨by rfl, ?_⟩) (by assumption) ?_
      rotate_left
      · intro w hSw; (try dsimp only at hSw); go_simp <;> first | with_reducible rfl | (rw [if_neg (by omega)])
      simp only [Act.put, List.setIfInBounds_toArray, List.set_cons_zero, List.set_cons_succ]
      refine wpAnyH_take (i := 1) (oi := { dst := some 44, op := Go.Op.move (Go.Operand.tmp 7), type := 3, pos := _, after := #[], guard := none }) (v := ?_) rfl (by kernel_rfl) (by kernel_rfl) (by kernel_rfl) (fun _ _ _ h => h) (Or.inl ⟨by rfl, ?_⟩) (by assumption) ?_
      rotate_left
      · intro w hSw; (try dsimp only at hSw); go_simp <;> first | with_reducible rfl | (rw [if_neg (by omega)])
      simp only [Act.put, List.setIfInBounds_toArray, List.set_cons_zero, List.set_cons_succ]
      refine wpAnyH_take (i := 2) (oi := { dst := some 45, op := Go.Op.move (Go.Operand.tmp 0), type := 22, pos := _, after := #[], guard := none }) (v := ?_) rfl (by kernel_rfl) (by kernel_rfl) (by kernel_rfl) (fun _ _ _ h => h) (Or.inl ⟨by rfl, ?_⟩) (by assumption) ?_
      rotate_left
      · intro w hSw; (try dsimp only at hSw); go_simp <;> first | with_reducible rfl | (rw [if_neg (by omega)])
      simp only [Act.put, List.setIfInBounds_toArray, List.set_cons_zero, List.set_cons_succ]
      refine wpAnyH_take (i := 3) (oi := { dst := some 46, op := Go.Op.move (Go.Operand.tmp 7), type := 3, pos := _, after := #[], guard := none }) (v := ?_) rfl (by kernel_rfl) (by kernel_rfl) (by kernel_rfl) (fun _ _ _ h => h) (Or.inl ⟨by rfl, ?_⟩) (by assumption) ?_
      rotate_left
      · intro w hSw; (try dsimp only at hSw); go_simp <;> first | with_reducible rfl | (rw [if_neg (by omega)])
      simp only [Act.put, List.setIfInBounds_toArray, List.set_cons_zero, List.set_cons_succ]
      refine wpAnyH_take (i := 4) (oi := { dst := some 47, op := Go.Op.indexAddr 22 (Go.Operand.tmp 45) (Go.Operand.tmp 46), type := 0, pos := _, after := #[{ on := 2, ground := Go.Ground.data }, { on := 3, ground := Go.Ground.data }], guard := none }) (v := ?_) rfl (by kernel_rfl) (by kernel_rfl) (by kernel_rfl) (fun _ _ _ h => h) (Or.inl ⟨by rfl, ?_⟩) (by assumption) ?_
      rotate_left
      · intro w hSw; (try dsimp only at hSw); go_simp <;> first | with_reducible rfl | (rw [if_neg (by omega)])
      simp only [Act.put, List.setIfInBounds_toArray, List.set_cons_zero, List.set_cons_succ]
      refine wpAnyH_take (i := 5) (oi := { dst := some 48, op := Go.Op.load 25 (Go.Operand.tmp 47), type := 25, pos := _, after := #[{ on := 4, ground := Go.Ground.data }], guard := none }) (v := ?_) rfl (by kernel_rfl) (by kernel_rfl) (by kernel_rfl) (fun _ _ _ h => h) (Or.inl ⟨by rfl, ?_⟩) (by assumption) ?_
      rotate_left
      · intro w hSw; (try dsimp only at hSw); go_simp <;> first | with_reducible rfl | (rw [if_neg (by omega)])
      simp only [Act.put, List.setIfInBounds_toArray, List.set_cons_zero, List.set_cons_succ]
      refine wpAnyH_take (i := 7) (oi := { dst := some 50, op := Go.Op.move (Go.Operand.tmp 0), type := 22, pos := _, after := #[], guard := none }) (v := ?_) rfl (by kernel_rfl) (by kernel_rfl) (by kernel_rfl) (fun _ _ _ h => h) (Or.inl ⟨by rfl, ?_⟩) (by assumption) ?_
      rotate_left
      · intro w hSw; (try dsimp only at hSw); go_simp <;> first | with_reducible rfl | (rw [if_neg (by omega)])
      simp only [Act.put, List.setIfInBounds_toArray, List.set_cons_zero, List.set_cons_succ]
      refine wpAnyH_take (i := 8) (oi := { dst := some 51, op := Go.Op.move (Go.Operand.tmp 7), type := 3, pos := _, after := #[], guard := none }) (v := ?_) rfl (by kernel_rfl) (by kernel_rfl) (by kernel_rfl) (fun _ _ _ h => h) (Or.inl ⟨by rfl, ?_⟩) (by assumption) ?_
      rotate_left
      · intro w hSw; (try dsimp only at hSw); go_simp <;> first | with_reducible rfl | (rw [if_neg (by omega)])
      simp only [Act.put, List.setIfInBounds_toArray, List.set_cons_zero, List.set_cons_succ]
      refine wpAnyH_take (i := 9) (oi := { dst := some 52, op := Go.Op.indexAddr 22 (Go.Operand.tmp 50) (Go.Operand.tmp 51), type := 0, pos := _, after := #[{ on := 7, ground := Go.Ground.data }, { on := 8, ground := Go.Ground.data }], guard := none }) (v := ?_) rfl (by kernel_rfl) (by kernel_rfl) (by kernel_rfl) (fun _ _ _ h => h) (Or.inl ⟨by rfl, ?_⟩) (by assumption) ?_
      rotate_left
      · intro w hSw; (try dsimp only at hSw); go_simp <;> first | with_reducible rfl | (rw [if_neg (by omega)])
      simp only [Act.put, List.setIfInBounds_toArray, List.set_cons_zero, List.set_cons_succ]
      refine wpAnyH_take (i := 10) (oi := { dst := some 53, op := Go.Op.load 25 (Go.Operand.tmp 52), type := 25, pos := _, after := #[{ on := 9, ground := Go.Ground.data }], guard := none }) (v := ?_) rfl (by kernel_rfl) (by kernel_rfl) (by kernel_rfl) (fun _ _ _ h => h) (Or.inl ⟨by rfl, ?_⟩) (by assumption) ?_
      rotate_left
      · intro w hSw; (try dsimp only at hSw); go_simp <;> first | with_reducible rfl | (rw [if_neg (by omega)])
      simp only [Act.put, List.setIfInBounds_toArray, List.set_cons_zero, List.set_cons_succ]
      refine wpAnyH_ready (rs := [6]) (by kernel_rfl) (by simp) ?_
      refine AllReadyH.cons (o := { dst := some 49, op := Go.Op.call { callee := Go.Callee.builtin Go.Builtin.append, args := #[Go.Operand.const (Go.Value.slice none 0 0), Go.Operand.tmp 48], argTypes := #[25, 25] }, type := 25, pos := _, after := #[{ on := 5, ground := Go.Ground.data }], guard := none }) rfl (fun K hK => ?_) AllReadyH.nil
      refine if_take (by rfl) ?_
      refine wp_append_rd (.const (.slice none 0 0)) (.tmp 48) rfl W.heap.size W.heap.size (.slice none 0 0) [] rfl (Row.none0 _ _) ao2 c2 r rfl HRDD.out (by simp) (by omega) HSZ.out ?_
      intro v1 wa hR1 hg1 hat1
      have hba : Below w6.drew.heap.size w6.drew wa := (Below.refl _ _).grown hg1 (Nat.le_refl _) (fun j e => by cases e)
      refine hK.out _ _ ?_ (fun hHeld1 => ?_)
      · exact (hba.cell (p := ⟨lb, lo2 + k, none⟩) HLBS.out).trans hck
      clear hK K
      (try simp only [Act.put, List.setIfInBounds_toArray, List.set_cons_zero, List.set_cons_succ])
      refine wpAnyH_ready (rs := [11]) (by kernel_rfl) (by simp) ?_
      refine AllReadyH.cons (o := { dst := some 54, op := Go.Op.call { callee := Go.Callee.builtin Go.Builtin.append, args := #[Go.Operand.tmp 49, Go.Operand.tmp 53], argTypes := #[25, 25] }, type := 25, pos := _, after := #[{ on := 6, ground := Go.Ground.data }, { on := 10, ground := Go.Ground.data }, { on := 6, ground := Go.Ground.chain }], guard := none }) rfl (fun K hK => ?_) AllReadyH.nil
      refine if_take (by rfl) ?_
      refine wp_append_rd (.tmp 49) (.tmp 53) rfl W.heap.size W.heap.size v1 ([] ++ r) rfl hR1 ao2 c2 r rfl (HRDD.out.keep (hba.mono HSZ.out)) (by simpa using (by omega : r.length ≤ 1048576)) (by omega) (Nat.le_trans HSZ.out hba.size) ?_
      intro v2 wb hR2 hg2 hat2
      have HFN := hid (les_done HTG.out hba hg2 hat1)
      have HGA : Hid (wb.cell? ⟨lb, lo2 + k, none⟩ = some (.slice ao2 r.length c2)) := hid (((HFN.out.1).cell (p := ⟨lb, lo2 + k, none⟩) HLBS.out).trans hck)
      obtain ⟨v2a, v2c, hv2, hcut2⟩ := hR2.at
      clear hcut2
      have hv3 : v2 = .slice v2a (r.length + r.length) v2c := by rw [hv2]; simp
      clear hv2
      subst hv3
      have HR2 : Hid (Row wb W.heap.size (.slice v2a (r.length + r.length) v2c) (r ++ r)) := hid hR2
      have hcg := (HFN.out.2.cellG tg tc rfl hkl)
      refine hK.out _ _ ?_ (fun hHeld2 => ?_)
      · exact HGA.out
      clear hK K
      (try simp only [Act.put, List.setIfInBounds_toArray, List.set_cons_zero, List.set_cons_succ])
      refine wpAnyH_take (i := 12) (oi := { dst := some 55, op := Go.Op.indexAddr 22 (Go.Operand.tmp 43) (Go.Operand.tmp 44), type := 0, pos := _, after := #[{ on := 0, ground := Go.Ground.data }, { on := 1, ground := Go.Ground.data }, { on := 0, ground := Go.Ground.phase }, { on := 1, ground := Go.Ground.phase }, { on := 2, ground := Go.Ground.phase }, { on := 3, ground := Go.Ground.phase }, { on := 4, ground := Go.Ground.phase }, { on := 5, ground := Go.Ground.phase }, { on := 6, ground := Go.Ground.phase }, { on := 7, ground := Go.Ground.phase }, { on := 8, ground := Go.Ground.phase }, { on := 9, ground := Go.Ground.phase }, { on := 10, ground := Go.Ground.phase }, { on := 11, ground := Go.Ground.phase }], guard := none }) (v := ?_) rfl (by kernel_rfl) (by kernel_rfl) (by kernel_rfl) (fun _ _ _ h => h) (Or.inl ⟨by rfl, ?_⟩) (by assumption) ?_
      rotate_left
      · intro w hSw; (try dsimp only at hSw); go_simp <;> first | with_reducible rfl | (rw [if_neg (by omega)])
      simp only [Act.put, List.setIfInBounds_toArray, List.set_cons_zero, List.set_cons_succ]
      refine wpAnyH_ready (rs := [13]) (by kernel_rfl) (by simp) ?_
      refine AllReadyH.cons (o := { dst := none, op := Go.Op.store 25 (Go.Operand.tmp 55) (Go.Operand.tmp 54), type := 0, pos := _, after := #[{ on := 12, ground := Go.Ground.data }, { on := 11, ground := Go.Ground.data }, { on := 11, ground := Go.Ground.chain }, { on := 0, ground := Go.Ground.phase }, { on := 1, ground := Go.Ground.phase }, { on := 2, ground := Go.Ground.phase }, { on := 3, ground := Go.Ground.phase }, { on := 4, ground := Go.Ground.phase }, { on := 5, ground := Go.Ground.phase }, { on := 6, ground := Go.Ground.phase }, { on := 7, ground := Go.Ground.phase }, { on := 8, ground := Go.Ground.phase }, { on := 9, ground := Go.Ground.phase }, { on := 10, ground := Go.Ground.phase }, { on := 11, ground := Go.Ground.phase }], guard := none }) rfl (fun K hK => ?_) AllReadyH.nil
      obtain ⟨⟨ug, hcg1⟩, hcg2⟩ := hcg
      go_simp
      refine hK.out _ _ ?_ (fun hHeld3 => ?_)
      · exact (cell_of_heap (Below.heap_setCell _ _ _ _ HNE.out)).trans HGA.out
      clear hK K
      refine wpAnyH_done (by kernel_rfl) ?_ _
      have HR3 : Hid (Row (wb.setCell ⟨tg, k, none⟩ (.slice v2a (r.length + r.length) v2c)) W.heap.size (.slice v2a (r.length + r.length) v2c) (r ++ r)) := hid (HR2.out.carry (fun b hb => Below.heap_setCell _ _ _ _ (fun e => HFN.out.2.off2 HR2.out (g := tg) rfl (by rw [hb]; exact congrArg some e))))
      have hrr2 : (r ++ r).length ≤ 6000 := by rw [List.length_append]; omega
      have HP8 := hid (HFN.out.2.put (by omega) HR1.out rfl hkl (y := .slice v2a (r.length + r.length) v2c) (r := r ++ r) (HR3.out.rd (by omega)))
      have B8 := hid (B5.out.trans (HP8.out.2.mono B5.out.size))
      have HRX : Hid (Row (wb.setCell ⟨tg, k, none⟩ (.slice v2a (r.length + r.length) v2c)) w2.heap.size (.slice va (ofV l).fst.length vc) (ofV l).fst) := hid ((R3.out.below HP4.out.2).below HP8.out.2)
      have HLS := hid (HP4.out.1.keepW HP8.out.2)
      generalize (wb.setCell ⟨tg, k, none⟩ (.slice v2a (r.length + r.length) v2c)) = w8 at *
      go_wp2_with (fail)
      have HOL := hid (of_at w8 _ (l.set k []) (by have h1 := HLS.out; obtain ⟨ao', c', e1, h2⟩ := h1; exact ⟨ao', c', e1, h2⟩) (by rw [List.length_set]; omega))
      refine HOL.out.mono ?_
      rintro e w9 ⟨p9, rfl, hr9, hb9⟩
      have L9 := hid (HP8.out.1.keepW hb9)
      have B9 := hid (B8.out.trans (hb9.mono B8.out.size))
      have X9 := hid (HRX.out.below hb9)
      obtain ⟨p9a, p9c, rfl, hcut9⟩ := hr9.at
      clear hcut9 hr9 hb9
      go_wp2_with (fail)
      have HOT := hid (of_at w9 _ (l.set k (r ++ r)) L9.out (by rw [List.length_set]; omega))
      have HAL : Hid (ofV (l.set k (r ++ r)) = ofV l) := hid (ofV_alike (by rw [List.length_set]) (fun i hi y => by
        rw [set_row hkl]
        by_cases e : i = k
        · rw [if_pos e, e, HRR.out]; exact mem_twice r y
        · rw [if_neg e]))
      refine HOT.out.mono ?_
      rintro e w10 ⟨p10, rfl, hr10, hb10⟩
      rw [HAL.out] at hr10 ⊢
      obtain ⟨p10a, p10c, rfl, hcut10⟩ := hr10.at
      have hvl : (ofV l).1.length ≤ l.length := ofV_len l
      have Y10 := hid (hr10.rd (by omega))
      have X10 := hid ((X9.out.below hb10).rd (by omega))
      have B10 := hid (B9.out.trans (hb10.mono B9.out.size))
      clear hcut10 hr10 hb10
      have HFL : Hid ((ofV l).2 = 0 → (ofV (l.set k [])).2 = 0) := hid (fun h => ofV_less (by rw [List.length_set]) (fun i hi y hy => by
        rw [set_row hkl] at hy
        by_cases e : i = k
        · rw [if_pos e] at hy; simp at hy
        · rw [if_neg e] at hy; exact hy) h)
      generalize (ofV (l.set k [])).2 = f at *
      generalize (ofV (l.set k [])).1 = lx at *
      generalize (ofV l).1 = x at *
      generalize (ofV l).2 = er at *
      have ee : (er == er) = true := by simp
      go_wp2_with (fail)
      refine (same_at w10 _ _ _ _ x x Y10.out X10.out).mono ?_
      rintro e w11 ⟨rfl, q11, rfl⟩
      have D1 : decide (x = x) = true := by simp
      rw [D1]
      clear D1
      by_cases he : er = 0
      · have hf := HFL.out he
        have e1 : (er != 0) = false := by rw [he]; rfl
        have e2 : (f == 0) = true := by rw [hf]; rfl
        have HHF := hid hf
        clear he hf
        go_wp2_with (fail)
        go_ret
        exact ⟨rfl, B10.out.trans ((bdrew w10 q11).mono B10.out.size)⟩
      · have e1 : (er != 0) = true := by rw [bne_iff_ne]; exact he
        go_wp2_with (fail)
        go_ret
        exact ⟨rfl, B10.out.trans ((bdrew w10 q11).mono B10.out.size)⟩
end Go.Proofs.Ytdhjedpgdhageaa.Ord
