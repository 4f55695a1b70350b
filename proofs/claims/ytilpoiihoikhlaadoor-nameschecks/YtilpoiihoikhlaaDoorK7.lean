/-
  In a program that is checked each thing is found by its name: the walk of the law.
  The contracts of TwinIns and TwinTexts.
  The contract of TwinProg.
  A program's twin whose flows are exchanged one by one: what stands while that is done.
  A program without its outs, with a flow twice, without a flow: what stands while that is made.
-/
import Derived.Test.YtilpoiihoikhlaaDoorK6
import Derived.Test.YtilpoiihoikhlaaDoorK3
import Derived.Test.YtilpoiihoikhlaaDoorK5
import Derived.Deep.MidRow
import Derived.Deep.AppendLies
import Derived.Deep.RegionLaw
namespace Go.Proofs.YtilpoiihoikhlaaDoor.Lex
open Go.ChangeShapes Go.WideShapes Go.ChangeAt Go.RowKit Go.Shelf
/-- A program in its variable. -/
structure FV (w : World) (p : Pg) (A B C : Value) (W : World) : Prop where
  row : W.heap[w.heap.size]? = some (.cells (pgC p A B C) 26 (0, 0))
  P : PgAt W p A B C
  R : TabR W
  J : TabJ W
  below : Below w.heap.size w W
theorem FV.keep {w W W' : World} {p : Pg} {A B C : Value} (h : FV w p A B C W) (hb : Below W.heap.size W W') : FV w p A B C W' := ⟨keep_row h.row hb, h.P.keep hb, h.R.below hb, h.J.below hb, h.below.trans (hb.mono h.below.size)⟩
theorem FV.new {w : World} {p : Pg} {A B C : Value} (hP : PgAt w p A B C) (hR : TabR w) (hJ : TabJ w) : FV w p A B C (w.alloc (.cells (pgC p A B C) 26)) := by
  have hb := (Below.refl w.heap.size w).alloc (Nat.le_refl _) (.cells (pgC p A B C) 26)
  exact ⟨heap_alloc_new w _, hP.keep hb, hR.below hb, hJ.below hb, hb⟩
set_option maxRecDepth 100000 in
set_option maxHeartbeats 2000000 in
theorem walk4 (p : Pg) (w : World) (a b c : Value) (hP : PgAt w p a b c) (hR : TabR w) (hJ : TabJ w) : Calls Tryd.prog 4 #[pgV p a b c] w fun e w' => e = .returned (.bool true) ∧ Below w.heap.size w w' := by
  obtain ⟨a0, a1, rfl, hl1, _, _, hc1⟩ := hP.ins
  obtain ⟨b0, b1, sl, rfl, hl2, _, _, hc2, hs2⟩ := hP.flows
  obtain ⟨c0, c1, rfl, hl3, _, _, hc3⟩ := hP.outs
  have HC1 := hid hc1
  have HC2 := hid hc2
  have HC3 := hid hc3
  have HS2 := hid hs2
  have fv0 := hid (FV.new hP hR hJ)
  clear hP hR hJ hc1 hc2 hc3 hs2
  go_enter Tryd.func4, Tryd.ntmps4
  go_wp2_with (fail)
  refine (alive _ fv0.out.R fv0.out.J).mono ?_
  rintro e w1 ⟨rfl, hb1⟩
  have fv1 := fv0.out.keep hb1
  obtain ⟨p0, p1, p2, p3⟩ := row4 fv1.row
  have F1 := hid fv1
  clear fv1 hb1 fv0
  go_wp2_with (fail)
  refine (great p _ _ _ _ F1.out.P).mono ?_
  rintro e w2 ⟨⟨g, rfl, hg⟩, hb2⟩
  have fv2 := F1.out.keep hb2
  clear p0 p1 p2 p3
  obtain ⟨p0, p1, p2, p3⟩ := row4 fv2.row
  have F2 := hid fv2
  have HG := hid hg
  clear fv2 hb2 F1 hg
  cases g with
  | true =>
    go_wp2_with (fail)
    refine (alive _ F2.out.R F2.out.J).mono ?_
    rintro e w3 ⟨rfl, hb3⟩
    have hB := (F2.out.keep hb3).below
    go_wp2_with (fail)
    go_ret
    exact ⟨rfl, hB⟩
  | false =>
    go_wp2_with (fail)
    refine ((callsIn_wide (n := 20)).1 (names_check p _ _ _ _ F2.out.P F2.out.R F2.out.J)).mono ?_
    rintro e w3 ⟨rfl, hb3⟩
    have fv3 := F2.out.keep hb3
    clear p0 p1 p2 p3
    have F3 := hid fv3
    clear fv3 hb3 F2
    by_cases he : nmErr p = 0
    · have HN := hid (nmErr_zero he).2
      have hk : pgOk p = true := (nmErr_zero he).1
      have hrm : p.ins.length ≤ 64 ∧ p.flows.length ≤ 128 ∧ p.outs.length ≤ p.ins.length + p.flows.length := by
        unfold pgOk roomOk at hk
        simp only [Bool.and_eq_true, decide_eq_true_eq] at hk
        exact hk.1.2
      have HCK := hid (pgOk_chk hk)
      clear hk
      rw [he]
      clear he
      go_wp2_with (fail)
      go_loopw [3] (fun i wr => ∃ k : Nat, k ≤ p.ins.length ∧ i = .int .i64 (k : Int) ∧ Hid (FV w p (.slice a0 p.ins.length a1) (.slice b0 p.flows.length b1) (.slice c0 p.outs.length c1) wr)) (fun i _ => p.ins.length - (intOf i).toNat)
      case atStart => exact ⟨0, Nat.zero_le _, rfl, F3⟩
      case round =>
        obtain ⟨k, hk, rfl, hF⟩ := hrel
        have fv := hF.out
        obtain ⟨s0, s1, s2, s3⟩ := row4 fv.row
        by_cases hlt : k < p.ins.length
        · have hlt' : (k : Int) < (p.ins.length : Int) := by omega
          have hk0 : (0 : Int) ≤ (k : Int) := by omega
          obtain ⟨bb, o, rfl, hcc⟩ := HC1.out.resolve_left (by omega)
          obtain ⟨s4, s5, s6⟩ := (hcc k hlt).keep fv.below
          have c14 := find p p.ins[k].name _ _ _ _ (fv.P.keep (Below.refl _ _).drew)
          rw [find_in_ok HN.out k hlt] at c14
          dsimp only [foV] at c14
          clear hcc fv
          generalize p.ins[k] = y at *
          go_wp2_with (fail)
          refine wp_region_held_drew (S := fun W => W.cell? ⟨w.heap.size, 0, none⟩ = some (.int .i64 p.st) ∧ W.cell? ⟨w.heap.size, 1, none⟩ = some (.slice (some ⟨bb, o, none⟩) p.ins.length a1) ∧ W.cell? ⟨w.heap.size, 2, none⟩ = some (.slice b0 p.flows.length b1) ∧ W.cell? ⟨w.heap.size, 3, none⟩ = some (.slice c0 p.outs.length c1) ∧ W.cell? ⟨bb, o + k * 3, none⟩ = some (.string y.name) ∧ W.cell? ⟨bb, o + k * 3 + 1, none⟩ = some (.int .u8 (y.ty : Int)) ∧ W.cell? ⟨bb, o + k * 3 + 2, none⟩ = some (.int .i64 y.st)) (by kernel_rfl) ?_ (fun hHeld => ?_)
          · exact ⟨s0, s1, s2, s3, s4, s5, s6⟩
          refine wpAnyH_take (i := 0) (oi := { dst := some 44, op := Go.Op.load 26 (Go.Operand.tmp 1), type := 26, pos := _, after := #[], guard := none }) (v := ?_) rfl (by kernel_rfl) (by kernel_rfl) (by kernel_rfl) (fun _ _ _ h => h) (Or.inl ⟨by rfl, ?_⟩) (by assumption) ?_
          rotate_left
          · intro w hSw; (try dsimp only at hSw); go_simp <;> first | with_reducible rfl | (rw [if_neg (by first | omega | (simp only [ByteArray.size_append] at *; omega))])
          simp only [Act.put, List.setIfInBounds_toArray, List.set_cons_zero, List.set_cons_succ]
          refine wpAnyH_take (i := 1) (oi := { dst := some 45, op := Go.Op.fieldAddr 26 (Go.Operand.tmp 1) 1, type := 0, pos := _, after := #[], guard := none }) (v := ?_) rfl (by kernel_rfl) (by kernel_rfl) (by kernel_rfl) (fun _ _ _ h => h) (Or.inl ⟨by rfl, ?_⟩) (by assumption) ?_
          rotate_left
          · intro w hSw; (try dsimp only at hSw); go_simp <;> first | with_reducible rfl | (rw [if_neg (by first | omega | (simp only [ByteArray.size_append] at *; omega))])
          simp only [Act.put, List.setIfInBounds_toArray, List.set_cons_zero, List.set_cons_succ]
          refine wpAnyH_take (i := 2) (oi := { dst := some 46, op := Go.Op.load 22 (Go.Operand.tmp 45), type := 22, pos := _, after := #[{ on := 1, ground := Go.Ground.data }], guard := none }) (v := ?_) rfl (by kernel_rfl) (by kernel_rfl) (by kernel_rfl) (fun _ _ _ h => h) (Or.inl ⟨by rfl, ?_⟩) (by assumption) ?_
          rotate_left
          · intro w hSw; (try dsimp only at hSw); go_simp <;> first | with_reducible rfl | (rw [if_neg (by first | omega | (simp only [ByteArray.size_append] at *; omega))])
          simp only [Act.put, List.setIfInBounds_toArray, List.set_cons_zero, List.set_cons_succ]
          refine wpAnyH_take (i := 3) (oi := { dst := some 47, op := Go.Op.move (Go.Operand.tmp 3), type := 3, pos := _, after := #[], guard := none }) (v := ?_) rfl (by kernel_rfl) (by kernel_rfl) (by kernel_rfl) (fun _ _ _ h => h) (Or.inl ⟨by rfl, ?_⟩) (by assumption) ?_
          rotate_left
          · intro w hSw; (try dsimp only at hSw); go_simp <;> first | with_reducible rfl | (rw [if_neg (by first | omega | (simp only [ByteArray.size_append] at *; omega))])
          simp only [Act.put, List.setIfInBounds_toArray, List.set_cons_zero, List.set_cons_succ]
          refine wpAnyH_take (i := 4) (oi := { dst := some 48, op := Go.Op.indexAddr 22 (Go.Operand.tmp 46) (Go.Operand.tmp 47), type := 0, pos := _, after := #[{ on := 2, ground := Go.Ground.data }, { on := 3, ground := Go.Ground.data }], guard := none }) (v := ?_) rfl (by kernel_rfl) (by kernel_rfl) (by kernel_rfl) (fun _ _ _ h => h) (Or.inl ⟨by rfl, ?_⟩) (by assumption) ?_
          rotate_left
          · intro w hSw; (try dsimp only at hSw); go_simp <;> first | with_reducible rfl | (rw [if_neg (by first | omega | (simp only [ByteArray.size_append] at *; omega))])
          simp only [Act.put, List.setIfInBounds_toArray, List.set_cons_zero, List.set_cons_succ]
          refine wpAnyH_take (i := 5) (oi := { dst := some 49, op := Go.Op.fieldAddr 37 (Go.Operand.tmp 48) 0, type := 0, pos := _, after := #[{ on := 4, ground := Go.Ground.data }], guard := none }) (v := ?_) rfl (by kernel_rfl) (by kernel_rfl) (by kernel_rfl) (fun _ _ _ h => h) (Or.inl ⟨by rfl, ?_⟩) (by assumption) ?_
          rotate_left
          · intro w hSw; (try dsimp only at hSw); go_simp <;> first | with_reducible rfl | (rw [if_neg (by first | omega | (simp only [ByteArray.size_append] at *; omega))])
          simp only [Act.put, List.setIfInBounds_toArray, List.set_cons_zero, List.set_cons_succ]
          refine wpAnyH_take (i := 6) (oi := { dst := some 50, op := Go.Op.load 9 (Go.Operand.tmp 49), type := 9, pos := _, after := #[{ on := 5, ground := Go.Ground.data }], guard := none }) (v := ?_) rfl (by kernel_rfl) (by kernel_rfl) (by kernel_rfl) (fun _ _ _ h => h) (Or.inl ⟨by rfl, ?_⟩) (by assumption) ?_
          rotate_left
          · intro w hSw; (try dsimp only at hSw); go_simp <;> first | with_reducible rfl | (rw [if_neg (by first | omega | (simp only [ByteArray.size_append] at *; omega))])
          simp only [Act.put, List.setIfInBounds_toArray, List.set_cons_zero, List.set_cons_succ]
          refine wpAnyH_ready (rs := [7]) (by kernel_rfl) (by simp) ?_
          refine AllReadyH.cons (o := { dst := some 51, op := Go.Op.call { callee := Go.Callee.value (Go.Operand.func 14), args := #[Go.Operand.tmp 44, Go.Operand.tmp 50], argTypes := #[26, 9] }, type := 34, pos := _, after := #[{ on := 0, ground := Go.Ground.data }, { on := 6, ground := Go.Ground.data }], guard := none }) rfl (fun K hK => ?_) AllReadyH.nil
          go_simp
          refine c14.mono ?_
          rintro e w4 ⟨rfl, hb4⟩
          have t0 := cell_kept (w := wr.drew) s0 hb4
          have t1 := cell_kept (w := wr.drew) s1 hb4
          have t2 := cell_kept (w := wr.drew) s2 hb4
          have t3 := cell_kept (w := wr.drew) s3 hb4
          have t4 := cell_kept (w := wr.drew) s4 hb4
          have t5 := cell_kept (w := wr.drew) s5 hb4
          have t6 := cell_kept (w := wr.drew) s6 hb4
          have HB4 := hid hb4
          go_wp2_with fail
          refine hK.out _ _ ?_ (fun hHeld1 => ?_)
          · exact ⟨t0, t1, t2, t3, t4, t5, t6⟩
          clear hK K
          refine wpAnyH_take (i := 8) (oi := { dst := some 43, op := Go.Op.move (Go.Operand.tmp 51), type := 34, pos := _, after := #[{ on := 7, ground := Go.Ground.data }], guard := none }) (v := ?_) rfl (by kernel_rfl) (by kernel_rfl) (by kernel_rfl) (fun _ _ _ h => h) (Or.inl ⟨by rfl, ?_⟩) (by assumption) ?_
          rotate_left
          · intro w hSw; (try dsimp only at hSw); go_simp <;> first | with_reducible rfl | (rw [if_neg (by first | omega | (simp only [ByteArray.size_append] at *; omega))])
          simp only [Act.put, List.setIfInBounds_toArray, List.set_cons_zero, List.set_cons_succ]
          refine wpAnyH_take (i := 9) (oi := { dst := some 52, op := Go.Op.extract (Go.Operand.tmp 43) 0, type := 3, pos := _, after := #[{ on := 8, ground := Go.Ground.data }], guard := none }) (v := ?_) rfl (by kernel_rfl) (by kernel_rfl) (by kernel_rfl) (fun _ _ _ h => h) (Or.inl ⟨by rfl, ?_⟩) (by assumption) ?_
          rotate_left
          · intro w hSw; (try dsimp only at hSw); go_simp <;> first | with_reducible rfl | (rw [if_neg (by first | omega | (simp only [ByteArray.size_append] at *; omega))])
          simp only [Act.put, List.setIfInBounds_toArray, List.set_cons_zero, List.set_cons_succ]
          refine wpAnyH_take (i := 10) (oi := { dst := some 53, op := Go.Op.extract (Go.Operand.tmp 43) 1, type := 33, pos := _, after := #[{ on := 8, ground := Go.Ground.data }, { on := 13, ground := Go.Ground.gcOnly Go.Departure.lateStores }], guard := none }) (v := ?_) rfl (by kernel_rfl) (by kernel_rfl) (by kernel_rfl) (fun _ _ _ h => h) (Or.inl ⟨by rfl, ?_⟩) (by assumption) ?_
          rotate_left
          · intro w hSw; (try dsimp only at hSw); go_simp <;> first | with_reducible rfl | (rw [if_neg (by first | omega | (simp only [ByteArray.size_append] at *; omega))])
          simp only [Act.put, List.setIfInBounds_toArray, List.set_cons_zero, List.set_cons_succ]
          refine wpAnyH_take (i := 11) (oi := { dst := some 54, op := Go.Op.extract (Go.Operand.tmp 43) 2, type := 3, pos := _, after := #[{ on := 8, ground := Go.Ground.data }, { on := 14, ground := Go.Ground.gcOnly Go.Departure.lateStores }], guard := none }) (v := ?_) rfl (by kernel_rfl) (by kernel_rfl) (by kernel_rfl) (fun _ _ _ h => h) (Or.inl ⟨by rfl, ?_⟩) (by assumption) ?_
          rotate_left
          · intro w hSw; (try dsimp only at hSw); go_simp <;> first | with_reducible rfl | (rw [if_neg (by first | omega | (simp only [ByteArray.size_append] at *; omega))])
          simp only [Act.put, List.setIfInBounds_toArray, List.set_cons_zero, List.set_cons_succ]
          refine wpAnyH_take (i := 12) (oi := { dst := some 55, op := Go.Op.extract (Go.Operand.tmp 43) 3, type := 4, pos := _, after := #[{ on := 8, ground := Go.Ground.data }, { on := 15, ground := Go.Ground.gcOnly Go.Departure.lateStores }], guard := none }) (v := ?_) rfl (by kernel_rfl) (by kernel_rfl) (by kernel_rfl) (fun _ _ _ h => h) (Or.inl ⟨by rfl, ?_⟩) (by assumption) ?_
          rotate_left
          · intro w hSw; (try dsimp only at hSw); go_simp <;> first | with_reducible rfl | (rw [if_neg (by first | omega | (simp only [ByteArray.size_append] at *; omega))])
          simp only [Act.put, List.setIfInBounds_toArray, List.set_cons_zero, List.set_cons_succ]
          refine wpAnyH_take (i := 13) (oi := { dst := some 4, op := Go.Op.assign (Go.Operand.tmp 52), type := 3, pos := _, after := #[{ on := 9, ground := Go.Ground.data }, { on := 7, ground := Go.Ground.chain }, { on := 0, ground := Go.Ground.phase }, { on := 1, ground := Go.Ground.phase }, { on := 2, ground := Go.Ground.phase }, { on := 3, ground := Go.Ground.phase }, { on := 4, ground := Go.Ground.phase }, { on := 5, ground := Go.Ground.phase }, { on := 6, ground := Go.Ground.phase }, { on := 7, ground := Go.Ground.phase }, { on := 8, ground := Go.Ground.phase }, { on := 9, ground := Go.Ground.phase }, { on := 10, ground := Go.Ground.textOnly Go.Departure.lateStores }, { on := 11, ground := Go.Ground.textOnly Go.Departure.lateStores }, { on := 12, ground := Go.Ground.textOnly Go.Departure.lateStores }], guard := none }) (v := ?_) rfl (by kernel_rfl) (by kernel_rfl) (by kernel_rfl) (fun _ _ _ h => h) (Or.inl ⟨by rfl, ?_⟩) (by assumption) ?_
          rotate_left
          · intro w hSw; (try dsimp only at hSw); go_simp <;> first | with_reducible rfl | (rw [if_neg (by first | omega | (simp only [ByteArray.size_append] at *; omega))])
          simp only [Act.put, List.setIfInBounds_toArray, List.set_cons_zero, List.set_cons_succ]
          refine wpAnyH_take (i := 14) (oi := { dst := some 5, op := Go.Op.assign (Go.Operand.tmp 53), type := 33, pos := _, after := #[{ on := 10, ground := Go.Ground.data }, { on := 13, ground := Go.Ground.chain }, { on := 0, ground := Go.Ground.phase }, { on := 1, ground := Go.Ground.phase }, { on := 2, ground := Go.Ground.phase }, { on := 3, ground := Go.Ground.phase }, { on := 4, ground := Go.Ground.phase }, { on := 5, ground := Go.Ground.phase }, { on := 6, ground := Go.Ground.phase }, { on := 7, ground := Go.Ground.phase }, { on := 8, ground := Go.Ground.phase }, { on := 9, ground := Go.Ground.phase }, { on := 10, ground := Go.Ground.phase }, { on := 11, ground := Go.Ground.textOnly Go.Departure.lateStores }, { on := 12, ground := Go.Ground.textOnly Go.Departure.lateStores }, { on := 13, ground := Go.Ground.phase }], guard := none }) (v := ?_) rfl (by kernel_rfl) (by kernel_rfl) (by kernel_rfl) (fun _ _ _ h => h) (Or.inl ⟨by rfl, ?_⟩) (by assumption) ?_
          rotate_left
          · intro w hSw; (try dsimp only at hSw); go_simp <;> first | with_reducible rfl | (rw [if_neg (by first | omega | (simp only [ByteArray.size_append] at *; omega))])
          simp only [Act.put, List.setIfInBounds_toArray, List.set_cons_zero, List.set_cons_succ]
          refine wpAnyH_take (i := 15) (oi := { dst := some 6, op := Go.Op.assign (Go.Operand.tmp 54), type := 3, pos := _, after := #[{ on := 11, ground := Go.Ground.data }, { on := 14, ground := Go.Ground.chain }, { on := 0, ground := Go.Ground.phase }, { on := 1, ground := Go.Ground.phase }, { on := 2, ground := Go.Ground.phase }, { on := 3, ground := Go.Ground.phase }, { on := 4, ground := Go.Ground.phase }, { on := 5, ground := Go.Ground.phase }, { on := 6, ground := Go.Ground.phase }, { on := 7, ground := Go.Ground.phase }, { on := 8, ground := Go.Ground.phase }, { on := 9, ground := Go.Ground.phase }, { on := 10, ground := Go.Ground.phase }, { on := 11, ground := Go.Ground.phase }, { on := 12, ground := Go.Ground.textOnly Go.Departure.lateStores }, { on := 13, ground := Go.Ground.phase }, { on := 14, ground := Go.Ground.phase }], guard := none }) (v := ?_) rfl (by kernel_rfl) (by kernel_rfl) (by kernel_rfl) (fun _ _ _ h => h) (Or.inl ⟨by rfl, ?_⟩) (by assumption) ?_
          rotate_left
          · intro w hSw; (try dsimp only at hSw); go_simp <;> first | with_reducible rfl | (rw [if_neg (by first | omega | (simp only [ByteArray.size_append] at *; omega))])
          simp only [Act.put, List.setIfInBounds_toArray, List.set_cons_zero, List.set_cons_succ]
          refine wpAnyH_take (i := 16) (oi := { dst := some 7, op := Go.Op.assign (Go.Operand.tmp 55), type := 4, pos := _, after := #[{ on := 12, ground := Go.Ground.data }, { on := 15, ground := Go.Ground.chain }, { on := 0, ground := Go.Ground.phase }, { on := 1, ground := Go.Ground.phase }, { on := 2, ground := Go.Ground.phase }, { on := 3, ground := Go.Ground.phase }, { on := 4, ground := Go.Ground.phase }, { on := 5, ground := Go.Ground.phase }, { on := 6, ground := Go.Ground.phase }, { on := 7, ground := Go.Ground.phase }, { on := 8, ground := Go.Ground.phase }, { on := 9, ground := Go.Ground.phase }, { on := 10, ground := Go.Ground.phase }, { on := 11, ground := Go.Ground.phase }, { on := 12, ground := Go.Ground.phase }, { on := 13, ground := Go.Ground.phase }, { on := 14, ground := Go.Ground.phase }, { on := 15, ground := Go.Ground.phase }], guard := none }) (v := ?_) rfl (by kernel_rfl) (by kernel_rfl) (by kernel_rfl) (fun _ _ _ h => h) (Or.inl ⟨by rfl, ?_⟩) (by assumption) ?_
          rotate_left
          · intro w hSw; (try dsimp only at hSw); go_simp <;> first | with_reducible rfl | (rw [if_neg (by first | omega | (simp only [ByteArray.size_append] at *; omega))])
          simp only [Act.put, List.setIfInBounds_toArray, List.set_cons_zero, List.set_cons_succ]
          refine wpAnyH_done (by kernel_rfl) ?_ _
          have hne1 : (y.st != y.st) = false := by simp
          have hne2 : ((y.ty : Int) != (y.ty : Int)) = false := by simp
          go_wp2_with (fail)
          go_roundw
          case rel => exact ⟨k + 1, by omega, by go_num, hid (hF.out.keep ((Below.refl _ _).drew.trans (HB4.out.mono (by simp))))⟩
          case measure => simp [intOf]; omega
        · have hlt' : ¬ (k : Int) < (p.ins.length : Int) := by omega
          clear fv
          go_wp2_with (fail)
          go_loopw [8] (fun i wr => ∃ k : Nat, k ≤ p.flows.length ∧ i = .int .i64 (k : Int) ∧ Hid (FV w p (.slice a0 p.ins.length a1) (.slice b0 p.flows.length b1) (.slice c0 p.outs.length c1) wr)) (fun i _ => p.flows.length - (intOf i).toNat)
          case atStart => exact ⟨0, Nat.zero_le _, rfl, hF⟩
          case round =>
            clear hk hlt hlt' s0 s1 s2 s3 hF
            obtain ⟨k, hk, rfl, hF⟩ := hrel
            have fv := hF.out
            obtain ⟨s0, s1, s2, s3⟩ := row4 fv.row
            by_cases hlt : k < p.flows.length
            · have hlt' : (k : Int) < (p.flows.length : Int) := by omega
              have hk0 : (0 : Int) ≤ (k : Int) := by omega
              obtain ⟨bb, o, rfl, hcc⟩ := HC2.out.resolve_left (by omega)
              have X := (hcc k hlt).keep fv.below
              have hSt := HS2.out k hlt
              obtain ⟨a3, c3, _, e3, _⟩ := (HS2.out k hlt).out
              rw [e3] at X hSt
              obtain ⟨s4, s5, s6, s7, s8, s9, s10, s11⟩ := X
              have c14 := find p p.flows[k].name _ _ _ _ (fv.P.keep (Below.refl _ _).drew)
              rw [find_flow_ok HN.out k hlt] at c14
              dsimp only [foV, Fl.hd] at c14
              have HAS := hid (fun m (hm : m < (gat 32 p.flows[k].body 0 []).length) => find_asked_ok HN.out (asked_mem hlt hm))
              have HNM := hid (chk_nm (HCK.out _ (List.getElem_mem hlt)))
              have HLL : Hid ((gat 32 p.flows[k].body 0 []).length ≤ 1000000) := hid (by have h1 := gat_len 32 p.flows[k].body 0 []; have h2 := HNM.out.2; simp at h1; omega)
              have HST := hid hSt
              clear hcc fv e3 hSt
              generalize p.flows[k] = y at *
              go_wp2_with (fail)
              refine wp_region_held_drew (S := fun W => W.cell? ⟨w.heap.size, 0, none⟩ = some (.int .i64 p.st) ∧ W.cell? ⟨w.heap.size, 1, none⟩ = some (.slice a0 p.ins.length a1) ∧ W.cell? ⟨w.heap.size, 2, none⟩ = some (.slice (some ⟨bb, o, none⟩) p.flows.length b1) ∧ W.cell? ⟨w.heap.size, 3, none⟩ = some (.slice c0 p.outs.length c1) ∧ W.cell? ⟨bb, o + k * 8, none⟩ = some (.string y.name) ∧ W.cell? ⟨bb, o + k * 8 + 1, none⟩ = some (.int .u8 (y.ty : Int)) ∧ W.cell? ⟨bb, o + k * 8 + 2, none⟩ = some (.int .i64 y.st) ∧ W.cell? ⟨bb, o + k * 8 + 3, none⟩ = some (.int .i64 y.df) ∧ W.cell? ⟨bb, o + k * 8 + 4, none⟩ = some (.int .u8 (y.body.op : Int)) ∧ W.cell? ⟨bb, o + k * 8 + 5, none⟩ = some (.int .i64 y.body.n) ∧ W.cell? ⟨bb, o + k * 8 + 6, none⟩ = some (.string y.body.name) ∧ W.cell? ⟨bb, o + k * 8 + 7, none⟩ = some (.slice a3 y.body.args.length c3)) (by kernel_rfl) ?_ (fun hHeld => ?_)
              · exact ⟨s0, s1, s2, s3, s4, s5, s6, s7, s8, s9, s10, s11⟩
              refine wpAnyH_take (i := 0) (oi := { dst := some 90, op := Go.Op.load 26 (Go.Operand.tmp 1), type := 26, pos := _, after := #[], guard := none }) (v := ?_) rfl (by kernel_rfl) (by kernel_rfl) (by kernel_rfl) (fun _ _ _ h => h) (Or.inl ⟨by rfl, ?_⟩) (by assumption) ?_
              rotate_left
              · intro w hSw; (try dsimp only at hSw); go_simp <;> first | with_reducible rfl | (rw [if_neg (by first | omega | (simp only [ByteArray.size_append] at *; omega))])
              simp only [Act.put, List.setIfInBounds_toArray, List.set_cons_zero, List.set_cons_succ]
              refine wpAnyH_take (i := 1) (oi := { dst := some 91, op := Go.Op.fieldAddr 26 (Go.Operand.tmp 1) 2, type := 0, pos := _, after := #[], guard := none }) (v := ?_) rfl (by kernel_rfl) (by kernel_rfl) (by kernel_rfl) (fun _ _ _ h => h) (Or.inl ⟨by rfl, ?_⟩) (by assumption) ?_
              rotate_left
              · intro w hSw; (try dsimp only at hSw); go_simp <;> first | with_reducible rfl | (rw [if_neg (by first | omega | (simp only [ByteArray.size_append] at *; omega))])
              simp only [Act.put, List.setIfInBounds_toArray, List.set_cons_zero, List.set_cons_succ]
              refine wpAnyH_take (i := 2) (oi := { dst := some 92, op := Go.Op.load 23 (Go.Operand.tmp 91), type := 23, pos := _, after := #[{ on := 1, ground := Go.Ground.data }], guard := none }) (v := ?_) rfl (by kernel_rfl) (by kernel_rfl) (by kernel_rfl) (fun _ _ _ h => h) (Or.inl ⟨by rfl, ?_⟩) (by assumption) ?_
              rotate_left
              · intro w hSw; (try dsimp only at hSw); go_simp <;> first | with_reducible rfl | (rw [if_neg (by first | omega | (simp only [ByteArray.size_append] at *; omega))])
              simp only [Act.put, List.setIfInBounds_toArray, List.set_cons_zero, List.set_cons_succ]
              refine wpAnyH_take (i := 3) (oi := { dst := some 93, op := Go.Op.move (Go.Operand.tmp 8), type := 3, pos := _, after := #[], guard := none }) (v := ?_) rfl (by kernel_rfl) (by kernel_rfl) (by kernel_rfl) (fun _ _ _ h => h) (Or.inl ⟨by rfl, ?_⟩) (by assumption) ?_
              rotate_left
              · intro w hSw; (try dsimp only at hSw); go_simp <;> first | with_reducible rfl | (rw [if_neg (by first | omega | (simp only [ByteArray.size_append] at *; omega))])
              simp only [Act.put, List.setIfInBounds_toArray, List.set_cons_zero, List.set_cons_succ]
              refine wpAnyH_take (i := 4) (oi := { dst := some 94, op := Go.Op.indexAddr 23 (Go.Operand.tmp 92) (Go.Operand.tmp 93), type := 0, pos := _, after := #[{ on := 2, ground := Go.Ground.data }, { on := 3, ground := Go.Ground.data }], guard := none }) (v := ?_) rfl (by kernel_rfl) (by kernel_rfl) (by kernel_rfl) (fun _ _ _ h => h) (Or.inl ⟨by rfl, ?_⟩) (by assumption) ?_
              rotate_left
              · intro w hSw; (try dsimp only at hSw); go_simp <;> first | with_reducible rfl | (rw [if_neg (by first | omega | (simp only [ByteArray.size_append] at *; omega))])
              simp only [Act.put, List.setIfInBounds_toArray, List.set_cons_zero, List.set_cons_succ]
              refine wpAnyH_take (i := 5) (oi := { dst := some 95, op := Go.Op.fieldAddr 43 (Go.Operand.tmp 94) 0, type := 0, pos := _, after := #[{ on := 4, ground := Go.Ground.data }], guard := none }) (v := ?_) rfl (by kernel_rfl) (by kernel_rfl) (by kernel_rfl) (fun _ _ _ h => h) (Or.inl ⟨by rfl, ?_⟩) (by assumption) ?_
              rotate_left
              · intro w hSw; (try dsimp only at hSw); go_simp <;> first | with_reducible rfl | (rw [if_neg (by first | omega | (simp only [ByteArray.size_append] at *; omega))])
              simp only [Act.put, List.setIfInBounds_toArray, List.set_cons_zero, List.set_cons_succ]
              refine wpAnyH_take (i := 6) (oi := { dst := some 96, op := Go.Op.load 9 (Go.Operand.tmp 95), type := 9, pos := _, after := #[{ on := 5, ground := Go.Ground.data }], guard := none }) (v := ?_) rfl (by kernel_rfl) (by kernel_rfl) (by kernel_rfl) (fun _ _ _ h => h) (Or.inl ⟨by rfl, ?_⟩) (by assumption) ?_
              rotate_left
              · intro w hSw; (try dsimp only at hSw); go_simp <;> first | with_reducible rfl | (rw [if_neg (by first | omega | (simp only [ByteArray.size_append] at *; omega))])
              simp only [Act.put, List.setIfInBounds_toArray, List.set_cons_zero, List.set_cons_succ]
              refine wpAnyH_ready (rs := [7]) (by kernel_rfl) (by simp) ?_
              refine AllReadyH.cons (o := { dst := some 97, op := Go.Op.call { callee := Go.Callee.value (Go.Operand.func 14), args := #[Go.Operand.tmp 90, Go.Operand.tmp 96], argTypes := #[26, 9] }, type := 34, pos := _, after := #[{ on := 0, ground := Go.Ground.data }, { on := 6, ground := Go.Ground.data }], guard := none }) rfl (fun K hK => ?_) AllReadyH.nil
              go_simp
              refine c14.mono ?_
              rintro e w4 ⟨rfl, hb4⟩
              have t0 := cell_kept (w := wr.drew) s0 hb4
              have t1 := cell_kept (w := wr.drew) s1 hb4
              have t2 := cell_kept (w := wr.drew) s2 hb4
              have t3 := cell_kept (w := wr.drew) s3 hb4
              have t4 := cell_kept (w := wr.drew) s4 hb4
              have t5 := cell_kept (w := wr.drew) s5 hb4
              have t6 := cell_kept (w := wr.drew) s6 hb4
              have t7 := cell_kept (w := wr.drew) s7 hb4
              have t8 := cell_kept (w := wr.drew) s8 hb4
              have t9 := cell_kept (w := wr.drew) s9 hb4
              have t10 := cell_kept (w := wr.drew) s10 hb4
              have t11 := cell_kept (w := wr.drew) s11 hb4
              have HB4 := hid hb4
              go_wp2_with fail
              refine hK.out _ _ ?_ (fun hHeld1 => ?_)
              · exact ⟨t0, t1, t2, t3, t4, t5, t6, t7, t8, t9, t10, t11⟩
              clear hK K
              refine wpAnyH_take (i := 8) (oi := { dst := some 89, op := Go.Op.move (Go.Operand.tmp 97), type := 34, pos := _, after := #[{ on := 7, ground := Go.Ground.data }], guard := none }) (v := ?_) rfl (by kernel_rfl) (by kernel_rfl) (by kernel_rfl) (fun _ _ _ h => h) (Or.inl ⟨by rfl, ?_⟩) (by assumption) ?_
              rotate_left
              · intro w hSw; (try dsimp only at hSw); go_simp <;> first | with_reducible rfl | (rw [if_neg (by first | omega | (simp only [ByteArray.size_append] at *; omega))])
              simp only [Act.put, List.setIfInBounds_toArray, List.set_cons_zero, List.set_cons_succ]
              refine wpAnyH_take (i := 9) (oi := { dst := some 98, op := Go.Op.extract (Go.Operand.tmp 89) 0, type := 3, pos := _, after := #[{ on := 8, ground := Go.Ground.data }], guard := none }) (v := ?_) rfl (by kernel_rfl) (by kernel_rfl) (by kernel_rfl) (fun _ _ _ h => h) (Or.inl ⟨by rfl, ?_⟩) (by assumption) ?_
              rotate_left
              · intro w hSw; (try dsimp only at hSw); go_simp <;> first | with_reducible rfl | (rw [if_neg (by first | omega | (simp only [ByteArray.size_append] at *; omega))])
              simp only [Act.put, List.setIfInBounds_toArray, List.set_cons_zero, List.set_cons_succ]
              refine wpAnyH_take (i := 10) (oi := { dst := some 99, op := Go.Op.extract (Go.Operand.tmp 89) 1, type := 33, pos := _, after := #[{ on := 8, ground := Go.Ground.data }, { on := 13, ground := Go.Ground.gcOnly Go.Departure.lateStores }], guard := none }) (v := ?_) rfl (by kernel_rfl) (by kernel_rfl) (by kernel_rfl) (fun _ _ _ h => h) (Or.inl ⟨by rfl, ?_⟩) (by assumption) ?_
              rotate_left
              · intro w hSw; (try dsimp only at hSw); go_simp <;> first | with_reducible rfl | (rw [if_neg (by first | omega | (simp only [ByteArray.size_append] at *; omega))])
              simp only [Act.put, List.setIfInBounds_toArray, List.set_cons_zero, List.set_cons_succ]
              refine wpAnyH_take (i := 11) (oi := { dst := some 100, op := Go.Op.extract (Go.Operand.tmp 89) 2, type := 3, pos := _, after := #[{ on := 8, ground := Go.Ground.data }, { on := 14, ground := Go.Ground.gcOnly Go.Departure.lateStores }], guard := none }) (v := ?_) rfl (by kernel_rfl) (by kernel_rfl) (by kernel_rfl) (fun _ _ _ h => h) (Or.inl ⟨by rfl, ?_⟩) (by assumption) ?_
              rotate_left
              · intro w hSw; (try dsimp only at hSw); go_simp <;> first | with_reducible rfl | (rw [if_neg (by first | omega | (simp only [ByteArray.size_append] at *; omega))])
              simp only [Act.put, List.setIfInBounds_toArray, List.set_cons_zero, List.set_cons_succ]
              refine wpAnyH_take (i := 12) (oi := { dst := some 101, op := Go.Op.extract (Go.Operand.tmp 89) 3, type := 4, pos := _, after := #[{ on := 8, ground := Go.Ground.data }, { on := 15, ground := Go.Ground.gcOnly Go.Departure.lateStores }], guard := none }) (v := ?_) rfl (by kernel_rfl) (by kernel_rfl) (by kernel_rfl) (fun _ _ _ h => h) (Or.inl ⟨by rfl, ?_⟩) (by assumption) ?_
              rotate_left
              · intro w hSw; (try dsimp only at hSw); go_simp <;> first | with_reducible rfl | (rw [if_neg (by first | omega | (simp only [ByteArray.size_append] at *; omega))])
              simp only [Act.put, List.setIfInBounds_toArray, List.set_cons_zero, List.set_cons_succ]
              refine wpAnyH_take (i := 13) (oi := { dst := some 9, op := Go.Op.assign (Go.Operand.tmp 98), type := 3, pos := _, after := #[{ on := 9, ground := Go.Ground.data }, { on := 7, ground := Go.Ground.chain }, { on := 0, ground := Go.Ground.phase }, { on := 1, ground := Go.Ground.phase }, { on := 2, ground := Go.Ground.phase }, { on := 3, ground := Go.Ground.phase }, { on := 4, ground := Go.Ground.phase }, { on := 5, ground := Go.Ground.phase }, { on := 6, ground := Go.Ground.phase }, { on := 7, ground := Go.Ground.phase }, { on := 8, ground := Go.Ground.phase }, { on := 9, ground := Go.Ground.phase }, { on := 10, ground := Go.Ground.textOnly Go.Departure.lateStores }, { on := 11, ground := Go.Ground.textOnly Go.Departure.lateStores }, { on := 12, ground := Go.Ground.textOnly Go.Departure.lateStores }], guard := none }) (v := ?_) rfl (by kernel_rfl) (by kernel_rfl) (by kernel_rfl) (fun _ _ _ h => h) (Or.inl ⟨by rfl, ?_⟩) (by assumption) ?_
              rotate_left
              · intro w hSw; (try dsimp only at hSw); go_simp <;> first | with_reducible rfl | (rw [if_neg (by first | omega | (simp only [ByteArray.size_append] at *; omega))])
              simp only [Act.put, List.setIfInBounds_toArray, List.set_cons_zero, List.set_cons_succ]
              refine wpAnyH_take (i := 14) (oi := { dst := some 10, op := Go.Op.assign (Go.Operand.tmp 99), type := 33, pos := _, after := #[{ on := 10, ground := Go.Ground.data }, { on := 13, ground := Go.Ground.chain }, { on := 0, ground := Go.Ground.phase }, { on := 1, ground := Go.Ground.phase }, { on := 2, ground := Go.Ground.phase }, { on := 3, ground := Go.Ground.phase }, { on := 4, ground := Go.Ground.phase }, { on := 5, ground := Go.Ground.phase }, { on := 6, ground := Go.Ground.phase }, { on := 7, ground := Go.Ground.phase }, { on := 8, ground := Go.Ground.phase }, { on := 9, ground := Go.Ground.phase }, { on := 10, ground := Go.Ground.phase }, { on := 11, ground := Go.Ground.textOnly Go.Departure.lateStores }, { on := 12, ground := Go.Ground.textOnly Go.Departure.lateStores }, { on := 13, ground := Go.Ground.phase }], guard := none }) (v := ?_) rfl (by kernel_rfl) (by kernel_rfl) (by kernel_rfl) (fun _ _ _ h => h) (Or.inl ⟨by rfl, ?_⟩) (by assumption) ?_
              rotate_left
              · intro w hSw; (try dsimp only at hSw); go_simp <;> first | with_reducible rfl | (rw [if_neg (by first | omega | (simp only [ByteArray.size_append] at *; omega))])
              simp only [Act.put, List.setIfInBounds_toArray, List.set_cons_zero, List.set_cons_succ]
              refine wpAnyH_take (i := 15) (oi := { dst := some 11, op := Go.Op.assign (Go.Operand.tmp 100), type := 3, pos := _, after := #[{ on := 11, ground := Go.Ground.data }, { on := 14, ground := Go.Ground.chain }, { on := 0, ground := Go.Ground.phase }, { on := 1, ground := Go.Ground.phase }, { on := 2, ground := Go.Ground.phase }, { on := 3, ground := Go.Ground.phase }, { on := 4, ground := Go.Ground.phase }, { on := 5, ground := Go.Ground.phase }, { on := 6, ground := Go.Ground.phase }, { on := 7, ground := Go.Ground.phase }, { on := 8, ground := Go.Ground.phase }, { on := 9, ground := Go.Ground.phase }, { on := 10, ground := Go.Ground.phase }, { on := 11, ground := Go.Ground.phase }, { on := 12, ground := Go.Ground.textOnly Go.Departure.lateStores }, { on := 13, ground := Go.Ground.phase }, { on := 14, ground := Go.Ground.phase }], guard := none }) (v := ?_) rfl (by kernel_rfl) (by kernel_rfl) (by kernel_rfl) (fun _ _ _ h => h) (Or.inl ⟨by rfl, ?_⟩) (by assumption) ?_
              rotate_left
              · intro w hSw; (try dsimp only at hSw); go_simp <;> first | with_reducible rfl | (rw [if_neg (by first | omega | (simp only [ByteArray.size_append] at *; omega))])
              simp only [Act.put, List.setIfInBounds_toArray, List.set_cons_zero, List.set_cons_succ]
              refine wpAnyH_take (i := 16) (oi := { dst := some 12, op := Go.Op.assign (Go.Operand.tmp 101), type := 4, pos := _, after := #[{ on := 12, ground := Go.Ground.data }, { on := 15, ground := Go.Ground.chain }, { on := 0, ground := Go.Ground.phase }, { on := 1, ground := Go.Ground.phase }, { on := 2, ground := Go.Ground.phase }, { on := 3, ground := Go.Ground.phase }, { on := 4, ground := Go.Ground.phase }, { on := 5, ground := Go.Ground.phase }, { on := 6, ground := Go.Ground.phase }, { on := 7, ground := Go.Ground.phase }, { on := 8, ground := Go.Ground.phase }, { on := 9, ground := Go.Ground.phase }, { on := 10, ground := Go.Ground.phase }, { on := 11, ground := Go.Ground.phase }, { on := 12, ground := Go.Ground.phase }, { on := 13, ground := Go.Ground.phase }, { on := 14, ground := Go.Ground.phase }, { on := 15, ground := Go.Ground.phase }], guard := none }) (v := ?_) rfl (by kernel_rfl) (by kernel_rfl) (by kernel_rfl) (fun _ _ _ h => h) (Or.inl ⟨by rfl, ?_⟩) (by assumption) ?_
              rotate_left
              · intro w hSw; (try dsimp only at hSw); go_simp <;> first | with_reducible rfl | (rw [if_neg (by first | omega | (simp only [ByteArray.size_append] at *; omega))])
              simp only [Act.put, List.setIfInBounds_toArray, List.set_cons_zero, List.set_cons_succ]
              refine wpAnyH_done (by kernel_rfl) ?_ _
              have hne1 : (y.st != y.st) = false := by simp
              have hne2 : ((y.ty : Int) != (y.ty : Int)) = false := by simp
              have hne3 : ((k : Int) != (k : Int)) = false := by simp
              have FW := hid (hF.out.keep ((Below.refl _ _).drew.trans (HB4.out.mono (by simp))))
              go_wp2_with (fail)
              refine (refs 32 y.body _ _ (HST.out.keep FW.out.below) HNM.out.1 (by omega) (by have := HNM.out.2; omega)).mono ?_
              rintro e w5 ⟨v, rfl, hrow, hb5⟩
              obtain ⟨ao, cap, rfl, hrf⟩ := RfAt.of_own hrow
              have F5 := hid (FW.out.keep hb5)
              have HRF := hid hrf
              have hLl := HLL.out
              generalize gat 32 y.body 0 [] = L at *
              clear hrow hrf hb5 t0 t1 t2 t3 t4 t5 t6 t7 t8 t9 t10 t11 s0 s1 s2 s3 s4 s5 s6 s7 s8 s9 s10 s11 hne1 hne2 hne3
              go_wp2_with (fail)
              go_loopw [14] (fun i wr => ∃ m : Nat, m ≤ L.length ∧ i = .int .i64 (m : Int) ∧ Hid (Below w5.heap.size w5 wr)) (fun i _ => L.length - (intOf i).toNat)
              case atStart => exact ⟨0, Nat.zero_le _, rfl, hid (Below.refl _ _)⟩
              case round =>
                obtain ⟨m, hm, rfl, hB⟩ := hrel
                have fv := F5.out.keep hB.out
                by_cases hml : m < L.length
                · have hml' : (m : Int) < (L.length : Int) := by omega
                  have hm0 : (0 : Int) ≤ (m : Int) := by omega
                  obtain ⟨gb, rfl, hcc⟩ := HRF.out.resolve_left (by omega)
                  obtain ⟨q0, q1, q2, q3⟩ := row4 fv.row
                  have q4 := cell_kept (hcc m hml).1 hB.out
                  have q5 := cell_kept (hcc m hml).2 hB.out
                  have c14 := find p L[m].1 _ _ _ _ (fv.P.keep (Below.refl _ _).drew)
                  obtain ⟨x, hx⟩ := HAS.out m hml
                  rw [hx] at c14
                  dsimp only [foV] at c14
                  clear hcc fv hx HB4
                  generalize L[m] = z at *
                  go_wp2_with (fail)
                  refine wp_region_held_drew (S := fun W => W.cell? ⟨w.heap.size, 0, none⟩ = some (.int .i64 p.st) ∧ W.cell? ⟨w.heap.size, 1, none⟩ = some (.slice a0 p.ins.length a1) ∧ W.cell? ⟨w.heap.size, 2, none⟩ = some (.slice (some ⟨bb, o, none⟩) p.flows.length b1) ∧ W.cell? ⟨w.heap.size, 3, none⟩ = some (.slice c0 p.outs.length c1) ∧ W.cell? ⟨gb, m * 2, none⟩ = some (.string z.1) ∧ W.cell? ⟨gb, m * 2 + 1, none⟩ = some (.int .i64 (z.2 : Int))) (by kernel_rfl) ?_ (fun hHeld => ?_)
                  · exact ⟨q0, q1, q2, q3, q4, q5⟩
                  refine wpAnyH_take (i := 0) (oi := { dst := some 143, op := Go.Op.load 26 (Go.Operand.tmp 1), type := 26, pos := _, after := #[], guard := none }) (v := ?_) rfl (by kernel_rfl) (by kernel_rfl) (by kernel_rfl) (fun _ _ _ h => h) (Or.inl ⟨by rfl, ?_⟩) (by assumption) ?_
                  rotate_left
                  · intro w hSw; (try dsimp only at hSw); go_simp <;> first | with_reducible rfl | (rw [if_neg (by first | omega | (simp only [ByteArray.size_append] at *; omega))])
                  simp only [Act.put, List.setIfInBounds_toArray, List.set_cons_zero, List.set_cons_succ]
                  refine wpAnyH_take (i := 1) (oi := { dst := some 144, op := Go.Op.move (Go.Operand.tmp 13), type := 44, pos := _, after := #[], guard := none }) (v := ?_) rfl (by kernel_rfl) (by kernel_rfl) (by kernel_rfl) (fun _ _ _ h => h) (Or.inl ⟨by rfl, ?_⟩) (by assumption) ?_
                  rotate_left
                  · intro w hSw; (try dsimp only at hSw); go_simp <;> first | with_reducible rfl | (rw [if_neg (by first | omega | (simp only [ByteArray.size_append] at *; omega))])
                  simp only [Act.put, List.setIfInBounds_toArray, List.set_cons_zero, List.set_cons_succ]
                  refine wpAnyH_take (i := 2) (oi := { dst := some 145, op := Go.Op.move (Go.Operand.tmp 14), type := 3, pos := _, after := #[], guard := none }) (v := ?_) rfl (by kernel_rfl) (by kernel_rfl) (by kernel_rfl) (fun _ _ _ h => h) (Or.inl ⟨by rfl, ?_⟩) (by assumption) ?_
                  rotate_left
                  · intro w hSw; (try dsimp only at hSw); go_simp <;> first | with_reducible rfl | (rw [if_neg (by first | omega | (simp only [ByteArray.size_append] at *; omega))])
                  simp only [Act.put, List.setIfInBounds_toArray, List.set_cons_zero, List.set_cons_succ]
                  refine wpAnyH_take (i := 3) (oi := { dst := some 146, op := Go.Op.indexAddr 44 (Go.Operand.tmp 144) (Go.Operand.tmp 145), type := 0, pos := _, after := #[{ on := 1, ground := Go.Ground.data }, { on := 2, ground := Go.Ground.data }], guard := none }) (v := ?_) rfl (by kernel_rfl) (by kernel_rfl) (by kernel_rfl) (fun _ _ _ h => h) (Or.inl ⟨by rfl, ?_⟩) (by assumption) ?_
                  rotate_left
                  · intro w hSw; (try dsimp only at hSw); go_simp <;> first | with_reducible rfl | (rw [if_neg (by first | omega | (simp only [ByteArray.size_append] at *; omega))])
                  simp only [Act.put, List.setIfInBounds_toArray, List.set_cons_zero, List.set_cons_succ]
                  refine wpAnyH_take (i := 4) (oi := { dst := some 147, op := Go.Op.fieldAddr 47 (Go.Operand.tmp 146) 0, type := 0, pos := _, after := #[{ on := 3, ground := Go.Ground.data }], guard := none }) (v := ?_) rfl (by kernel_rfl) (by kernel_rfl) (by kernel_rfl) (fun _ _ _ h => h) (Or.inl ⟨by rfl, ?_⟩) (by assumption) ?_
                  rotate_left
                  · intro w hSw; (try dsimp only at hSw); go_simp <;> first | with_reducible rfl | (rw [if_neg (by first | omega | (simp only [ByteArray.size_append] at *; omega))])
                  simp only [Act.put, List.setIfInBounds_toArray, List.set_cons_zero, List.set_cons_succ]
                  refine wpAnyH_take (i := 5) (oi := { dst := some 148, op := Go.Op.load 9 (Go.Operand.tmp 147), type := 9, pos := _, after := #[{ on := 4, ground := Go.Ground.data }], guard := none }) (v := ?_) rfl (by kernel_rfl) (by kernel_rfl) (by kernel_rfl) (fun _ _ _ h => h) (Or.inl ⟨by rfl, ?_⟩) (by assumption) ?_
                  rotate_left
                  · intro w hSw; (try dsimp only at hSw); go_simp <;> first | with_reducible rfl | (rw [if_neg (by first | omega | (simp only [ByteArray.size_append] at *; omega))])
                  simp only [Act.put, List.setIfInBounds_toArray, List.set_cons_zero, List.set_cons_succ]
                  refine wpAnyH_ready (rs := [6]) (by kernel_rfl) (by simp) ?_
                  refine AllReadyH.cons (o := { dst := some 149, op := Go.Op.call { callee := Go.Callee.value (Go.Operand.func 14), args := #[Go.Operand.tmp 143, Go.Operand.tmp 148], argTypes := #[26, 9] }, type := 34, pos := _, after := #[{ on := 0, ground := Go.Ground.data }, { on := 5, ground := Go.Ground.data }], guard := none }) rfl (fun K hK => ?_) AllReadyH.nil
                  go_simp
                  refine c14.mono ?_
                  rintro e w4 ⟨rfl, hb4⟩
                  have r0 := cell_kept (w := wr.drew) q0 hb4
                  have r1 := cell_kept (w := wr.drew) q1 hb4
                  have r2 := cell_kept (w := wr.drew) q2 hb4
                  have r3 := cell_kept (w := wr.drew) q3 hb4
                  have r4 := cell_kept (w := wr.drew) q4 hb4
                  have r5 := cell_kept (w := wr.drew) q5 hb4
                  have HB4 := hid hb4
                  go_wp2_with fail
                  refine hK.out _ _ ?_ (fun hHeld1 => ?_)
                  · exact ⟨r0, r1, r2, r3, r4, r5⟩
                  clear hK K
                  refine wpAnyH_take (i := 7) (oi := { dst := some 142, op := Go.Op.move (Go.Operand.tmp 149), type := 34, pos := _, after := #[{ on := 6, ground := Go.Ground.data }], guard := none }) (v := ?_) rfl (by kernel_rfl) (by kernel_rfl) (by kernel_rfl) (fun _ _ _ h => h) (Or.inl ⟨by rfl, ?_⟩) (by assumption) ?_
                  rotate_left
                  · intro w hSw; (try dsimp only at hSw); go_simp <;> first | with_reducible rfl | (rw [if_neg (by first | omega | (simp only [ByteArray.size_append] at *; omega))])
                  simp only [Act.put, List.setIfInBounds_toArray, List.set_cons_zero, List.set_cons_succ]
                  refine wpAnyH_take (i := 8) (oi := { dst := some 150, op := Go.Op.extract (Go.Operand.tmp 142) 0, type := 3, pos := _, after := #[{ on := 7, ground := Go.Ground.data }], guard := none }) (v := ?_) rfl (by kernel_rfl) (by kernel_rfl) (by kernel_rfl) (fun _ _ _ h => h) (Or.inl ⟨by rfl, ?_⟩) (by assumption) ?_
                  rotate_left
                  · intro w hSw; (try dsimp only at hSw); go_simp <;> first | with_reducible rfl | (rw [if_neg (by first | omega | (simp only [ByteArray.size_append] at *; omega))])
                  simp only [Act.put, List.setIfInBounds_toArray, List.set_cons_zero, List.set_cons_succ]
                  refine wpAnyH_take (i := 9) (oi := { dst := some 151, op := Go.Op.extract (Go.Operand.tmp 142) 1, type := 33, pos := _, after := #[{ on := 7, ground := Go.Ground.data }, { on := 12, ground := Go.Ground.gcOnly Go.Departure.lateStores }], guard := none }) (v := ?_) rfl (by kernel_rfl) (by kernel_rfl) (by kernel_rfl) (fun _ _ _ h => h) (Or.inl ⟨by rfl, ?_⟩) (by assumption) ?_
                  rotate_left
                  · intro w hSw; (try dsimp only at hSw); go_simp <;> first | with_reducible rfl | (rw [if_neg (by first | omega | (simp only [ByteArray.size_append] at *; omega))])
                  simp only [Act.put, List.setIfInBounds_toArray, List.set_cons_zero, List.set_cons_succ]
                  refine wpAnyH_take (i := 10) (oi := { dst := some 152, op := Go.Op.extract (Go.Operand.tmp 142) 2, type := 3, pos := _, after := #[{ on := 7, ground := Go.Ground.data }, { on := 13, ground := Go.Ground.gcOnly Go.Departure.lateStores }], guard := none }) (v := ?_) rfl (by kernel_rfl) (by kernel_rfl) (by kernel_rfl) (fun _ _ _ h => h) (Or.inl ⟨by rfl, ?_⟩) (by assumption) ?_
                  rotate_left
                  · intro w hSw; (try dsimp only at hSw); go_simp <;> first | with_reducible rfl | (rw [if_neg (by first | omega | (simp only [ByteArray.size_append] at *; omega))])
                  simp only [Act.put, List.setIfInBounds_toArray, List.set_cons_zero, List.set_cons_succ]
                  refine wpAnyH_take (i := 11) (oi := { dst := some 153, op := Go.Op.extract (Go.Operand.tmp 142) 3, type := 4, pos := _, after := #[{ on := 7, ground := Go.Ground.data }, { on := 14, ground := Go.Ground.gcOnly Go.Departure.lateStores }], guard := none }) (v := ?_) rfl (by kernel_rfl) (by kernel_rfl) (by kernel_rfl) (fun _ _ _ h => h) (Or.inl ⟨by rfl, ?_⟩) (by assumption) ?_
                  rotate_left
                  · intro w hSw; (try dsimp only at hSw); go_simp <;> first | with_reducible rfl | (rw [if_neg (by first | omega | (simp only [ByteArray.size_append] at *; omega))])
                  simp only [Act.put, List.setIfInBounds_toArray, List.set_cons_zero, List.set_cons_succ]
                  refine wpAnyH_take (i := 12) (oi := { dst := some 15, op := Go.Op.assign (Go.Operand.tmp 150), type := 3, pos := _, after := #[{ on := 8, ground := Go.Ground.data }, { on := 6, ground := Go.Ground.chain }, { on := 0, ground := Go.Ground.phase }, { on := 1, ground := Go.Ground.phase }, { on := 2, ground := Go.Ground.phase }, { on := 3, ground := Go.Ground.phase }, { on := 4, ground := Go.Ground.phase }, { on := 5, ground := Go.Ground.phase }, { on := 6, ground := Go.Ground.phase }, { on := 7, ground := Go.Ground.phase }, { on := 8, ground := Go.Ground.phase }, { on := 9, ground := Go.Ground.textOnly Go.Departure.lateStores }, { on := 10, ground := Go.Ground.textOnly Go.Departure.lateStores }, { on := 11, ground := Go.Ground.textOnly Go.Departure.lateStores }], guard := none }) (v := ?_) rfl (by kernel_rfl) (by kernel_rfl) (by kernel_rfl) (fun _ _ _ h => h) (Or.inl ⟨by rfl, ?_⟩) (by assumption) ?_
                  rotate_left
                  · intro w hSw; (try dsimp only at hSw); go_simp <;> first | with_reducible rfl | (rw [if_neg (by first | omega | (simp only [ByteArray.size_append] at *; omega))])
                  simp only [Act.put, List.setIfInBounds_toArray, List.set_cons_zero, List.set_cons_succ]
                  refine wpAnyH_take (i := 13) (oi := { dst := some 16, op := Go.Op.assign (Go.Operand.tmp 151), type := 33, pos := _, after := #[{ on := 9, ground := Go.Ground.data }, { on := 12, ground := Go.Ground.chain }, { on := 0, ground := Go.Ground.phase }, { on := 1, ground := Go.Ground.phase }, { on := 2, ground := Go.Ground.phase }, { on := 3, ground := Go.Ground.phase }, { on := 4, ground := Go.Ground.phase }, { on := 5, ground := Go.Ground.phase }, { on := 6, ground := Go.Ground.phase }, { on := 7, ground := Go.Ground.phase }, { on := 8, ground := Go.Ground.phase }, { on := 9, ground := Go.Ground.phase }, { on := 10, ground := Go.Ground.textOnly Go.Departure.lateStores }, { on := 11, ground := Go.Ground.textOnly Go.Departure.lateStores }, { on := 12, ground := Go.Ground.phase }], guard := none }) (v := ?_) rfl (by kernel_rfl) (by kernel_rfl) (by kernel_rfl) (fun _ _ _ h => h) (Or.inl ⟨by rfl, ?_⟩) (by assumption) ?_
                  rotate_left
                  · intro w hSw; (try dsimp only at hSw); go_simp <;> first | with_reducible rfl | (rw [if_neg (by first | omega | (simp only [ByteArray.size_append] at *; omega))])
                  simp only [Act.put, List.setIfInBounds_toArray, List.set_cons_zero, List.set_cons_succ]
                  refine wpAnyH_take (i := 14) (oi := { dst := some 17, op := Go.Op.assign (Go.Operand.tmp 152), type := 3, pos := _, after := #[{ on := 10, ground := Go.Ground.data }, { on := 13, ground := Go.Ground.chain }, { on := 0, ground := Go.Ground.phase }, { on := 1, ground := Go.Ground.phase }, { on := 2, ground := Go.Ground.phase }, { on := 3, ground := Go.Ground.phase }, { on := 4, ground := Go.Ground.phase }, { on := 5, ground := Go.Ground.phase }, { on := 6, ground := Go.Ground.phase }, { on := 7, ground := Go.Ground.phase }, { on := 8, ground := Go.Ground.phase }, { on := 9, ground := Go.Ground.phase }, { on := 10, ground := Go.Ground.phase }, { on := 11, ground := Go.Ground.textOnly Go.Departure.lateStores }, { on := 12, ground := Go.Ground.phase }, { on := 13, ground := Go.Ground.phase }], guard := none }) (v := ?_) rfl (by kernel_rfl) (by kernel_rfl) (by kernel_rfl) (fun _ _ _ h => h) (Or.inl ⟨by rfl, ?_⟩) (by assumption) ?_
                  rotate_left
                  · intro w hSw; (try dsimp only at hSw); go_simp <;> first | with_reducible rfl | (rw [if_neg (by first | omega | (simp only [ByteArray.size_append] at *; omega))])
                  simp only [Act.put, List.setIfInBounds_toArray, List.set_cons_zero, List.set_cons_succ]
                  refine wpAnyH_take (i := 15) (oi := { dst := some 18, op := Go.Op.assign (Go.Operand.tmp 153), type := 4, pos := _, after := #[{ on := 11, ground := Go.Ground.data }, { on := 14, ground := Go.Ground.chain }, { on := 0, ground := Go.Ground.phase }, { on := 1, ground := Go.Ground.phase }, { on := 2, ground := Go.Ground.phase }, { on := 3, ground := Go.Ground.phase }, { on := 4, ground := Go.Ground.phase }, { on := 5, ground := Go.Ground.phase }, { on := 6, ground := Go.Ground.phase }, { on := 7, ground := Go.Ground.phase }, { on := 8, ground := Go.Ground.phase }, { on := 9, ground := Go.Ground.phase }, { on := 10, ground := Go.Ground.phase }, { on := 11, ground := Go.Ground.phase }, { on := 12, ground := Go.Ground.phase }, { on := 13, ground := Go.Ground.phase }, { on := 14, ground := Go.Ground.phase }], guard := none }) (v := ?_) rfl (by kernel_rfl) (by kernel_rfl) (by kernel_rfl) (fun _ _ _ h => h) (Or.inl ⟨by rfl, ?_⟩) (by assumption) ?_
                  rotate_left
                  · intro w hSw; (try dsimp only at hSw); go_simp <;> first | with_reducible rfl | (rw [if_neg (by first | omega | (simp only [ByteArray.size_append] at *; omega))])
                  simp only [Act.put, List.setIfInBounds_toArray, List.set_cons_zero, List.set_cons_succ]
                  refine wpAnyH_done (by kernel_rfl) ?_ _
                  go_wp2_with (fail)
                  go_roundw
                  case rel => exact ⟨m + 1, by omega, by go_num, hid (hB.out.trans (((Below.refl _ _).drew.trans (HB4.out.mono (by simp))).mono hB.out.size))⟩
                  case measure => simp [intOf]; omega
                · have hml' : ¬ (m : Int) < (L.length : Int) := by omega
                  go_wp2_with (fail)
                  go_roundw
                  case rel => exact ⟨k + 1, by omega, by go_num, hid fv⟩
                  case measure => simp [intOf]; omega
            · have hjl' : ¬ (k : Int) < (p.flows.length : Int) := by omega
              clear fv
              go_wp2_with (fail)
              go_loopw [19] (fun i wr => ∃ k : Nat, k ≤ p.outs.length ∧ i = .int .i64 (k : Int) ∧ Hid (FV w p (.slice a0 p.ins.length a1) (.slice b0 p.flows.length b1) (.slice c0 p.outs.length c1) wr)) (fun i _ => p.outs.length - (intOf i).toNat)
              case atStart => exact ⟨0, Nat.zero_le _, rfl, hF⟩
              case round =>
                clear hk hlt hjl' s0 s1 s2 s3 hF
                obtain ⟨k, hk, rfl, hF⟩ := hrel
                have fv := hF.out
                obtain ⟨s0, s1, s2, s3⟩ := row4 fv.row
                by_cases hlt : k < p.outs.length
                · have hlt' : (k : Int) < (p.outs.length : Int) := by omega
                  have hk0 : (0 : Int) ≤ (k : Int) := by omega
                  obtain ⟨bb, o, rfl, hcc⟩ := HC3.out.resolve_left (by omega)
                  have s4 := cell_kept (hcc k hlt) fv.below
                  have c14 := find p p.outs[k] _ _ _ _ (fv.P.keep (Below.refl _ _).drew)
                  obtain ⟨x, hx⟩ := find_out_ok HN.out (List.getElem_mem hlt)
                  rw [hx] at c14
                  dsimp only [foV] at c14
                  clear hcc fv hx
                  generalize p.outs[k] = y at *
                  go_wp2_with (fail)
                  refine wp_region_held_drew (S := fun W => W.cell? ⟨w.heap.size, 0, none⟩ = some (.int .i64 p.st) ∧ W.cell? ⟨w.heap.size, 1, none⟩ = some (.slice a0 p.ins.length a1) ∧ W.cell? ⟨w.heap.size, 2, none⟩ = some (.slice b0 p.flows.length b1) ∧ W.cell? ⟨w.heap.size, 3, none⟩ = some (.slice (some ⟨bb, o, none⟩) p.outs.length c1) ∧ W.cell? ⟨bb, o + k, none⟩ = some (.string y)) (by kernel_rfl) ?_ (fun hHeld => ?_)
                  · exact ⟨s0, s1, s2, s3, s4⟩
                  refine wpAnyH_take (i := 0) (oi := { dst := some 164, op := Go.Op.load 26 (Go.Operand.tmp 1), type := 26, pos := _, after := #[], guard := none }) (v := ?_) rfl (by kernel_rfl) (by kernel_rfl) (by kernel_rfl) (fun _ _ _ h => h) (Or.inl ⟨by rfl, ?_⟩) (by assumption) ?_
                  rotate_left
                  · intro w hSw; (try dsimp only at hSw); go_simp <;> first | with_reducible rfl | (rw [if_neg (by first | omega | (simp only [ByteArray.size_append] at *; omega))])
                  simp only [Act.put, List.setIfInBounds_toArray, List.set_cons_zero, List.set_cons_succ]
                  refine wpAnyH_take (i := 1) (oi := { dst := some 165, op := Go.Op.fieldAddr 26 (Go.Operand.tmp 1) 3, type := 0, pos := _, after := #[], guard := none }) (v := ?_) rfl (by kernel_rfl) (by kernel_rfl) (by kernel_rfl) (fun _ _ _ h => h) (Or.inl ⟨by rfl, ?_⟩) (by assumption) ?_
                  rotate_left
                  · intro w hSw; (try dsimp only at hSw); go_simp <;> first | with_reducible rfl | (rw [if_neg (by first | omega | (simp only [ByteArray.size_append] at *; omega))])
                  simp only [Act.put, List.setIfInBounds_toArray, List.set_cons_zero, List.set_cons_succ]
                  refine wpAnyH_take (i := 2) (oi := { dst := some 166, op := Go.Op.load 24 (Go.Operand.tmp 165), type := 24, pos := _, after := #[{ on := 1, ground := Go.Ground.data }], guard := none }) (v := ?_) rfl (by kernel_rfl) (by kernel_rfl) (by kernel_rfl) (fun _ _ _ h => h) (Or.inl ⟨by rfl, ?_⟩) (by assumption) ?_
                  rotate_left
                  · intro w hSw; (try dsimp only at hSw); go_simp <;> first | with_reducible rfl | (rw [if_neg (by first | omega | (simp only [ByteArray.size_append] at *; omega))])
                  simp only [Act.put, List.setIfInBounds_toArray, List.set_cons_zero, List.set_cons_succ]
                  refine wpAnyH_take (i := 3) (oi := { dst := some 167, op := Go.Op.move (Go.Operand.tmp 19), type := 3, pos := _, after := #[], guard := none }) (v := ?_) rfl (by kernel_rfl) (by kernel_rfl) (by kernel_rfl) (fun _ _ _ h => h) (Or.inl ⟨by rfl, ?_⟩) (by assumption) ?_
                  rotate_left
                  · intro w hSw; (try dsimp only at hSw); go_simp <;> first | with_reducible rfl | (rw [if_neg (by first | omega | (simp only [ByteArray.size_append] at *; omega))])
                  simp only [Act.put, List.setIfInBounds_toArray, List.set_cons_zero, List.set_cons_succ]
                  refine wpAnyH_take (i := 4) (oi := { dst := some 168, op := Go.Op.indexAddr 24 (Go.Operand.tmp 166) (Go.Operand.tmp 167), type := 0, pos := _, after := #[{ on := 2, ground := Go.Ground.data }, { on := 3, ground := Go.Ground.data }], guard := none }) (v := ?_) rfl (by kernel_rfl) (by kernel_rfl) (by kernel_rfl) (fun _ _ _ h => h) (Or.inl ⟨by rfl, ?_⟩) (by assumption) ?_
                  rotate_left
                  · intro w hSw; (try dsimp only at hSw); go_simp <;> first | with_reducible rfl | (rw [if_neg (by first | omega | (simp only [ByteArray.size_append] at *; omega))])
                  simp only [Act.put, List.setIfInBounds_toArray, List.set_cons_zero, List.set_cons_succ]
                  refine wpAnyH_take (i := 5) (oi := { dst := some 169, op := Go.Op.load 9 (Go.Operand.tmp 168), type := 9, pos := _, after := #[{ on := 4, ground := Go.Ground.data }], guard := none }) (v := ?_) rfl (by kernel_rfl) (by kernel_rfl) (by kernel_rfl) (fun _ _ _ h => h) (Or.inl ⟨by rfl, ?_⟩) (by assumption) ?_
                  rotate_left
                  · intro w hSw; (try dsimp only at hSw); go_simp <;> first | with_reducible rfl | (rw [if_neg (by first | omega | (simp only [ByteArray.size_append] at *; omega))])
                  simp only [Act.put, List.setIfInBounds_toArray, List.set_cons_zero, List.set_cons_succ]
                  refine wpAnyH_ready (rs := [6]) (by kernel_rfl) (by simp) ?_
                  refine AllReadyH.cons (o := { dst := some 170, op := Go.Op.call { callee := Go.Callee.value (Go.Operand.func 14), args := #[Go.Operand.tmp 164, Go.Operand.tmp 169], argTypes := #[26, 9] }, type := 34, pos := _, after := #[{ on := 0, ground := Go.Ground.data }, { on := 5, ground := Go.Ground.data }], guard := none }) rfl (fun K hK => ?_) AllReadyH.nil
                  go_simp
                  refine c14.mono ?_
                  rintro e w4 ⟨rfl, hb4⟩
                  have t0 := cell_kept (w := wr.drew) s0 hb4
                  have t1 := cell_kept (w := wr.drew) s1 hb4
                  have t2 := cell_kept (w := wr.drew) s2 hb4
                  have t3 := cell_kept (w := wr.drew) s3 hb4
                  have t4 := cell_kept (w := wr.drew) s4 hb4
                  have HB4 := hid hb4
                  go_wp2_with fail
                  refine hK.out _ _ ?_ (fun hHeld1 => ?_)
                  · exact ⟨t0, t1, t2, t3, t4⟩
                  clear hK K
                  refine wpAnyH_take (i := 7) (oi := { dst := some 163, op := Go.Op.move (Go.Operand.tmp 170), type := 34, pos := _, after := #[{ on := 6, ground := Go.Ground.data }], guard := none }) (v := ?_) rfl (by kernel_rfl) (by kernel_rfl) (by kernel_rfl) (fun _ _ _ h => h) (Or.inl ⟨by rfl, ?_⟩) (by assumption) ?_
                  rotate_left
                  · intro w hSw; (try dsimp only at hSw); go_simp <;> first | with_reducible rfl | (rw [if_neg (by first | omega | (simp only [ByteArray.size_append] at *; omega))])
                  simp only [Act.put, List.setIfInBounds_toArray, List.set_cons_zero, List.set_cons_succ]
                  refine wpAnyH_take (i := 8) (oi := { dst := some 171, op := Go.Op.extract (Go.Operand.tmp 163) 0, type := 3, pos := _, after := #[{ on := 7, ground := Go.Ground.data }], guard := none }) (v := ?_) rfl (by kernel_rfl) (by kernel_rfl) (by kernel_rfl) (fun _ _ _ h => h) (Or.inl ⟨by rfl, ?_⟩) (by assumption) ?_
                  rotate_left
                  · intro w hSw; (try dsimp only at hSw); go_simp <;> first | with_reducible rfl | (rw [if_neg (by first | omega | (simp only [ByteArray.size_append] at *; omega))])
                  simp only [Act.put, List.setIfInBounds_toArray, List.set_cons_zero, List.set_cons_succ]
                  refine wpAnyH_take (i := 9) (oi := { dst := some 172, op := Go.Op.extract (Go.Operand.tmp 163) 1, type := 33, pos := _, after := #[{ on := 7, ground := Go.Ground.data }, { on := 12, ground := Go.Ground.gcOnly Go.Departure.lateStores }], guard := none }) (v := ?_) rfl (by kernel_rfl) (by kernel_rfl) (by kernel_rfl) (fun _ _ _ h => h) (Or.inl ⟨by rfl, ?_⟩) (by assumption) ?_
                  rotate_left
                  · intro w hSw; (try dsimp only at hSw); go_simp <;> first | with_reducible rfl | (rw [if_neg (by first | omega | (simp only [ByteArray.size_append] at *; omega))])
                  simp only [Act.put, List.setIfInBounds_toArray, List.set_cons_zero, List.set_cons_succ]
                  refine wpAnyH_take (i := 10) (oi := { dst := some 173, op := Go.Op.extract (Go.Operand.tmp 163) 2, type := 3, pos := _, after := #[{ on := 7, ground := Go.Ground.data }, { on := 13, ground := Go.Ground.gcOnly Go.Departure.lateStores }], guard := none }) (v := ?_) rfl (by kernel_rfl) (by kernel_rfl) (by kernel_rfl) (fun _ _ _ h => h) (Or.inl ⟨by rfl, ?_⟩) (by assumption) ?_
                  rotate_left
                  · intro w hSw; (try dsimp only at hSw); go_simp <;> first | with_reducible rfl | (rw [if_neg (by first | omega | (simp only [ByteArray.size_append] at *; omega))])
                  simp only [Act.put, List.setIfInBounds_toArray, List.set_cons_zero, List.set_cons_succ]
                  refine wpAnyH_take (i := 11) (oi := { dst := some 174, op := Go.Op.extract (Go.Operand.tmp 163) 3, type := 4, pos := _, after := #[{ on := 7, ground := Go.Ground.data }, { on := 14, ground := Go.Ground.gcOnly Go.Departure.lateStores }], guard := none }) (v := ?_) rfl (by kernel_rfl) (by kernel_rfl) (by kernel_rfl) (fun _ _ _ h => h) (Or.inl ⟨by rfl, ?_⟩) (by assumption) ?_
                  rotate_left
                  · intro w hSw; (try dsimp only at hSw); go_simp <;> first | with_reducible rfl | (rw [if_neg (by first | omega | (simp only [ByteArray.size_append] at *; omega))])
                  simp only [Act.put, List.setIfInBounds_toArray, List.set_cons_zero, List.set_cons_succ]
                  refine wpAnyH_take (i := 12) (oi := { dst := some 20, op := Go.Op.assign (Go.Operand.tmp 171), type := 3, pos := _, after := #[{ on := 8, ground := Go.Ground.data }, { on := 6, ground := Go.Ground.chain }, { on := 0, ground := Go.Ground.phase }, { on := 1, ground := Go.Ground.phase }, { on := 2, ground := Go.Ground.phase }, { on := 3, ground := Go.Ground.phase }, { on := 4, ground := Go.Ground.phase }, { on := 5, ground := Go.Ground.phase }, { on := 6, ground := Go.Ground.phase }, { on := 7, ground := Go.Ground.phase }, { on := 8, ground := Go.Ground.phase }, { on := 9, ground := Go.Ground.textOnly Go.Departure.lateStores }, { on := 10, ground := Go.Ground.textOnly Go.Departure.lateStores }, { on := 11, ground := Go.Ground.textOnly Go.Departure.lateStores }], guard := none }) (v := ?_) rfl (by kernel_rfl) (by kernel_rfl) (by kernel_rfl) (fun _ _ _ h => h) (Or.inl ⟨by rfl, ?_⟩) (by assumption) ?_
                  rotate_left
                  · intro w hSw; (try dsimp only at hSw); go_simp <;> first | with_reducible rfl | (rw [if_neg (by first | omega | (simp only [ByteArray.size_append] at *; omega))])
                  simp only [Act.put, List.setIfInBounds_toArray, List.set_cons_zero, List.set_cons_succ]
                  refine wpAnyH_take (i := 13) (oi := { dst := some 21, op := Go.Op.assign (Go.Operand.tmp 172), type := 33, pos := _, after := #[{ on := 9, ground := Go.Ground.data }, { on := 12, ground := Go.Ground.chain }, { on := 0, ground := Go.Ground.phase }, { on := 1, ground := Go.Ground.phase }, { on := 2, ground := Go.Ground.phase }, { on := 3, ground := Go.Ground.phase }, { on := 4, ground := Go.Ground.phase }, { on := 5, ground := Go.Ground.phase }, { on := 6, ground := Go.Ground.phase }, { on := 7, ground := Go.Ground.phase }, { on := 8, ground := Go.Ground.phase }, { on := 9, ground := Go.Ground.phase }, { on := 10, ground := Go.Ground.textOnly Go.Departure.lateStores }, { on := 11, ground := Go.Ground.textOnly Go.Departure.lateStores }, { on := 12, ground := Go.Ground.phase }], guard := none }) (v := ?_) rfl (by kernel_rfl) (by kernel_rfl) (by kernel_rfl) (fun _ _ _ h => h) (Or.inl ⟨by rfl, ?_⟩) (by assumption) ?_
                  rotate_left
                  · intro w hSw; (try dsimp only at hSw); go_simp <;> first | with_reducible rfl | (rw [if_neg (by first | omega | (simp only [ByteArray.size_append] at *; omega))])
                  simp only [Act.put, List.setIfInBounds_toArray, List.set_cons_zero, List.set_cons_succ]
                  refine wpAnyH_take (i := 14) (oi := { dst := some 22, op := Go.Op.assign (Go.Operand.tmp 173), type := 3, pos := _, after := #[{ on := 10, ground := Go.Ground.data }, { on := 13, ground := Go.Ground.chain }, { on := 0, ground := Go.Ground.phase }, { on := 1, ground := Go.Ground.phase }, { on := 2, ground := Go.Ground.phase }, { on := 3, ground := Go.Ground.phase }, { on := 4, ground := Go.Ground.phase }, { on := 5, ground := Go.Ground.phase }, { on := 6, ground := Go.Ground.phase }, { on := 7, ground := Go.Ground.phase }, { on := 8, ground := Go.Ground.phase }, { on := 9, ground := Go.Ground.phase }, { on := 10, ground := Go.Ground.phase }, { on := 11, ground := Go.Ground.textOnly Go.Departure.lateStores }, { on := 12, ground := Go.Ground.phase }, { on := 13, ground := Go.Ground.phase }], guard := none }) (v := ?_) rfl (by kernel_rfl) (by kernel_rfl) (by kernel_rfl) (fun _ _ _ h => h) (Or.inl ⟨by rfl, ?_⟩) (by assumption) ?_
                  rotate_left
                  · intro w hSw; (try dsimp only at hSw); go_simp <;> first | with_reducible rfl | (rw [if_neg (by first | omega | (simp only [ByteArray.size_append] at *; omega))])
                  simp only [Act.put, List.setIfInBounds_toArray, List.set_cons_zero, List.set_cons_succ]
                  refine wpAnyH_take (i := 15) (oi := { dst := some 23, op := Go.Op.assign (Go.Operand.tmp 174), type := 4, pos := _, after := #[{ on := 11, ground := Go.Ground.data }, { on := 14, ground := Go.Ground.chain }, { on := 0, ground := Go.Ground.phase }, { on := 1, ground := Go.Ground.phase }, { on := 2, ground := Go.Ground.phase }, { on := 3, ground := Go.Ground.phase }, { on := 4, ground := Go.Ground.phase }, { on := 5, ground := Go.Ground.phase }, { on := 6, ground := Go.Ground.phase }, { on := 7, ground := Go.Ground.phase }, { on := 8, ground := Go.Ground.phase }, { on := 9, ground := Go.Ground.phase }, { on := 10, ground := Go.Ground.phase }, { on := 11, ground := Go.Ground.phase }, { on := 12, ground := Go.Ground.phase }, { on := 13, ground := Go.Ground.phase }, { on := 14, ground := Go.Ground.phase }], guard := none }) (v := ?_) rfl (by kernel_rfl) (by kernel_rfl) (by kernel_rfl) (fun _ _ _ h => h) (Or.inl ⟨by rfl, ?_⟩) (by assumption) ?_
                  rotate_left
                  · intro w hSw; (try dsimp only at hSw); go_simp <;> first | with_reducible rfl | (rw [if_neg (by first | omega | (simp only [ByteArray.size_append] at *; omega))])
                  simp only [Act.put, List.setIfInBounds_toArray, List.set_cons_zero, List.set_cons_succ]
                  refine wpAnyH_done (by kernel_rfl) ?_ _
                  go_wp2_with (fail)
                  go_roundw
                  case rel => exact ⟨k + 1, by omega, by go_num, hid (hF.out.keep ((Below.refl _ _).drew.trans (HB4.out.mono (by simp))))⟩
                  case measure => simp [intOf]; omega
                · have hlt' : ¬ (k : Int) < (p.outs.length : Int) := by omega
                  go_wp2_with (fail)
                  go_ret
                  exact ⟨rfl, fv.below⟩
    · have hne : ((nmErr p) == 0) = false := by simpa using he
      clear he
      generalize nmErr p = E at *
      go_wp2_with (fail)
      refine (alive _ F3.out.R F3.out.J).mono ?_
      rintro e w4 ⟨rfl, hb4⟩
      have hB := (F3.out.keep hb4).below
      go_wp2_with (fail)
      go_ret
      exact ⟨rfl, hB⟩
end Go.Proofs.YtilpoiihoikhlaaDoor.Lex
namespace Go.Proofs.YtilpoiihoikhlaaDoor.Lex
open Go.ChangeShapes Go.WideShapes Go.ChangeAt Go.RowKit Go.Joins
theorem info44' : (Tryd.prog.info? 37).map (fun i => (i.zero, i.size, i.bytes)) = some (some (.agg #[.string ByteArray.empty, .int .u8 0, .int .i64 0]), 3, 32) := by kernel_rfl
theorem info9' : (Tryd.prog.info? 9).map (fun i => (i.zero, i.size, i.bytes)) = some (some (.string ByteArray.empty), 1, 16) := by kernel_rfl
set_option maxRecDepth 100000 in
set_option maxHeartbeats 2000000 in
theorem twin_ins (l : List Hd) (w : World) (s : Value) (hS : InsAt w l s) :
    Calls Tryd.prog 19 #[s] w fun e w' => ∃ s', e = .returned s' ∧ TwIns w' w.heap.size l s' ∧ Below w.heap.size w w' := by
  obtain ⟨ao, cap, rfl, hlen, _, hok, hc⟩ := hS
  have HC := hid hc
  have HO := hid hok
  obtain ⟨i0, hi, hi0, hi1, hi2⟩ := info_parts info44'
  clear hc hok
  go_enter Tryd.func19, Tryd.ntmps19
  go_wp2_with (at_make; refine wpList_make_own w rfl (.const (.int .i64 0)) (.tmp 7) 22 rfl w.heap.size 37 i0 _ 3 Tryd.underlying22 hi hi0 hi1 .i64 .i64 _ (l.length + 1) rfl rfl (by omega) (by rw [hi2]; omega) (by unfold maxLen; omega) (Nat.le_refl _) ?_; intro w1 hown1 hgrow1; have M1 := hid (MkR.start (t := 37) (c := 3) (n := l.length) hown1 hgrow1); clear hown1 hgrow1)
  go_loopw [3, 4] (fun v i wr => ∃ (k : Nat), k ≤ l.length ∧ v = .slice (some ⟨w.heap.size, 0, none⟩) k (l.length + 1) ∧ i = .int .i64 (k : Int) ∧ Hid (MkR w 37 3 l.length ((l.take k).map hdL) wr)) (fun _ i _ => l.length - (intOf i).toNat)
  case atStart => exact ⟨0, Nat.zero_le _, rfl, rfl, by simpa using M1⟩
  case round =>
    obtain ⟨k, hk, rfl, rfl, hM⟩ := hrel
    have hl' : ((l.take k).map hdL).length = k := by simp; omega
    by_cases hlt : k < l.length
    · have hlt' : (k : Int) < (l.length : Int) := by omega
      have hk0 : (0 : Int) ≤ (k : Int) := by omega
      obtain ⟨bb, o, rfl, hcc⟩ := HC.out.resolve_left (by omega)
      obtain ⟨v0, v1, v2⟩ := (hcc k hlt).keep hM.out.below
      have HT : Hid ((l.take (k + 1)).map hdL = (l.take k).map hdL ++ [hdL l[k]]) := hid (by rw [List.take_succ_eq_append_getElem hlt, List.map_append]; rfl)
      have HL := hid hl'
      clear hcc hl'
      generalize l[k] = y at *
      generalize (l.take k).map hdL = es at *
      have M2 := hid (hM.out.step ((Below.refl _ _).alloc (Nat.le_refl _) (.cells #[.string y.name, .int .u8 (y.ty : Int), .int .i64 y.st] 37)))
      have M2r := hid (show _ from by have := M2.out.row; rw [HL.out] at this; exact this)
      have N2 := hid (next_cells wr (hdL y) 37)
      go_wp2_with (at_builtin; refine wpList_append_fits _ rfl (.tmp 15) (.tmp 20) 22 rfl w.heap.size 37 i0 3 Tryd.underlying22 hi hi1 w.heap.size k (l.length + 1) es.flatten rfl M2r.out ⟨wr.heap.size, 0, none⟩ 1 1 (hdL y) rfl rfl N2.out (by simp [Value.oneCell']) (by omega) ?_; intro w4 hown4 hgrow4; have M4 := hid (M2.out.grow HL.out rfl hown4 hgrow4); clear hown4 hgrow4)
      go_roundw
      case rel => exact ⟨k + 1, by omega, rfl, by go_num, hid (by rw [HT.out]; exact M4.out)⟩
      case measure => simp [intOf]; omega
    · have hlt' : ¬ (k : Int) < (l.length : Int) := by omega
      obtain rfl : k = l.length := by omega
      rw [List.take_length] at hM hl'
      have M2 := hid (hM.out.step ((Below.refl _ _).alloc (Nat.le_refl _) (.cells #[.string spare, .int .u8 0, .int .i64 0] 37)))
      have M2r := hid (show _ from by have := M2.out.row; rw [hl'] at this; exact this)
      have N2 := hid (next_cells wr (hdL ⟨spare, 0, 0⟩) 37)
      have HL := hid hl'
      clear hl'
      go_wp2_with (at_builtin; refine wpList_append_fits _ rfl (.tmp 22) (.tmp 24) 22 rfl w.heap.size 37 i0 3 Tryd.underlying22 hi hi1 w.heap.size l.length (l.length + 1) (l.map hdL).flatten rfl M2r.out ⟨wr.heap.size, 0, none⟩ 1 1 (hdL ⟨spare, 0, 0⟩) rfl rfl N2.out (by simp [Value.oneCell']) (by omega) ?_; intro w4 hown4 hgrow4; have C4 := hid (MkR.cells M2.out.each HL.out rfl hown4); have K4 := hid (Blk.of_row hown4); have B4 := hid (M2.out.below.grown hgrow4 M2.out.below.size (fun j hj => by cases hj; exact Nat.le_refl _)); clear hown4 hgrow4)
      go_ret
      refine ⟨_, rfl, ⟨w.heap.size, l.length + 1, rfl, Nat.le_refl _, hlen, by omega, HO.out, fun i hi => ?_, ?_, K4.out⟩, B4.out⟩
      · have he : (l.map hdL)[i]? = some (hdL l[i]) := by rw [List.getElem?_map, List.getElem?_eq_getElem hi]; rfl
        exact ⟨C4.out.1 i _ 0 _ he rfl, C4.out.1 i _ 1 _ he rfl, C4.out.1 i _ 2 _ he rfl⟩
      · exact ⟨C4.out.2 0 _ rfl, C4.out.2 1 _ rfl, C4.out.2 2 _ rfl⟩
abbrev txL (x : ByteArray) : List Value := [.string x]
set_option maxRecDepth 100000 in
set_option maxHeartbeats 2000000 in
theorem twin_texts (l : List ByteArray) (w : World) (s : Value) (hS : TextsAt w l s) :
    Calls Tryd.prog 21 #[s] w fun e w' => ∃ s', e = .returned s' ∧ TwTexts w' w.heap.size l s' ∧ Below w.heap.size w w' := by
  obtain ⟨ao, cap, rfl, hlen, _, hok, hc⟩ := hS
  have HC := hid hc
  have HO := hid hok
  obtain ⟨i0, hi, hi0, hi1, hi2⟩ := info_parts info9'
  clear hc hok
  go_enter Tryd.func21, Tryd.ntmps21
  go_wp2_with (at_make; refine wpList_make_own w rfl (.const (.int .i64 0)) (.tmp 7) 24 rfl w.heap.size 9 i0 _ 1 Tryd.underlying24 hi hi0 hi1 .i64 .i64 _ (l.length + 1) rfl rfl (by omega) (by rw [hi2]; omega) (by unfold maxLen; omega) (Nat.le_refl _) ?_; intro w1 hown1 hgrow1; have M1 := hid (MkR.start (t := 9) (c := 1) (n := l.length) hown1 hgrow1); clear hown1 hgrow1)
  go_loopw [3, 4] (fun v i wr => ∃ (k : Nat), k ≤ l.length ∧ v = .slice (some ⟨w.heap.size, 0, none⟩) k (l.length + 1) ∧ i = .int .i64 (k : Int) ∧ Hid (MkR w 9 1 l.length ((l.take k).map txL) wr)) (fun _ i _ => l.length - (intOf i).toNat)
  case atStart => exact ⟨0, Nat.zero_le _, rfl, rfl, by simpa using M1⟩
  case round =>
    obtain ⟨k, hk, rfl, rfl, hM⟩ := hrel
    have hl' : ((l.take k).map txL).length = k := by simp; omega
    by_cases hlt : k < l.length
    · have hlt' : (k : Int) < (l.length : Int) := by omega
      have hk0 : (0 : Int) ≤ (k : Int) := by omega
      obtain ⟨bb, o, rfl, hcc⟩ := HC.out.resolve_left (by omega)
      have v0 := cell_kept (hcc k hlt) hM.out.below
      have HT : Hid ((l.take (k + 1)).map txL = (l.take k).map txL ++ [txL l[k]]) := hid (by rw [List.take_succ_eq_append_getElem hlt, List.map_append]; rfl)
      have HL := hid hl'
      clear hcc hl'
      generalize l[k] = y at *
      generalize (l.take k).map txL = es at *
      have M2 := hid (hM.out.step ((Below.refl _ _).alloc (Nat.le_refl _) (.cells #[.string y] 9)))
      have M2r := hid (show _ from by have := M2.out.row; rw [HL.out] at this; exact this)
      have N2 := hid (next_cells wr (txL y) 9)
      go_wp2_with (at_builtin; refine wpList_append_fits _ rfl (.tmp 15) (.tmp 20) 24 rfl w.heap.size 9 i0 1 Tryd.underlying24 hi hi1 w.heap.size k (l.length + 1) es.flatten rfl M2r.out ⟨wr.heap.size, 0, none⟩ 1 1 (txL y) rfl rfl N2.out (by simp [Value.oneCell']) (by omega) ?_; intro w4 hown4 hgrow4; have M4 := hid (M2.out.grow HL.out rfl hown4 hgrow4); clear hown4 hgrow4)
      go_roundw
      case rel => exact ⟨k + 1, by omega, rfl, by go_num, hid (by rw [HT.out]; exact M4.out)⟩
      case measure => simp [intOf]; omega
    · have hlt' : ¬ (k : Int) < (l.length : Int) := by omega
      obtain rfl : k = l.length := by omega
      rw [List.take_length] at hM hl'
      have M2 := hid (hM.out.step ((Below.refl _ _).alloc (Nat.le_refl _) (.cells #[.string spare] 9)))
      have M2r := hid (show _ from by have := M2.out.row; rw [hl'] at this; exact this)
      have N2 := hid (next_cells wr (txL spare) 9)
      have HL := hid hl'
      clear hl'
      go_wp2_with (at_builtin; refine wpList_append_fits _ rfl (.tmp 22) (.tmp 23) 24 rfl w.heap.size 9 i0 1 Tryd.underlying24 hi hi1 w.heap.size l.length (l.length + 1) (l.map txL).flatten rfl M2r.out ⟨wr.heap.size, 0, none⟩ 1 1 (txL spare) rfl rfl N2.out (by simp [Value.oneCell']) (by omega) ?_; intro w4 hown4 hgrow4; have C4 := hid (MkR.cells M2.out.each HL.out rfl hown4); have K4 := hid (Blk.of_row hown4); have B4 := hid (M2.out.below.grown hgrow4 M2.out.below.size (fun j hj => by cases hj; exact Nat.le_refl _)); clear hown4 hgrow4)
      go_ret
      refine ⟨_, rfl, ⟨w.heap.size, l.length + 1, rfl, Nat.le_refl _, hlen, by omega, HO.out, fun i hi => ?_, ?_, K4.out⟩, B4.out⟩
      · have he : (l.map txL)[i]? = some (txL l[i]) := by rw [List.getElem?_map, List.getElem?_eq_getElem hi]; rfl
        simpa using C4.out.1 i _ 0 _ he rfl
      · simpa using C4.out.2 0 _ rfl
end Go.Proofs.YtilpoiihoikhlaaDoor.Lex
namespace Go.Proofs.YtilpoiihoikhlaaDoor.Lex
open Go.ChangeShapes Go.WideShapes Go.ChangeAt Go.RowKit Go.Joins
theorem info26 : (Tryd.prog.info? 26).map (·.size) = some 4 := by kernel_rfl
/-- The first row lies ahead of the second one. -/
def Ord2 (a b : Value) : Prop := ∀ i n c j m d, a = .slice (some ⟨i, 0, none⟩) n c → b = .slice (some ⟨j, 0, none⟩) m d → i < j
set_option maxRecDepth 100000 in
set_option maxHeartbeats 1000000 in
theorem twin_prog2 (p : Pg) (w : World) (a b c : Value) (hP : PgAt w p a b c) :
    Calls Tryd.prog 9 #[pgV p a b c] w fun e w' => ∃ a' b' c', e = .returned (pgV p a' b' c') ∧ TwPg w' w.heap.size p a' b' c' ∧ Below w.heap.size w w' ∧ Ord2 a' b' := by
  obtain ⟨a0, a1, rfl, _⟩ := hP.ins
  obtain ⟨b0, b1, _, rfl, _⟩ := hP.flows
  obtain ⟨c0, c1, rfl, _⟩ := hP.outs
  have P0 := hid hP
  have H2 := hid (bstep ((Below.refl w.heap.size w).alloc (Nat.le_refl _) (.cells (pgC p (.slice a0 p.ins.length a1) (.slice b0 p.flows.length b1) (.slice c0 p.outs.length c1)) 26)) ((Below.refl _ _).alloc (Nat.le_refl _) (.cells #[.int .i64 0, .slice none 0 0, .slice none 0 0, .slice none 0 0] 26)))
  have B0 := box_first w (pgC p (.slice a0 p.ins.length a1) (.slice b0 p.flows.length b1) (.slice c0 p.outs.length c1)) #[.int .i64 0, .slice none 0 0, .slice none 0 0, .slice none 0 0] 26
  clear hP
  go_enter Tryd.func9, Tryd.ntmps9
  go_wp2
  refine wp_region_held_drew (S := fun W => W.cell? ⟨w.heap.size, 0, none⟩ = some (.int .i64 p.st) ∧ W.cell? ⟨w.heap.size, 1, none⟩ = some (.slice a0 p.ins.length a1) ∧ W.cell? ⟨w.heap.size, 2, none⟩ = some (.slice b0 p.flows.length b1) ∧ W.cell? ⟨w.heap.size, 3, none⟩ = some (.slice c0 p.outs.length c1)) (by kernel_rfl) ?_ (fun hHeld => ?_)
  · exact ⟨B0 0 _ rfl, B0 1 _ rfl, B0 2 _ rfl, B0 3 _ rfl⟩
  refine wpAnyH_take (i := 0) (oi := { dst := some 3, op := Go.Op.fieldAddr 26 (Go.Operand.tmp 1) 0, type := 0, pos := _, after := #[], guard := none }) (v := ?_) rfl (by kernel_rfl) (by kernel_rfl) (by kernel_rfl) (fun _ _ _ h => h) (Or.inl ⟨by rfl, ?_⟩) (by assumption) ?_
  rotate_left
  · intro w hSw; (try dsimp only at hSw); go_simp <;> first | with_reducible rfl | (rw [if_neg (by first | omega | (simp only [ByteArray.size_append] at *; omega))])
  simp only [Act.put, List.setIfInBounds_toArray, List.set_cons_zero, List.set_cons_succ]
  refine wpAnyH_take (i := 1) (oi := { dst := some 4, op := Go.Op.load 3 (Go.Operand.tmp 3), type := 3, pos := _, after := #[{ on := 0, ground := Go.Ground.data }], guard := none }) (v := ?_) rfl (by kernel_rfl) (by kernel_rfl) (by kernel_rfl) (fun _ _ _ h => h) (Or.inl ⟨by rfl, ?_⟩) (by assumption) ?_
  rotate_left
  · intro w hSw; (try dsimp only at hSw); go_simp <;> first | with_reducible rfl | (rw [if_neg (by first | omega | (simp only [ByteArray.size_append] at *; omega))])
  simp only [Act.put, List.setIfInBounds_toArray, List.set_cons_zero, List.set_cons_succ]
  refine wpAnyH_take (i := 2) (oi := { dst := some 5, op := Go.Op.fieldAddr 26 (Go.Operand.tmp 1) 1, type := 0, pos := _, after := #[], guard := none }) (v := ?_) rfl (by kernel_rfl) (by kernel_rfl) (by kernel_rfl) (fun _ _ _ h => h) (Or.inl ⟨by rfl, ?_⟩) (by assumption) ?_
  rotate_left
  · intro w hSw; (try dsimp only at hSw); go_simp <;> first | with_reducible rfl | (rw [if_neg (by first | omega | (simp only [ByteArray.size_append] at *; omega))])
  simp only [Act.put, List.setIfInBounds_toArray, List.set_cons_zero, List.set_cons_succ]
  refine wpAnyH_take (i := 3) (oi := { dst := some 6, op := Go.Op.load 22 (Go.Operand.tmp 5), type := 22, pos := _, after := #[{ on := 2, ground := Go.Ground.data }], guard := none }) (v := ?_) rfl (by kernel_rfl) (by kernel_rfl) (by kernel_rfl) (fun _ _ _ h => h) (Or.inl ⟨by rfl, ?_⟩) (by assumption) ?_
  rotate_left
  · intro w hSw; (try dsimp only at hSw); go_simp <;> first | with_reducible rfl | (rw [if_neg (by first | omega | (simp only [ByteArray.size_append] at *; omega))])
  simp only [Act.put, List.setIfInBounds_toArray, List.set_cons_zero, List.set_cons_succ]
  refine wpAnyH_take (i := 5) (oi := { dst := some 8, op := Go.Op.fieldAddr 26 (Go.Operand.tmp 1) 2, type := 0, pos := _, after := #[], guard := none }) (v := ?_) rfl (by kernel_rfl) (by kernel_rfl) (by kernel_rfl) (fun _ _ _ h => h) (Or.inl ⟨by rfl, ?_⟩) (by assumption) ?_
  rotate_left
  · intro w hSw; (try dsimp only at hSw); go_simp <;> first | with_reducible rfl | (rw [if_neg (by first | omega | (simp only [ByteArray.size_append] at *; omega))])
  simp only [Act.put, List.setIfInBounds_toArray, List.set_cons_zero, List.set_cons_succ]
  refine wpAnyH_take (i := 6) (oi := { dst := some 9, op := Go.Op.load 23 (Go.Operand.tmp 8), type := 23, pos := _, after := #[{ on := 5, ground := Go.Ground.data }], guard := none }) (v := ?_) rfl (by kernel_rfl) (by kernel_rfl) (by kernel_rfl) (fun _ _ _ h => h) (Or.inl ⟨by rfl, ?_⟩) (by assumption) ?_
  rotate_left
  · intro w hSw; (try dsimp only at hSw); go_simp <;> first | with_reducible rfl | (rw [if_neg (by first | omega | (simp only [ByteArray.size_append] at *; omega))])
  simp only [Act.put, List.setIfInBounds_toArray, List.set_cons_zero, List.set_cons_succ]
  refine wpAnyH_take (i := 8) (oi := { dst := some 11, op := Go.Op.fieldAddr 26 (Go.Operand.tmp 1) 3, type := 0, pos := _, after := #[], guard := none }) (v := ?_) rfl (by kernel_rfl) (by kernel_rfl) (by kernel_rfl) (fun _ _ _ h => h) (Or.inl ⟨by rfl, ?_⟩) (by assumption) ?_
  rotate_left
  · intro w hSw; (try dsimp only at hSw); go_simp <;> first | with_reducible rfl | (rw [if_neg (by first | omega | (simp only [ByteArray.size_append] at *; omega))])
  simp only [Act.put, List.setIfInBounds_toArray, List.set_cons_zero, List.set_cons_succ]
  refine wpAnyH_take (i := 9) (oi := { dst := some 12, op := Go.Op.load 24 (Go.Operand.tmp 11), type := 24, pos := _, after := #[{ on := 8, ground := Go.Ground.data }], guard := none }) (v := ?_) rfl (by kernel_rfl) (by kernel_rfl) (by kernel_rfl) (fun _ _ _ h => h) (Or.inl ⟨by rfl, ?_⟩) (by assumption) ?_
  rotate_left
  · intro w hSw; (try dsimp only at hSw); go_simp <;> first | with_reducible rfl | (rw [if_neg (by first | omega | (simp only [ByteArray.size_append] at *; omega))])
  simp only [Act.put, List.setIfInBounds_toArray, List.set_cons_zero, List.set_cons_succ]
  refine wpAnyH_ready (rs := [4]) (by kernel_rfl) (by simp) ?_
  refine AllReadyH.cons (o := { dst := some 7, op := Go.Op.call { callee := Go.Callee.value (Go.Operand.func 19), args := #[Go.Operand.tmp 6], argTypes := #[22] }, type := 22, pos := _, after := #[{ on := 3, ground := Go.Ground.data }], guard := none }) rfl (fun K hK => ?_) AllReadyH.nil
  go_simp
  refine (twin_ins _ _ _ (P0.out.keep H2.out.drew).ins).mono ?_
  rintro e w3 ⟨s3, rfl, ht3, hb3⟩
  obtain ⟨g3, k3, rfl, _⟩ := id ht3
  have HB3 := hid (bstep H2.out.drew hb3)
  have HT3 := hid ht3
  have G3 := hid hb3
  obtain ⟨p1, p2, p3⟩ := two_boxes w w3 _ _ 26 hb3
  clear ht3 hb3
  go_wp2_with fail
  refine hK.out _ _ ?_ (fun hHeld1 => ?_)
  · exact ⟨p1 0 _ rfl, p1 1 _ rfl, p1 2 _ rfl, p1 3 _ rfl⟩
  clear hK K
  refine wpAnyH_ready (rs := [7]) (by kernel_rfl) (by simp) ?_
  refine AllReadyH.cons (o := { dst := some 10, op := Go.Op.call { callee := Go.Callee.value (Go.Operand.func 20), args := #[Go.Operand.tmp 9], argTypes := #[23] }, type := 23, pos := _, after := #[{ on := 6, ground := Go.Ground.data }, { on := 4, ground := Go.Ground.chain }], guard := none }) rfl (fun K hK => ?_) AllReadyH.nil
  go_simp
  refine (twin_flows _ _ _ (P0.out.keep HB3.out).flows).mono ?_
  rintro e w4 ⟨s4, rfl, ht4, hb4⟩
  obtain ⟨g4, k4, _, rfl, _⟩ := id ht4
  have HB4 := hid (bstep HB3.out hb4)
  have HT4 := hid ht4
  have G4 := hid (bstep G3.out hb4)
  have F4 := hid hb4
  obtain ⟨q1, q2, q3⟩ := two_boxes w w4 _ _ 26 G4.out
  clear ht4 hb4
  go_wp2_with fail
  refine hK.out _ _ ?_ (fun hHeld2 => ?_)
  · exact ⟨q1 0 _ rfl, q1 1 _ rfl, q1 2 _ rfl, q1 3 _ rfl⟩
  clear hK K
  refine wpAnyH_ready (rs := [10]) (by kernel_rfl) (by simp) ?_
  refine AllReadyH.cons (o := { dst := some 13, op := Go.Op.call { callee := Go.Callee.value (Go.Operand.func 21), args := #[Go.Operand.tmp 12], argTypes := #[24] }, type := 24, pos := _, after := #[{ on := 9, ground := Go.Ground.data }, { on := 7, ground := Go.Ground.chain }], guard := none }) rfl (fun K hK => ?_) AllReadyH.nil
  go_simp
  refine (twin_texts _ _ _ (P0.out.keep HB4.out).outs).mono ?_
  rintro e w5 ⟨s5, rfl, ht5, hb5⟩
  obtain ⟨g5, k5, rfl, _⟩ := id ht5
  have HB5 := hid (bstep HB4.out hb5)
  have HT5 := hid ht5
  have G5 := hid (bstep G4.out hb5)
  have F5 := hid hb5
  obtain ⟨r1, r2, r3⟩ := two_boxes w w5 _ _ 26 G5.out
  clear ht5 hb5
  go_wp2_with fail
  refine hK.out _ _ ?_ (fun hHeld3 => ?_)
  · exact ⟨r1 0 _ rfl, r1 1 _ rfl, r1 2 _ rfl, r1 3 _ rfl⟩
  clear hK K
  refine wpAnyH_take (i := 11) (oi := { dst := some 14, op := Go.Op.build 26 #[(0, Go.Operand.tmp 4), (1, Go.Operand.tmp 7), (2, Go.Operand.tmp 10), (3, Go.Operand.tmp 13)], type := 26, pos := _, after := #[{ on := 1, ground := Go.Ground.data }, { on := 4, ground := Go.Ground.data }, { on := 7, ground := Go.Ground.data }, { on := 10, ground := Go.Ground.data }], guard := none }) (v := ?_) rfl (by kernel_rfl) (by kernel_rfl) (by kernel_rfl) (fun _ _ _ h => h) (Or.inl ⟨by rfl, ?_⟩) (by assumption) ?_
  rotate_left
  · intro w hSw; (try dsimp only at hSw); go_simp <;> first | with_reducible rfl | (rw [if_neg (by first | omega | (simp only [ByteArray.size_append] at *; omega))])
  simp only [Act.put, List.setIfInBounds_toArray, List.set_cons_zero, List.set_cons_succ]
  refine wpAnyH_ready (rs := [12]) (by kernel_rfl) (by simp) ?_
  refine AllReadyH.cons (o := { dst := none, op := Go.Op.store 26 (Go.Operand.tmp 2) (Go.Operand.tmp 14), type := 0, pos := _, after := #[{ on := 11, ground := Go.Ground.data }, { on := 10, ground := Go.Ground.chain }, { on := 0, ground := Go.Ground.phase }, { on := 1, ground := Go.Ground.phase }, { on := 2, ground := Go.Ground.phase }, { on := 3, ground := Go.Ground.phase }, { on := 4, ground := Go.Ground.phase }, { on := 5, ground := Go.Ground.phase }, { on := 6, ground := Go.Ground.phase }, { on := 7, ground := Go.Ground.phase }, { on := 8, ground := Go.Ground.phase }, { on := 9, ground := Go.Ground.phase }, { on := 10, ground := Go.Ground.phase }, { on := 11, ground := Go.Ground.phase }], guard := none }) rfl (fun K hK => ?_) AllReadyH.nil
  refine if_take (by rfl) ?_
  refine wp_store_row 26 _ _ rfl (w.heap.size + 1) (pgC p (.slice (some ⟨g3, 0, none⟩) p.ins.length k3) (.slice (some ⟨g4, 0, none⟩) p.flows.length k4) (.slice (some ⟨g5, 0, none⟩) p.outs.length k5)) rfl rfl 26 _ r3 info26 rfl (by simp [Value.oneCell']) ?_
  refine hK.out _ _ ?_ (fun _ => ?_)
  · have hne : w.heap.size ≠ w.heap.size + 1 := by omega
    have kk : ∀ j v, w5.cell? ⟨w.heap.size, j, none⟩ = some v → (w5.setRow (w.heap.size + 1) (pgC p (.slice (some ⟨g3, 0, none⟩) p.ins.length k3) (.slice (some ⟨g4, 0, none⟩) p.flows.length k4) (.slice (some ⟨g5, 0, none⟩) p.outs.length k5))).cell? ⟨w.heap.size, j, none⟩ = some v := fun j v h => by
      rw [World.cell?_of_block (w := w5) (a := ⟨w.heap.size, j, none⟩) (setRow_other w5 _ _ _ hne)]
      exact h
    exact ⟨kk _ _ (r1 0 _ rfl), kk _ _ (r1 1 _ rfl), kk _ _ (r1 2 _ rfl), kk _ _ (r1 3 _ rfl)⟩
  clear hK K
  refine wpAnyH_done (by kernel_rfl) ?_ _
  go_wp2
  refine bodyPost_ret (results_cell_row rfl _ _ (w.heap.size + 1) 26 (pgC p (.slice (some ⟨g3, 0, none⟩) p.ins.length k3) (.slice (some ⟨g4, 0, none⟩) p.flows.length k4) (.slice (some ⟨g5, 0, none⟩) p.outs.length k5)) (0, 0) _ rfl (setRow_heap _ _ _ _ _ _ r3) Tryd.underlying26 rfl info26) rfl ⟨_, _, _, rfl, ?_, ?_, ?_⟩
  · have hlo : w.heap.size + 2 ≤ (((w.alloc (.cells (pgC p (.slice a0 p.ins.length a1) (.slice b0 p.flows.length b1) (.slice c0 p.outs.length c1)) 26)).alloc (.cells #[.int .i64 0, .slice none 0 0, .slice none 0 0, .slice none 0 0] 26)).drew).heap.size := by simp
    have h3 : w.heap.size + 2 ≤ w3.heap.size := Nat.le_trans hlo G3.out.size
    have h4 : w.heap.size + 2 ≤ w4.heap.size := Nat.le_trans h3 F4.out.size
    have T : TwPg w5 (w.heap.size + 2) p (.slice (some ⟨g3, 0, none⟩) p.ins.length k3) (.slice (some ⟨g4, 0, none⟩) p.flows.length k4) (.slice (some ⟨g5, 0, none⟩) p.outs.length k5) := ⟨P0.out.st, HT3.out.carry (fun b _ hb => (bstep F4.out F5.out).block b hb) hlo, HT4.out.carry (fun b _ hb => F5.out.block b hb) h3, HT5.out.carry (fun _ _ _ => rfl) h4⟩
    exact T.carry (fun b hb _ => setRow_other w5 _ _ _ (by omega)) (by omega)
  · exact below_row HB5.out HB5.out.size (by omega) _
  · intro i n c j m d e1 e2
    injection e1 with e1 _ _
    injection e1 with e1
    injection e1 with e1 _ _
    injection e2 with e2 _ _
    injection e2 with e2
    injection e2 with e2 _ _
    subst e1 e2
    obtain ⟨b, _, e, _, _, _, _, _, _, cur, hk, _⟩ := HT3.out
    injection e with e _ _
    injection e with e
    injection e with e _ _
    subst e
    have l3 := (Array.getElem?_eq_some_iff.1 hk).1
    obtain ⟨b, _, _, e, hlo, _⟩ := HT4.out
    injection e with e _ _
    injection e with e
    injection e with e _ _
    subst e
    omega
theorem twin_prog (p : Pg) (w : World) (a b c : Value) (hP : PgAt w p a b c) :
    Calls Tryd.prog 9 #[pgV p a b c] w fun e w' => ∃ a' b' c', e = .returned (pgV p a' b' c') ∧ TwPg w' w.heap.size p a' b' c' ∧ Below w.heap.size w w' :=
  (twin_prog2 p w a b c hP).mono fun _ _ ⟨a', b', c', h1, h2, h3, _⟩ => ⟨a', b', c', h1, h2, h3⟩
end Go.Proofs.YtilpoiihoikhlaaDoor.Lex
namespace Go.Proofs.YtilpoiihoikhlaaDoor.Lex
open Go.ChangeShapes Go.WideShapes Go.ChangeAt Go.RowKit Go.Shelf
theorem heap_setCells_other {b j : Nat} (hj : j ≠ b) : ∀ (vs : List Value) (o : Nat) (w : World), (w.setCells b o vs).heap[j]? = w.heap[j]?
  | [], _, _ => rfl
  | v :: r, o, w => by
    rw [World.setCells, heap_setCells_other hj r (o + 1)]
    exact Below.heap_setCell _ _ _ _ hj
theorem grown_setCells (b : Nat) : ∀ (vs : List Value) (o : Nat) (w : World), w.grownBy (w.setCells b o vs) (some b)
  | [], _, w => ⟨rfl, rfl, rfl, Nat.le_refl _, fun _ _ _ => rfl⟩
  | v :: r, o, w => by
    have h := grown_setCells b r (o + 1) (w.setCell ⟨b, o, none⟩ v)
    have g : w.grownBy (w.setCell ⟨b, o, none⟩ v) (some b) := ⟨rfl, rfl, rfl, by simp, fun k _ h => Below.heap_setCell _ _ _ _ (fun e => h (by rw [e]))⟩
    exact ⟨h.os.trans g.os, h.tape.trans g.tape, h.output.trans g.output, Nat.le_trans g.size h.size, fun k hk hn => (h.block k (Nat.lt_of_lt_of_le hk g.size) hn).trans (g.block k hk hn)⟩
theorem Blk.set {b t c cap : Nat} : ∀ (vs : List Value) (o : Nat) (w : World), Blk w b t c cap → Blk (w.setCells b o vs) b t c cap
  | [], _, _, h => h
  | v :: r, o, w, h => by
    obtain ⟨cur, h1, h2, h3⟩ := h
    rw [World.setCells]
    exact Blk.set r (o + 1) _ ⟨_, set_same h1 o v, by simpa using h2, h3⟩
theorem Blk.keep {w w' : World} {b t c cap : Nat} (h : Blk w b t c cap) (hb : Below w.heap.size w w') : Blk w' b t c cap := h.carry (lo := 0) (fun b _ hlt => hb.block b hlt) (Nat.zero_le _)
theorem Blk.there {w : World} {b t c cap o n : Nat} (h : Blk w b t c cap) (ho : o + n ≤ cap * c) : w.there b o n := by
  obtain ⟨cur, h1, h2, _⟩ := h
  intro j hj
  refine ⟨?_, ?_⟩
  · rw [cell_of_row w b (o + j) cur t (0, 0) h1]
    have : o + j < cur.size := by omega
    simp [this]
  · unfold World.frozen?
    rw [h1]
    simp
theorem InsAt.apart {w W : World} {l : List Hd} {b0 n c fb : Nat} (h : InsAt w l (.slice (some ⟨b0, 0, none⟩) n c)) (hne : b0 ≠ fb) (hk : ∀ b, b < w.heap.size → b ≠ fb → W.heap[b]? = w.heap[b]?) : InsAt W l (.slice (some ⟨b0, 0, none⟩) n c) := by
  obtain ⟨ao, cap, e, h1, h2, h3, h4⟩ := h
  refine ⟨ao, cap, e, h1, h2, h3, h4.imp_right ?_⟩
  rintro ⟨b, o, ha, hc⟩
  refine ⟨b, o, ha, fun i hi => ?_⟩
  subst ha
  injection e with e1 _ _
  injection e1 with e1
  injection e1 with e1 _ _
  subst e1
  have k : ∀ {o v}, w.cell? ⟨b0, o, none⟩ = some v → W.cell? ⟨b0, o, none⟩ = some v := fun {o v} h => by
    rw [World.cell?_of_block (w := w) (a := ⟨b0, o, none⟩) (hk b0 (World.block_lt_of_cell? w _ h) hne)]
    exact h
  exact ⟨k (hc i hi).1, k (hc i hi).2.1, k (hc i hi).2.2⟩
theorem TextsAt.apart {w W : World} {l : List ByteArray} {b0 n c fb : Nat} (h : TextsAt w l (.slice (some ⟨b0, 0, none⟩) n c)) (hne : b0 ≠ fb) (hk : ∀ b, b < w.heap.size → b ≠ fb → W.heap[b]? = w.heap[b]?) : TextsAt W l (.slice (some ⟨b0, 0, none⟩) n c) := by
  obtain ⟨ao, cap, e, h1, h2, h3, h4⟩ := h
  refine ⟨ao, cap, e, h1, h2, h3, h4.imp_right ?_⟩
  rintro ⟨b, o, ha, hc⟩
  refine ⟨b, o, ha, fun i hi => ?_⟩
  subst ha
  injection e with e1 _ _
  injection e1 with e1
  injection e1 with e1 _ _
  subst e1
  rw [World.cell?_of_block (w := w) (a := ⟨b0, o + i, none⟩) (hk b0 (World.block_lt_of_cell? w _ (hc i hi)) hne)]
  exact hc i hi
theorem Blk.ne {w : World} {b b' t t' c c' cap cap' : Nat} (h : Blk w b t c cap) (h' : Blk w b' t' c' cap') (ht : t ≠ t') : b ≠ b' := by
  rintro rfl
  obtain ⟨cur, h1, _⟩ := h
  obtain ⟨cur', h1', _⟩ := h'
  rw [h1] at h1'
  injection h1' with h1'
  injection h1' with _ e _
  exact ht e
/-- While the flows are turned. -/
structure TQ (w w9 : World) (p : Pg) (A B C a' c' : Value) (fb cap : Nat) (sl : Nat → Value) (k : Nat) (W : World) : Prop where
  below : Below w.heap.size w W
  row : W.heap[w.heap.size]? = some (.cells (pgC p A B C) 26 (0, 0))
  qrow : W.heap[w9.heap.size]? = some (.cells (pgC p a' (.slice (some ⟨fb, 0, none⟩) p.flows.length cap) c') 26 (0, 0))
  same : ∀ b, b < w9.heap.size → b ≠ fb → W.heap[b]? = w9.heap[b]?
  blk : Blk W fb 43 8 cap
  done : ∀ i (h : i < p.flows.length), i < k → FlCells W fb (i * 8) (p.flows[p.flows.length - 1 - i]) (sl (p.flows.length - 1 - i))
theorem TQ.start {w w9 : World} {p : Pg} {A B C a' c' : Value} {fb cap : Nat} {sl : Nat → Value} (h : FV w p A B C w9) (hb : Blk w9 fb 43 8 cap) :
    TQ w w9 p A B C a' c' fb cap sl 0 (w9.alloc (.cells #[.int .i64 p.st, a', .slice (some ⟨fb, 0, none⟩) p.flows.length cap, c'] 26)) where
  below := h.below.alloc h.below.size _
  row := push_old h.row
  qrow := push_new _ _ _ rfl
  same := fun b hb _ => Below.heap_alloc _ _ _ hb
  blk := hb.keep ((Below.refl _ _).alloc (Nat.le_refl _) _)
  done := fun i _ h => by omega
theorem TQ.keep {w w9 : World} {p : Pg} {A B C a' c' : Value} {fb cap : Nat} {sl : Nat → Value} {k : Nat} {W W' : World} (h : TQ w w9 p A B C a' c' fb cap sl k W) (hb : Below W.heap.size W W') : TQ w w9 p A B C a' c' fb cap sl k W' where
  below := h.below.trans (hb.mono h.below.size)
  row := keep_row h.row hb
  qrow := keep_row h.qrow hb
  same := fun b h1 h2 => (hb.block b (Nat.lt_of_lt_of_le (Nat.lt_of_lt_of_le h1 (Nat.le_of_lt (Array.getElem?_eq_some_iff.1 h.qrow).1)) (Nat.le_refl _))).trans (h.same b h1 h2)
  blk := h.blk.keep hb
  done := fun i h1 h2 => (h.done i h1 h2).keep hb
theorem TQ.store {w w9 : World} {p : Pg} {A B C a' c' : Value} {fb cap : Nat} {sl : Nat → Value} {k m : Nat} {W : World} (h : TQ w w9 p A B C a' c' fb cap sl k W) (h1 : w.heap.size < fb) (h2 : fb < w9.heap.size) (hc : p.flows.length < cap) (hm : p.flows.length = k + 1 + m) (y : Fl) (hy : p.flows[m]'(by omega) = y) (s : Value) (hs : sl m = s) : TQ w w9 p A B C a' c' fb cap sl (k + 1) (W.setCells fb (k * 8) (flL y s)) where
  below := h.below.grown (grown_setCells _ _ _ _) h.below.size (fun j hj => by cases hj; omega)
  row := by rw [heap_setCells_other (by omega)]; exact h.row
  qrow := by rw [heap_setCells_other (by omega)]; exact h.qrow
  same := fun b hb hn => by rw [heap_setCells_other hn]; exact h.same b hb hn
  blk := h.blk.set _ _ _
  done := fun i hi hik => by
    have ht := h.blk.there (o := k * 8) (n := 8) (by omega)
    by_cases e : i = k
    · subst e
      have C := World.rangeAt_setCells_same W fb (i * 8) (flL y s) ht
      have e1 : p.flows.length - 1 - i = m := by omega
      subst hy hs
      simp only [e1]
      exact ⟨C 0 _ rfl, C 1 _ rfl, C 2 _ rfl, C 3 _ rfl, C 4 _ rfl, C 5 _ rfl, C 6 _ rfl, C 7 _ rfl⟩
    · obtain ⟨d0, d1, d2, d3, d4, d5, d6, d7⟩ := h.done i hi (by omega)
      have k' : ∀ {o v}, o < k * 8 → W.cell? ⟨fb, o, none⟩ = some v → (W.setCells fb (k * 8) (flL y s)).cell? ⟨fb, o, none⟩ = some v := fun {o v} ho hv => by
        rw [World.cell?_setCells_out fb _ _ _ _ (fun _ _ => Or.inl ho)]; exact hv
      exact ⟨k' (by omega) d0, k' (by omega) d1, k' (by omega) d2, k' (by omega) d3, k' (by omega) d4, k' (by omega) d5, k' (by omega) d6, k' (by omega) d7⟩
/-- The program with its flows turned. -/
abbrev revP (p : Pg) : Pg := { p with flows := p.flows.reverse }
theorem TQ.pg {w w9 : World} {p : Pg} {A B C a' c' : Value} {fb cap : Nat} {sl : Nat → Value} {W : World} {lo : Nat} (h : TQ w w9 p A B C a' c' fb cap sl p.flows.length W)
    (hT : TwPg w9 lo p a' (.slice (some ⟨fb, 0, none⟩) p.flows.length cap) c') (hS : ∀ i (h : i < p.flows.length), St w p.flows[i].body (sl i)) :
    PgAt W (revP p) a' (.slice (some ⟨fb, 0, none⟩) p.flows.length cap) c' := by
  obtain ⟨b1, c1, e1, _, _, _, _, _, _, k1⟩ := id hT.ins
  obtain ⟨b3, c3, e3, _, _, _, _, _, _, k3⟩ := id hT.outs
  obtain ⟨b2, c2, sl2, e2, _, g1, g2, g3, _, _, _, k2⟩ := id hT.flows
  injection e2 with e2 _ e4
  injection e2 with e2
  injection e2 with e2 _ _
  subst e2 e4
  have hi := hT.ins.at
  have ho := hT.outs.at
  rw [e1] at hi ⊢
  rw [e3] at ho ⊢
  refine ⟨hT.st, hi.apart (k1.ne k2 (by decide)) h.same, ?_, ho.apart (k3.ne k2 (by decide)) h.same⟩
  refine ⟨some ⟨fb, 0, none⟩, cap, fun i => sl (p.flows.length - 1 - i), by simp, by simpa using g1, by simp; omega, fun x hx => g3 x (by simpa using hx), .inr ⟨fb, 0, rfl, fun i hi => ?_⟩, fun i hi => ?_⟩
  · have hi' : i < p.flows.length := by simpa using hi
    have := h.done i hi' hi'
    simpa using this
  · have hi' : i < p.flows.length := by simpa using hi
    have := (hS (p.flows.length - 1 - i) (by omega)).keep h.below
    simpa using this
end Go.Proofs.YtilpoiihoikhlaaDoor.Lex
namespace Go.Proofs.YtilpoiihoikhlaaDoor.Lex
open Go.ChangeShapes Go.WideShapes Go.ChangeAt Go.RowKit Go.Shelf
theorem fz_row {W : World} {b : Nat} {c : Array Value} {t : TypeId} (h : W.heap[b]? = some (.cells c t (0, 0))) (k : Nat) : W.frozen? ⟨b, k, none⟩ = false := by
  unfold World.frozen?
  rw [h]
  simp
/-- The rows of flows, each with its body's row. -/
abbrev esF (ps : List (Fl × Value)) : List (List Value) := ps.map fun (q : Fl × Value) => flL q.1 q.2
theorem esF_each (ps : List (Fl × Value)) : ∀ e ∈ esF ps, e.length = 8 := fun e he => by
  obtain ⟨q, _, rfl⟩ := List.mem_map.1 he
  rfl
theorem own_flows {X : World} {lo : Nat} {v : Value} {ps : List (Fl × Value)} (hown : X.ownsRow lo 43 8 v ps.length (esF ps).flatten) (hlen : ps.length ≤ 1466015503658) (hok : ∀ q ∈ ps, q.1.ok) (hst : ∀ q ∈ ps, St X q.1.body q.2) : FlowsAt X (ps.map (·.1)) v := by
  have hx : ∀ k, k < ps.length * 8 → ∀ g cap, v = .slice (some ⟨g, 0, none⟩) ps.length cap → X.cell? ⟨g, k, none⟩ = (esF ps).flatten[k]? := fun k hk g cap e => by subst e; exact hown.cellAt k hk
  have hst' : ∀ i (h : i < (ps.map fun (q : Fl × Value) => q.1).length), St X (ps.map fun (q : Fl × Value) => q.1)[i].body ((ps[i]?.map (·.2)).getD (.slice none 0 0)) := fun i hi => by
    have hi' : i < ps.length := by simpa using hi
    rw [List.getElem?_eq_getElem hi']
    simpa using hst ps[i] (List.getElem_mem hi')
  have hok' : ∀ x ∈ ps.map (·.1), x.ok := fun x hx => by
    obtain ⟨q, hq, rfl⟩ := List.mem_map.1 hx
    exact hok q hq
  rcases hown.2 with ⟨h, h0⟩ | ⟨g, cap, cur, e, _, _, hcap, _⟩
  · exact ⟨none, 0, fun i => (ps[i]?.map (·.2)).getD (.slice none 0 0), by rw [h]; simp [h0], by simpa using hlen, by simp [h0], hok', .inl (by simpa using h0), hst'⟩
  · refine ⟨some ⟨g, 0, none⟩, cap, fun i => (ps[i]?.map (·.2)).getD (.slice none 0 0), by rw [e]; simp, by simpa using hlen, by simpa using hcap, hok', .inr ⟨g, 0, rfl, fun i hi => ?_⟩, hst'⟩
    have hi' : i < ps.length := by simpa using hi
    have he : (esF ps)[i]? = some (flL ps[i].1 ps[i].2) := by rw [List.getElem?_map, List.getElem?_eq_getElem hi']; rfl
    have c : ∀ j u, (flL ps[i].1 ps[i].2)[j]? = some u → X.cell? ⟨g, i * 8 + j, none⟩ = some u := fun j u hu => by
      have hj : j < 8 := (List.getElem?_eq_some_iff.1 hu).1
      rw [hx _ (by omega) g cap e]
      have := flat_at (rest := []) (esF_each ps) he hj
      rw [List.append_nil] at this
      rw [this]
      exact hu
    dsimp only
    rw [List.getElem?_eq_getElem hi']
    simp only [Nat.zero_add, List.getElem_map]
    exact ⟨c 0 _ rfl, c 1 _ rfl, c 2 _ rfl, c 3 _ rfl, c 4 _ rfl, c 5 _ rfl, c 6 _ rfl, c 7 _ rfl⟩
theorem TwFlows.own {w : World} {lo : Nat} {l : List Fl} {s : Value} (h : TwFlows w lo l s) : ∃ (ps : List (Fl × Value)) (fb cap : Nat), s = .slice (some ⟨fb, 0, none⟩) l.length cap ∧ ps.map (·.1) = l ∧ w.ownsRow lo 43 8 s l.length (esF ps).flatten ∧ ∀ q ∈ ps, Tw w (fb + 1) q.1.body q.2 := by
  obtain ⟨b, cap, sl, rfl, h1, h2, h3, h4, h5, h6, h7, cur, k1, k2, k3⟩ := h
  have hf : (List.ofFn fun (i : Fin l.length) => ((l[i], sl i) : Fl × Value)).map (·.1) = l := by
    apply List.ext_getElem
    · simp
    · intro i h1 h2; simp
  refine ⟨List.ofFn fun (i : Fin l.length) => (l[i], sl i), b, cap, rfl, hf, ⟨?_, .inr ⟨b, cap, cur, rfl, h1, k1, by omega, k3, k2, ?_⟩⟩, ?_⟩
  · rw [flat_len (esF_each _)]; simp
  · apply List.ext_getElem?
    intro k
    by_cases hk : k < l.length * 8
    · rw [List.getElem?_take_of_lt (by simpa using hk)]
      have hi : k / 8 < l.length := by omega
      have e : k = k / 8 * 8 + k % 8 := by omega
      have he : (esF (List.ofFn fun (i : Fin l.length) => ((l[i], sl i) : Fl × Value)))[k / 8]? = some (flL l[k / 8] (sl (k / 8))) := by
        rw [List.getElem?_map, List.getElem?_eq_getElem (by simpa using hi)]
        simp
      have f := flat_at (rest := []) (j := k % 8) (esF_each _) he (by omega)
      rw [List.append_nil] at f
      conv => rhs; rw [e]
      rw [f]
      have c : ∀ j, w.cell? ⟨b, k / 8 * 8 + j, none⟩ = cur[k / 8 * 8 + j]? := fun j => cell_of_row w b _ cur 43 (0, 0) k1
      obtain ⟨d0, d1, d2, d3, d4, d5, d6, d7⟩ := h5 (k / 8) hi
      have hj : k % 8 < 8 := by omega
      rw [Array.getElem?_toList]
      conv => lhs; rw [e]
      rw [← c]
      generalize k % 8 = j at hj ⊢
      match j, hj with
      | 0, _ => simpa using d0
      | 1, _ => simpa using d1
      | 2, _ => simpa using d2
      | 3, _ => simpa using d3
      | 4, _ => simpa using d4
      | 5, _ => simpa using d5
      | 6, _ => simpa using d6
      | 7, _ => simpa using d7
    · rw [List.getElem?_eq_none (by simp; omega), List.getElem?_eq_none (by rw [flat_len (esF_each _)]; simp; omega)]
  · intro q hq
    obtain ⟨i, rfl⟩ := List.mem_ofFn.1 hq
    exact h7 i i.2
/-- The twin whose outs and flows are exchanged. -/
structure QV (w9 : World) (st : Int) (a' b' c' : Value) (W : World) : Prop where
  below : Below w9.heap.size w9 W
  row : W.heap[w9.heap.size]? = some (.cells #[.int .i64 st, a', b', c'] 26 (0, 0))
theorem QV.new (w9 : World) (st : Int) (a' b' c' : Value) : QV w9 st a' b' c' (w9.alloc (.cells #[.int .i64 st, a', b', c'] 26)) := ⟨(Below.refl _ _).alloc (Nat.le_refl _) _, push_new _ _ _ rfl⟩
theorem QV.keep {w9 W W' : World} {st : Int} {a' b' c' : Value} (h : QV w9 st a' b' c' W) (hb : Below W.heap.size W W') : QV w9 st a' b' c' W' := ⟨h.below.trans (hb.mono h.below.size), keep_row h.row hb⟩
theorem QV.outs {w9 W : World} {st : Int} {a' b' c' : Value} (h : QV w9 st a' b' c' W) (u : Value) : QV w9 st a' b' u (W.setCell ⟨w9.heap.size, 3, none⟩ u) := ⟨h.below.setCell (p := ⟨w9.heap.size, 3, none⟩) (Nat.le_refl _) _, by rw [set_same h.row]; rfl⟩
theorem QV.flows {w9 W : World} {st : Int} {a' b' c' : Value} (h : QV w9 st a' b' c' W) (u : Value) : QV w9 st a' u c' (W.setCell ⟨w9.heap.size, 2, none⟩ u) := ⟨h.below.setCell (p := ⟨w9.heap.size, 2, none⟩) (Nat.le_refl _) _, by rw [set_same h.row]; rfl⟩
theorem texts_nil (W : World) : TextsAt W [] (.slice none 0 0) := ⟨none, 0, rfl, by decide, Nat.le_refl _, (fun x hx => by cases hx), .inl rfl⟩
theorem QV.pg {w9 W : World} {p : Pg} {lo : Nat} {a' b' c' u : Value} (h : QV w9 p.st a' b' u W) (hT : TwPg w9 lo p a' b' c') : PgAt W { p with outs := [] } a' b' (.slice none 0 0) :=
  ⟨hT.st, (hT.keep h.below).at.ins, (hT.keep h.below).at.flows, texts_nil W⟩
theorem QV.pg2 {w9 W : World} {p : Pg} {lo : Nat} {a' b' c' : Value} {l : List Fl} {v : Value} (h : Below w9.heap.size w9 W) (hT : TwPg w9 lo p a' b' c') (hF : FlowsAt W l v) : PgAt W { p with flows := l, outs := [] } a' v (.slice none 0 0) :=
  ⟨hT.st, (hT.keep h).at.ins, hF, texts_nil W⟩
/-- The twin with one more flow. -/
structure TV (lo : Nat) (p : Pg) (y : Fl) (s a2 v2 c2 : Value) (kt : Nat) (W : World) : Prop where
  row : W.heap[kt]? = some (.cells #[.int .i64 p.st, a2, v2, c2] 26 (0, 0))
  hi : lo ≤ kt
  st : -9223372036854775808 ≤ p.st ∧ p.st ≤ 9223372036854775807
  ins : TwIns W lo p.ins a2
  outs : TwTexts W lo p.outs c2
  flows : ∃ ps : List (Fl × Value), ps.map (·.1) = p.flows ∧ W.ownsRow lo 43 8 v2 (ps ++ [(y, s)]).length (esF (ps ++ [(y, s)])).flatten ∧ ∀ q ∈ ps, Tw W lo q.1.body q.2
theorem own_carry {w W : World} {lo t c n : Nat} {v : Value} {xs : List Value} (h : w.ownsRow lo t c v n xs) (hb : ∀ b, lo ≤ b → b < w.heap.size → W.heap[b]? = w.heap[b]?) : W.ownsRow lo t c v n xs := by
  refine ⟨h.1, h.2.imp_right ?_⟩
  rintro ⟨g, cap, cur, e, h1, h2, rest⟩
  exact ⟨g, cap, cur, e, h1, (hb g h1 (Array.getElem?_eq_some_iff.1 h2).1).trans h2, rest⟩
theorem TV.carry {lo : Nat} {p : Pg} {y : Fl} {s a2 v2 c2 : Value} {kt : Nat} {W W' : World} (h : TV lo p y s a2 v2 c2 kt W) (hb : ∀ b, lo ≤ b → b < W.heap.size → W'.heap[b]? = W.heap[b]?) : TV lo p y s a2 v2 c2 kt W' := by
  obtain ⟨ps, h1, h2, h3⟩ := h.flows
  exact ⟨(hb kt h.hi (Array.getElem?_eq_some_iff.1 h.row).1).trans h.row, h.hi, h.st, h.ins.carry hb (Nat.le_refl _), h.outs.carry hb (Nat.le_refl _), ps, h1, own_carry h2 hb, fun q hq => Tw.carryN hb (Nat.le_refl _) _ _ _ (Nat.le_refl _) (h3 q hq)⟩
theorem TV.keep {lo : Nat} {p : Pg} {y : Fl} {s a2 v2 c2 : Value} {kt : Nat} {W W' : World} (h : TV lo p y s a2 v2 c2 kt W) (hb : Below W.heap.size W W') : TV lo p y s a2 v2 c2 kt W' := h.carry (fun b _ hlt => hb.block b hlt)
theorem TV.pg {lo : Nat} {p : Pg} {y : Fl} {s a2 v2 c2 : Value} {kt : Nat} {W : World} (h : TV lo p y s a2 v2 c2 kt W) (hl : p.flows.length ≤ 128) (hok : ∀ x ∈ p.flows, x.ok) (hy : y.ok) (hS : St W y.body s) : PgAt W { p with flows := p.flows ++ [y] } a2 v2 c2 := by
  obtain ⟨ps, h1, h2, h3⟩ := h.flows
  have hlen : ps.length = p.flows.length := by rw [← h1]; simp
  have := own_flows h2 (by simp; omega) (fun q hq => by
    rcases List.mem_append.1 hq with hq | hq
    · exact hok _ (by rw [← h1]; exact List.mem_map_of_mem hq)
    · rw [List.mem_singleton.1 hq]; exact hy) (fun q hq => by
    rcases List.mem_append.1 hq with hq | hq
    · exact (h3 q hq).st
    · rw [List.mem_singleton.1 hq]; exact hS)
  rw [List.map_append, h1] at this
  exact ⟨h.st, h.ins.at, this, h.outs.at⟩
theorem HdCells.blk {w W : World} {b p : Nat} {x : Hd} (h : HdCells w b p x) (hb : W.heap[b]? = w.heap[b]?) : HdCells W b p x := by
  have k : ∀ {o v}, w.cell? ⟨b, o, none⟩ = some v → W.cell? ⟨b, o, none⟩ = some v := fun {o v} h => by
    rw [World.cell?_of_block (w := w) (a := ⟨b, o, none⟩) hb]; exact h
  exact ⟨k h.1, k h.2.1, k h.2.2⟩
theorem TwIns.apart {w W : World} {lo : Nat} {l : List Hd} {s : Value} {fb c cap : Nat} (h : TwIns w lo l s) (hf : Blk w fb 43 c cap) (hk : ∀ b, b < w.heap.size → b ≠ fb → W.heap[b]? = w.heap[b]?) : TwIns W lo l s := by
  obtain ⟨b, cp, rfl, h1, h2, h3, h4, h5, h6, h8⟩ := h
  have hne := h8.ne hf (by decide)
  have hb : W.heap[b]? = w.heap[b]? := by
    obtain ⟨cur, e, _⟩ := h8
    exact hk b (Array.getElem?_eq_some_iff.1 e).1 hne
  exact ⟨b, cp, rfl, h1, h2, h3, h4, fun i hi => (h5 i hi).blk hb, h6.blk hb, by obtain ⟨cur, e, r⟩ := h8; exact ⟨cur, hb.trans e, r⟩⟩
theorem TwTexts.apart {w W : World} {lo : Nat} {l : List ByteArray} {s : Value} {fb c cap : Nat} (h : TwTexts w lo l s) (hf : Blk w fb 43 c cap) (hk : ∀ b, b < w.heap.size → b ≠ fb → W.heap[b]? = w.heap[b]?) : TwTexts W lo l s := by
  obtain ⟨b, cp, rfl, h1, h2, h3, h4, h5, h6, h8⟩ := h
  have hne := h8.ne hf (by decide)
  have hb : W.heap[b]? = w.heap[b]? := by
    obtain ⟨cur, e, _⟩ := h8
    exact hk b (Array.getElem?_eq_some_iff.1 e).1 hne
  have k : ∀ {o v}, w.cell? ⟨b, o, none⟩ = some v → W.cell? ⟨b, o, none⟩ = some v := fun {o v} h => by
    rw [World.cell?_of_block (w := w) (a := ⟨b, o, none⟩) hb]; exact h
  exact ⟨b, cp, rfl, h1, h2, h3, h4, fun i hi => k (h5 i hi), k h6, by obtain ⟨cur, e, r⟩ := h8; exact ⟨cur, hb.trans e, r⟩⟩
theorem tv_grown {w12 w6 : World} {fb : Nat} {o : Obj} {c : Array Value} (hf : fb < w12.heap.size) (hg : ((w12.alloc (.cells c 26)).alloc o).drew.grownBy w6 (some fb)) :
    (∀ b, b < w12.heap.size → b ≠ fb → w6.heap[b]? = w12.heap[b]?) ∧ w6.heap[w12.heap.size]? = some (.cells c 26 (0, 0)) ∧ w12.heap.size < w6.heap.size ∧ w6.os = w12.os ∧ w6.tape = w12.tape ∧ w6.output = w12.output := by
  have sz : ((w12.alloc (.cells c 26)).alloc o).drew.heap.size = w12.heap.size + 2 := by simp
  have hs := hg.size
  refine ⟨fun b hb hn => ?_, ?_, by omega, hg.os, hg.tape, hg.output⟩
  · rw [hg.block b (by omega) (by intro e; injection e with e; omega)]
    exact (Below.heap_alloc _ _ _ (by simp; omega)).trans (Below.heap_alloc _ _ _ hb)
  · rw [hg.block w12.heap.size (by omega) (by intro e; injection e with e; omega)]
    exact push_old (push_new _ _ _ rfl)
theorem news12 (w12 : World) (o1 : Obj) (y : Fl) (s : Value) : ∀ j u, (flL y s)[j]? = some u → ((w12.alloc o1).alloc (.cells (flL y s).toArray 43)).drew.cell? ((⟨w12.heap.size + 1, 0, none⟩ : Addr).add j) = some u := by
  intro j u hj
  have := next_cells (w12.alloc o1) (flL y s) 43 j u hj
  have e : (w12.alloc o1).heap.size = w12.heap.size + 1 := by simp
  rw [e] at this
  exact this
theorem tv_done {w12 w6 : World} {lo n : Nat} {p : Pg} {y : Fl} {s a2 c2 : Value} {fb cap0 gg cap : Nat} {o : Obj} {ps : List (Fl × Value)} (hT : TwPg w12 lo p a2 (.slice (some ⟨fb, 0, none⟩) p.flows.length cap0) c2) (hlo : lo ≤ w12.heap.size)
    (hps : ps.map (·.1) = p.flows) (hTw : ∀ q ∈ ps, Tw w12 (fb + 1) q.1.body q.2) (hn : n = p.flows.length)
    (hown : w6.ownsRow lo 43 8 (.slice (some ⟨gg, 0, none⟩) (n + 1) cap) (n + 1) ((esF ps).flatten ++ flL y s))
    (hg : ((w12.alloc (.cells #[.int .i64 p.st, a2, .slice (some ⟨fb, 0, none⟩) p.flows.length cap0, c2] 26)).alloc o).drew.grownBy w6 (some fb)) (hat : fb = gg ∨ gg = w12.heap.size + 2) :
    TV lo p y s a2 (.slice (some ⟨gg, 0, none⟩) (n + 1) cap) c2 w12.heap.size (w6.setCell ⟨w12.heap.size, 2, none⟩ (.slice (some ⟨gg, 0, none⟩) (n + 1) cap)) ∧ Below lo w12 (w6.setCell ⟨w12.heap.size, 2, none⟩ (.slice (some ⟨gg, 0, none⟩) (n + 1) cap)) := by
  obtain ⟨b, cp, sl, e, h1, h2, h3, h4, h5, h6, h7, h8⟩ := id hT.flows
  injection e with e1 _ e3
  injection e1 with e1
  injection e1 with e1 _ _
  subst e1 e3 hn
  have hf : fb < w12.heap.size := by obtain ⟨cur, e, _⟩ := h8; exact (Array.getElem?_eq_some_iff.1 e).1
  obtain ⟨g1, g2, g3, g4, g5, g6⟩ := tv_grown hf hg
  have hgk : gg ≠ w12.heap.size := by rcases hat with h | h <;> omega
  have same : ∀ b, b < w12.heap.size → b ≠ fb → (w6.setCell ⟨w12.heap.size, 2, none⟩ (.slice (some ⟨gg, 0, none⟩) (p.flows.length + 1) cap)).heap[b]? = w12.heap[b]? := fun b hb hn => (Below.heap_setCell _ _ _ _ (by simp; omega)).trans (g1 b hb hn)
  have gX : w6.grownBy (w6.setCell ⟨w12.heap.size, 2, none⟩ (.slice (some ⟨gg, 0, none⟩) (p.flows.length + 1) cap)) (some w12.heap.size) := ⟨rfl, rfl, rfl, by simp, fun k _ h => Below.heap_setCell _ _ _ _ (fun e => h (by rw [e]))⟩
  have own6 := hown.kept gX (.inr (by simp [Value.ownBlock]; omega))
  have hl : ps.length = p.flows.length := by rw [← hps]; simp
  refine ⟨⟨by rw [set_same g2]; rfl, hlo, hT.st, hT.ins.apart h8 same, hT.outs.apart h8 same, ps, hps, ?_, fun q hq => ?_⟩, ⟨g4, g5, g6, ?_, fun k hk => same k (by omega) (by omega)⟩⟩
  · have e1 : (ps ++ [(y, s)]).length = p.flows.length + 1 := by simp [hl]
    have e2 : (esF (ps ++ [(y, s)])).flatten = (esF ps).flatten ++ flL y s := by simp
    rw [e1, e2]
    exact own6
  · exact (Tw.carryN (fun b hb hlt => same b hlt (by omega)) (Nat.le_refl _) _ _ _ (Nat.le_refl _) (hTw q hq)).low (by omega)
  · have := gX.size
    omega
/-- The row of the flows that are left, while it is made. -/
structure LV (w14 : World) (qs : List (Fl × Value)) (fl : Value) (W : World) : Prop where
  below : Below w14.heap.size w14 W
  own : W.ownsRow w14.heap.size 43 8 fl qs.length (esF qs).flatten
theorem LV.start (w14 : World) : LV w14 [] (.slice none 0 0) w14 := ⟨Below.refl _ _, rfl, .inl ⟨rfl, rfl⟩⟩
theorem LV.keep {w14 W W' : World} {qs : List (Fl × Value)} {fl : Value} (h : LV w14 qs fl W) (hb : Below W.heap.size W W') : LV w14 qs fl W' :=
  ⟨h.below.trans (hb.mono h.below.size), own_carry h.own (fun b _ hlt => hb.block b hlt)⟩
theorem LV.grow {w14 W W' : World} {qs : List (Fl × Value)} {fl fl' : Value} {y : Fl} {s : Value} (h : LV w14 qs fl W) (hown : W'.ownsRow w14.heap.size 43 8 fl' (qs.length + 1) ((esF qs).flatten ++ flL y s)) (hg : W.grownBy W' fl.ownBlock) : LV w14 (qs ++ [(y, s)]) fl' W' where
  below := h.below.grown hg h.below.size (fun j hj => by
    rcases h.own.2 with ⟨e, _⟩ | ⟨g, cap, cur, e, h1, _⟩
    · rw [e] at hj; cases hj
    · rw [e] at hj; have hj' : g = j := by injection hj
      omega)
  own := by
    have e1 : (qs ++ [(y, s)]).length = qs.length + 1 := by simp
    have e2 : (esF (qs ++ [(y, s)])).flatten = (esF qs).flatten ++ flL y s := by simp
    rw [e1, e2]
    exact hown
theorem LV.slice {w14 W : World} {qs : List (Fl × Value)} {fl : Value} (h : LV w14 qs fl W) : ∃ ao cap, fl = .slice ao qs.length cap := by
  rcases h.own.2 with ⟨e, e0⟩ | ⟨g, cap, cur, e, _⟩
  · exact ⟨none, 0, by rw [e, e0]⟩
  · exact ⟨_, cap, e⟩
/-- Is the name asked for? -/
def ak (nm : ByteArray) (l : List Fl) : Bool := !(l.all fun f => (asksOf f).all fun s => !decide (nm.data.toList = s.data.toList))
theorem ak_snoc (nm : ByteArray) (l : List Fl) (f : Fl) : ak nm (l ++ [f]) = (ak nm l || (gat 32 f.body 0 []).any fun z => decide (nm.data.toList = z.1.data.toList)) := by
  unfold ak asksOf
  simp only [List.all_append, List.all_cons, List.all_nil, Bool.and_true, Bool.not_and, List.all_map]
  congr 1
  rw [List.not_all_eq_any_not]
  simp
theorem erase_same {α : Type} (l : List α) (k : Nat) (hk : k < l.length) : (l.take (k + 1)).eraseIdx k = (l.take k).eraseIdx k := by
  have e : (l.take k).length = k := by simp; omega
  rw [List.take_succ_eq_append_getElem hk, List.eraseIdx_append_of_length_le (by omega), e, List.eraseIdx_of_length_le (l := l.take k) (by omega)]
  simp
theorem erase_more {α : Type} (l : List α) (k m : Nat) (hm : m < l.length) (hne : m ≠ k) : (l.take (m + 1)).eraseIdx k = (l.take m).eraseIdx k ++ [l[m]] := by
  rw [List.take_succ_eq_append_getElem hm]
  by_cases h : k < m
  · rw [List.eraseIdx_append_of_lt_length (by simp; omega)]
  · rw [List.eraseIdx_of_length_le (by simp; omega), List.eraseIdx_of_length_le (by simp; omega)]
theorem less_err {p : Pg} (hp : pgOk p = true) (hn : nmOk p = true) (k : Nat) (hk : k < p.flows.length) (y : Fl) (hy : p.flows[k] = y) (l : List Fl) (hl : l = (p.flows.take p.flows.length).eraseIdx k) : nmErr { p with flows := l, outs := [] } = if ak y.name l then 6 else 0 := by
  subst hl hy
  rw [List.take_length, List.eraseIdx_eq_take_drop_succ, less_flow hp hn k hk]
  unfold ak
  cases (p.flows.take k ++ p.flows.drop (k + 1)).all (fun f => (asksOf f).all fun s => !decide (p.flows[k].name.data.toList = s.data.toList)) <;> rfl
theorem twice_err {p : Pg} (hp : pgOk p = true) (k : Nat) (hk : k < p.flows.length) (y : Fl) (hy : p.flows[k] = y) : nmErr { p with flows := p.flows ++ [y] } = if p.flows.length + 1 ≤ 128 then 6 else 1 := by
  subst hy
  exact twice_flow hp k hk
theorem LV.set {w14 W : World} {qs : List (Fl × Value)} {fl u : Value} {kq : Nat} (h : LV w14 qs fl W) (hk : kq < w14.heap.size) : (W.setCell ⟨kq, 2, none⟩ u).ownsRow w14.heap.size 43 8 fl qs.length (esF qs).flatten :=
  own_carry h.own (fun b hb _ => Below.heap_setCell _ _ _ _ (by simp; omega))
end Go.Proofs.YtilpoiihoikhlaaDoor.Lex
