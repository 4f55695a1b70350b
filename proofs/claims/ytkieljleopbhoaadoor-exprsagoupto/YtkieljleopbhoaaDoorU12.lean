/-
  An operator asks for what its parts do: the walk of the law, where what came in is not too great.
-/
import Derived.Test.YtkieljleopbhoaaDoorU11
namespace Go.Proofs.YtkieljleopbhoaaDoor.Lex
open Go.ChangeShapes Go.WideShapes Go.ChangeAt Go.RowKit Go.Joins
set_option maxRecDepth 100000 in
set_option maxHeartbeats 8000000 in
theorem walk6 (x y : Ex) (o : Nat) (w : World) (s t : Value) (hS : St w x s) (hT : St w y t) (ho256 : o < 256) (hzx : esz x ≤ 1048576) (hzy : esz y ≤ 1048576) (A : AEnv w) : Calls Tryd.prog 6 #[exV x s, exV y t, .int .u8 (o : Int)] w fun e w' => e = .returned (.bool true) ∧ Below w.heap.size w w' := by
  obtain ⟨ao, cap, _, rfl, _⟩ := hS.out
  obtain ⟨bo, cap2, _, rfl, _⟩ := hT.out
  have B2 := bstep ((Below.refl w.heap.size w).alloc (Nat.le_refl _) (.cells (ex4 x (.slice ao x.args.length cap)) 25)) ((Below.refl _ _).alloc (Nat.le_refl _) (.cells (ex4 y (.slice bo y.args.length cap2)) 25))
  have G0 := hid (AG.mk (w := w) (W := ((w.alloc (.cells (ex4 x (.slice ao x.args.length cap)) 25)).alloc (.cells (ex4 y (.slice bo y.args.length cap2)) 25))) (push_old (push_new _ _ _ rfl)) (push_new _ _ _ (by simp)) (hS.keep B2) (hT.keep B2) (A.below B2) B2)
  have HZX := hid hzx
  have HZY := hid hzy
  clear B2 hS hT A hzx hzy
  go_enter Tryd.func6, Tryd.ntmps6
  go_wp2_with (fail)
  refine (alive _ G0.out.A).mono ?_
  rintro e w1 ⟨rfl, b1⟩
  have G1 := hid (G0.out.keep b1)
  clear b1 G0
  obtain ⟨p0, p1, p2, p3⟩ := row_cells4 G1.out.xrow
  go_wp2_with (fail)
  refine (size_all _ x (Nat.le_refl _) _ _ G1.out.S HZX.out).mono ?_
  rintro e w2 ⟨rfl, b2⟩
  have G2 := hid (G1.out.keep b2)
  clear b2 G1 p0 p1 p2 p3
  by_cases hmx : (3000 : Int) < (esz x : Int)
  · go_wp2_with (fail)
    refine (alive _ G2.out.A).mono ?_
    rintro e w90 ⟨rfl, b90⟩
    have BZ := hid (bstep G2.out.below b90)
    clear b90
    go_wp2_with (fail)
    go_ret
    exact ⟨rfl, BZ.out⟩
  · have HEX : Hid (esz x ≤ 3000) := hid (by omega)
    obtain ⟨q0, q1, q2, q3⟩ := row_cells4 G2.out.yrow
    go_wp2_with (fail)
    refine (size_all _ y (Nat.le_refl _) _ _ G2.out.T HZY.out).mono ?_
    rintro e w3 ⟨rfl, b3⟩
    have G3 := hid (G2.out.keep b3)
    clear b3 G2 q0 q1 q2 q3
    by_cases hmy : (3000 : Int) < (esz y : Int)
    · go_wp2_with (fail)
      refine (alive _ G3.out.A).mono ?_
      rintro e w90 ⟨rfl, b90⟩
      have BZ := hid (bstep G3.out.below b90)
      clear b90
      go_wp2_with (fail)
      go_ret
      exact ⟨rfl, BZ.out⟩
    · have HEY : Hid (esz y ≤ 3000) := hid (by omega)
      by_cases ho3 : o = 3
      · have ho3' : ((o : Int) == 3) = true := by rw [beq_iff_eq]; omega
        go_wp2_with (fail)
        refine (alive _ G3.out.A).mono ?_
        rintro e w90 ⟨rfl, b90⟩
        have BZ := hid (bstep G3.out.below b90)
        clear b90
        go_wp2_with (fail)
        go_ret
        exact ⟨rfl, BZ.out⟩
      · have ho3' : ((o : Int) == 3) = false := by rw [beq_eq_false_iff_ne]; omega
        have HNX := hid (esz_nm 3000 x HEX.out (by omega))
        have HNY := hid (esz_nm 3000 y HEY.out (by omega))
        have HCX : Hid (cnt 3000 x ≤ 3000) := hid (Nat.le_trans (esz_cnt 3000 x) HEX.out)
        have HCY : Hid (cnt 3000 y ≤ 3000) := hid (Nat.le_trans (esz_cnt 3000 y) HEY.out)
        have hLA : (gat 3000 x 0 []).length ≤ 3000 := by have h1 := gat_lenA 3000 x 0 []; have h2 := HCX.out; simp at h1; omega
        have hLB : (gat 3000 y 0 []).length ≤ 3000 := by have h1 := gat_lenA 3000 y 0 []; have h2 := HCY.out; simp at h1; omega
        have HGA := hid (gat_ago 3000 x)
        have HGB := hid (gat_ago 3000 y)
        have HGP := hid (gat_pre 3000 x)
        obtain ⟨p0, p1, p2, p3⟩ := row_cells4 G3.out.xrow
        go_wp2_with (fail)
        refine (refs 3000 x _ _ G3.out.S HNX.out (by omega) (by have := HCX.out; omega)).mono ?_
        rintro e w4 ⟨va4, rfl, hr4, b4⟩
        obtain ⟨aa, ac, rfl, hra⟩ := RfAt.of_own hr4
        have HRA := hid hra
        have G4 := hid (G3.out.keep b4)
        clear b4 G3 hr4 hra p0 p1 p2 p3
        obtain ⟨q0, q1, q2, q3⟩ := row_cells4 G4.out.yrow
        go_wp2_with (fail)
        refine (refs 3000 y _ _ G4.out.T HNY.out (by omega) (by have := HCY.out; omega)).mono ?_
        rintro e w5 ⟨vb5, rfl, hr5, b5⟩
        obtain ⟨ba, bc, rfl, hrb⟩ := RfAt.of_own hr5
        have HRB := hid hrb
        have G5 := hid (G4.out.keep b5)
        have HB45 := hid b5
        clear b5 G4 hr5 hrb q0 q1 q2 q3
        obtain ⟨p0, p1, p2, p3⟩ := row_cells4 G5.out.xrow
        have NB := (Below.refl w5.heap.size w5).alloc (Nat.le_refl _) (.cells (ex4 x (.slice ao x.args.length cap)) 25)
        have G5b := hid (G5.out.keep NB)
        have R5 := hid (show (w5.alloc (.cells (ex4 x (.slice ao x.args.length cap)) 25)).heap[w5.heap.size]? = some (.cells (ex4 x (.slice ao x.args.length cap)) 25 (0, 0)) from push_new _ _ _ rfl)
        have HB5b := hid NB
        clear NB
        go_wp2_with (fail)
        refine (of_at 19 _ _ _ [x] _).mono ?_
        rintro e w6 ⟨rfl, b6⟩
        have G6 := hid (G5b.out.keep b6)
        have R6 := hid (keep_rowA R5.out b6)
        have HB56 := hid (bstep HB5b.out b6)
        clear b6 G5 G5b R5 HB5b p0 p1 p2 p3
        go_wp2_with (fail)
        refine (refs 3001 ⟨19, 0, ByteArray.empty, [x]⟩ _ _ (st_one 19 (by omega) _ G6.out.S R6.out) (nm_one HNX.out) (by omega) (by rw [cnt_one]; have := HCX.out; omega)).mono ?_
        rintro e w7 ⟨vp7, rfl, hr7, b7⟩
        rw [gat_pre 3000 x] at hr7
        generalize hLP : (gat 3000 x 0 []).map (later 1) = Lp at hr7
        have HPL : Hid (Lp.length = (gat 3000 x 0 []).length) := hid (by rw [← hLP]; simp)
        have HPZ : Hid (∀ i (h : i < (gat 3000 x 0 []).length) (h2 : i < Lp.length), Lp[i] = later 1 (gat 3000 x 0 [])[i]) := hid (by intro i h h2; subst hLP; simp)
        clear hLP
        obtain ⟨pa, pc, rfl, hrp⟩ := RfAt.of_own hr7
        have HRP := hid hrp
        have G7 := hid (G6.out.keep b7)
        have HB57 := hid (bstep HB56.out b7)
        have HB47 := hid (bstep HB45.out HB57.out)
        clear b7 G6 R6 hr7 hrp HB56 HB45 HGP
        obtain ⟨i0, hi, hz0, hz1, hz2⟩ := info_parts inf51A
        by_cases ho19 : o = 19
        · have ho19' : ((o : Int) == 19) = true := by rw [beq_iff_eq]; omega
          have HMO : Hid (moreOf o = 1) := hid (by unfold moreOf; rw [if_pos ho19])
          clear ho19
          go_wp2_with (fail)
          generalize hL : gat 3000 x 0 [] = La at *
          generalize hL2 : gat 3000 y 0 [] = Lb at *
          have HLA := hid hL
          have HLB := hid hL2
          clear hL hL2
          go_loopw [11, 12] (fun v i wr => ∃ k : Nat, k ≤ La.length + Lb.length ∧ i = .int .i64 (k : Int) ∧ Hid (WL w7 (wantA (La ++ Lb) 1 k) v wr)) (fun _ i _ => La.length + Lb.length - (intOf i).toNat)
          case atStart => exact ⟨0, Nat.zero_le _, rfl, hid (WL.start w7)⟩
          case round =>
            obtain ⟨k, hk, rfl, HW⟩ := hrel
            by_cases hlt : k < La.length + Lb.length
            · have hlt' : (k : Int) < (La.length : Int) + (Lb.length : Int) := by omega
              have hk0 : (0 : Int) ≤ (k : Int) := by omega
              have hkl : k < (La ++ Lb).length := by simpa using hlt
              have HSU := hid (wantA_succ (La ++ Lb) 1 k hkl)
              have hal : (wantA (La ++ Lb) 1 k).length ≤ 6000 := Nat.le_trans (wantA_len _ _ _) (by omega)
              have HAG : Hid (((La ++ Lb)[k].2 : Int) ≤ 3000) := hid (by
                rcases List.mem_append.1 (List.getElem_mem hkl) with h | h
                · have := HGA.out _ h; omega
                · have := HGB.out _ h; omega)
              generalize wantA (La ++ Lb) 1 k = acc at *
              obtain ⟨va, vc, rfl, _⟩ := RfAt.of_own HW.out.own
              have key : ∀ (z : Rf) (_ : z = (La ++ Lb)[k]), (k < La.length ∧ (∃ ag, aa = some ⟨ag, 0, none⟩ ∧ wr.cell? ⟨ag, k * 2, none⟩ = some (.string z.1) ∧ wr.cell? ⟨ag, k * 2 + 1, none⟩ = some (.int .i64 (z.2 : Int)))) ∨ (¬ k < La.length ∧ ∃ (j : Nat), j < Lb.length ∧ (k : Int) - (La.length : Int) = (j : Int) ∧ (∃ bg, ba = some ⟨bg, 0, none⟩ ∧ wr.cell? ⟨bg, j * 2, none⟩ = some (.string z.1) ∧ wr.cell? ⟨bg, j * 2 + 1, none⟩ = some (.int .i64 (z.2 : Int)))) := by
                intro z hz
                by_cases h : k < La.length
                · obtain ⟨ag, e, hcc⟩ := HRA.out.resolve_left (by omega)
                  refine .inl ⟨h, ag, e, ?_⟩
                  have ez : z = La[k] := by rw [hz, List.getElem_append_left h]
                  rw [ez]
                  exact ⟨cell_kept (cell_kept (hcc k h).1 HB47.out) HW.out.below, cell_kept (cell_kept (hcc k h).2 HB47.out) HW.out.below⟩
                · have hj : k - La.length < Lb.length := by omega
                  obtain ⟨bg, e, hcc⟩ := HRB.out.resolve_left (by omega)
                  refine .inr ⟨h, k - La.length, hj, by omega, bg, e, ?_⟩
                  have ez : z = Lb[k - La.length] := by rw [hz, List.getElem_append_right (by omega)]
                  rw [ez]
                  exact ⟨cell_kept (cell_kept (hcc _ hj).1 HB57.out) HW.out.below, cell_kept (cell_kept (hcc _ hj).2 HB57.out) HW.out.below⟩
              have KEY := hid (key _ rfl)
              clear key
              generalize (La ++ Lb)[k] = z at *
              clear hkl
              have hza := HAG.out
              clear HAG
              have hza0 : (0 : Int) ≤ (z.2 : Int) := by omega
              have hcast : ((z.2 + 1 : Nat) : Int) = ((z.2 : Int) + 1) := by omega
              have NB := (Below.refl wr.heap.size wr).alloc (Nat.le_refl _) (.cells #[.string z.1, .int .i64 ((z.2 : Int) + 1)] 51)
              have I5 : Hid (IN w7 acc (.slice va acc.length vc) wr.heap.size (later 1 z) (wr.alloc (.cells #[.string z.1, .int .i64 ((z.2 : Int) + 1)] 51))) := hid ⟨HW.out.keep NB, by rw [show (later 1 z).1 = z.1 from rfl, show (later 1 z).2 = z.2 + 1 from rfl, hcast]; exact push_new _ _ _ rfl⟩
              clear NB hcast
              rcases KEY.out with ⟨hl, ag, rfl, y0, y1⟩ | ⟨hl, j, hj, hjk, bg, rfl, y0, y1⟩
              · have hl' : (k : Int) < (La.length : Int) := by omega
                have ZB := (Below.refl wr.heap.size wr).alloc (Nat.le_refl _) (.cells #[.string ⟨#[]⟩, .int .i64 0] 51)
                have y0' := cell_kept y0 ZB
                have y1' := cell_kept y1 ZB
                clear ZB y0 y1
                go_wp2_with (fail)
                generalize hz' : later 1 z = r at *
                generalize wr.alloc (.cells #[.string z.1, .int .i64 ((z.2 : Int) + 1)] 51) = W5 at *
                generalize wr.heap.size = rb at *
                clear hz'
                go_loopw [14, 15] (fun th i wv => ∃ t : Nat, t ≤ acc.length ∧ i = .int .i64 (t : Int) ∧ th = .bool (rIn (acc.take t) r) ∧ Hid (IN w7 acc (.slice va acc.length vc) rb r wv)) (fun _ i _ => acc.length - (intOf i).toNat)
                case atStart => exact ⟨0, Nat.zero_le _, rfl, rfl, I5⟩
                case round =>
                  obtain ⟨t, ht, rfl, rfl, HI⟩ := hrel
                  obtain ⟨y2, y3⟩ := HI.out.cells
                  by_cases htl : t < acc.length
                  · have htl' : (t : Int) < (acc.length : Int) := by omega
                    have ht0 : (0 : Int) ≤ (t : Int) := by omega
                    obtain ⟨a2, c2, e2, hh⟩ := RfAt.of_own HI.out.L.own
                    injection e2 with e2 _ e3
                    subst e2 e3
                    obtain ⟨g, rfl, hcc⟩ := hh.resolve_left (by omega)
                    obtain ⟨y0, y1⟩ := hcc t htl
                    have HT : Hid (rIn (acc.take (t + 1)) r = (rIn (acc.take t) r || (acc[t].1.data.toList == r.1.data.toList && acc[t].2 == r.2))) := hid (by unfold rIn; rw [List.take_succ_eq_append_getElem htl, List.any_append]; simp)
                    have RD := hid (HI.out.keep ((Below.refl _ _).drew))
                    clear hcc hh
                    generalize acc[t] = q at *
                    generalize rIn (acc.take t) r = th at *
                    generalize hbq : (q.1.data.toList == r.1.data.toList && q.2 == r.2) = bq at HT
                    have HBQ := hid hbq
                    clear hbq
                    cases th with
                    | true =>
                      go_wp2_with (fail)
                      refine wp_region_held_drew (S := fun V => V.cell? ⟨g, t * 2, none⟩ = some (.string q.1) ∧ V.cell? ⟨g, t * 2 + 1, none⟩ = some (.int .i64 (q.2 : Int)) ∧ V.cell? ⟨rb, 0, none⟩ = some (.string r.1) ∧ V.cell? ⟨rb, 1, none⟩ = some (.int .i64 (r.2 : Int))) (by kernel_rfl) ?_ (fun hHeld => ?_)
                      · exact ⟨y0, y1, y2, y3⟩
                      refine wpAnyH_take (i := 0) (oi := { dst := some 79, op := Go.Op.move (Go.Operand.tmp 14), type := 4, pos := _, after := #[], guard := none }) (v := ?_) rfl (by kernel_rfl) (by kernel_rfl) (by kernel_rfl) (fun _ _ _ h => h) (Or.inl ⟨by rfl, ?_⟩) (by assumption) ?_
                      rotate_left
                      · intro w hSw; (try dsimp only at hSw); go_simp <;> first | with_reducible rfl | (rw [if_neg (by first | omega | (simp only [ByteArray.size_append] at *; omega))])
                      simp only [Act.put, List.setIfInBounds_toArray, List.set_cons_zero, List.set_cons_succ]
                      refine wpAnyH_take (i := 1) (oi := { dst := some 80, op := Go.Op.move (Go.Operand.tmp 79), type := 4, pos := _, after := #[{ on := 0, ground := Go.Ground.data }], guard := none }) (v := ?_) rfl (by kernel_rfl) (by kernel_rfl) (by kernel_rfl) (fun _ _ _ h => h) (Or.inl ⟨by rfl, ?_⟩) (by assumption) ?_
                      rotate_left
                      · intro w hSw; (try dsimp only at hSw); go_simp <;> first | with_reducible rfl | (rw [if_neg (by first | omega | (simp only [ByteArray.size_append] at *; omega))])
                      simp only [Act.put, List.setIfInBounds_toArray, List.set_cons_zero, List.set_cons_succ]
                      refine wpAnyH_take (i := 2) (oi := { dst := some 81, op := Go.Op.move (Go.Operand.tmp 11), type := 47, pos := _, after := #[{ on := 1, ground := Go.Ground.guard }], guard := some (1, false) }) (v := undef) rfl (by kernel_rfl) (by kernel_rfl) (by kernel_rfl) (fun _ _ _ h => h) (Or.inr ⟨by rfl, rfl⟩) (by assumption) ?_
                      simp only [Act.put, List.setIfInBounds_toArray, List.set_cons_zero, List.set_cons_succ]
                      refine wpAnyH_take (i := 3) (oi := { dst := some 82, op := Go.Op.move (Go.Operand.tmp 15), type := 3, pos := _, after := #[{ on := 1, ground := Go.Ground.guard }], guard := some (1, false) }) (v := undef) rfl (by kernel_rfl) (by kernel_rfl) (by kernel_rfl) (fun _ _ _ h => h) (Or.inr ⟨by rfl, rfl⟩) (by assumption) ?_
                      simp only [Act.put, List.setIfInBounds_toArray, List.set_cons_zero, List.set_cons_succ]
                      refine wpAnyH_take (i := 4) (oi := { dst := some 83, op := Go.Op.indexAddr 47 (Go.Operand.tmp 81) (Go.Operand.tmp 82), type := 0, pos := _, after := #[{ on := 2, ground := Go.Ground.data }, { on := 3, ground := Go.Ground.data }, { on := 1, ground := Go.Ground.guard }], guard := some (1, false) }) (v := undef) rfl (by kernel_rfl) (by kernel_rfl) (by kernel_rfl) (fun _ _ _ h => h) (Or.inr ⟨by rfl, rfl⟩) (by assumption) ?_
                      simp only [Act.put, List.setIfInBounds_toArray, List.set_cons_zero, List.set_cons_succ]
                      refine wpAnyH_take (i := 5) (oi := { dst := some 84, op := Go.Op.load 51 (Go.Operand.tmp 83), type := 51, pos := _, after := #[{ on := 4, ground := Go.Ground.data }, { on := 1, ground := Go.Ground.guard }], guard := some (1, false) }) (v := undef) rfl (by kernel_rfl) (by kernel_rfl) (by kernel_rfl) (fun _ _ _ h => h) (Or.inr ⟨by rfl, rfl⟩) (by assumption) ?_
                      simp only [Act.put, List.setIfInBounds_toArray, List.set_cons_zero, List.set_cons_succ]
                      refine wpAnyH_take (i := 6) (oi := { dst := some 85, op := Go.Op.load 51 (Go.Operand.tmp 13), type := 51, pos := _, after := #[{ on := 1, ground := Go.Ground.guard }], guard := some (1, false) }) (v := undef) rfl (by kernel_rfl) (by kernel_rfl) (by kernel_rfl) (fun _ _ _ h => h) (Or.inr ⟨by rfl, rfl⟩) (by assumption) ?_
                      simp only [Act.put, List.setIfInBounds_toArray, List.set_cons_zero, List.set_cons_succ]
                      refine wpAnyH_take (i := 7) (oi := { dst := some 86, op := Go.Op.binOp Go.BinOp.eql 51 (Go.Operand.tmp 84) (Go.Operand.tmp 85) 51, type := 4, pos := _, after := #[{ on := 5, ground := Go.Ground.data }, { on := 6, ground := Go.Ground.data }, { on := 1, ground := Go.Ground.guard }], guard := some (1, false) }) (v := undef) rfl (by kernel_rfl) (by kernel_rfl) (by kernel_rfl) (fun _ _ _ h => h) (Or.inr ⟨by rfl, rfl⟩) (by assumption) ?_
                      simp only [Act.put, List.setIfInBounds_toArray, List.set_cons_zero, List.set_cons_succ]
                      refine wpAnyH_take (i := 8) (oi := { dst := some 87, op := Go.Op.pick (Go.Operand.tmp 80) (Go.Operand.const (Go.Value.bool true)) (Go.Operand.tmp 86), type := 4, pos := _, after := #[{ on := 1, ground := Go.Ground.data }, { on := 7, ground := Go.Ground.data }], guard := none }) (v := ?_) rfl (by kernel_rfl) (by kernel_rfl) (by kernel_rfl) (fun _ _ _ h => h) (Or.inl ⟨by rfl, ?_⟩) (by assumption) ?_
                      rotate_left
                      · intro w hSw; (try dsimp only at hSw); go_simp <;> first | with_reducible rfl | (rw [if_neg (by first | omega | (simp only [ByteArray.size_append] at *; omega))])
                      simp only [Act.put, List.setIfInBounds_toArray, List.set_cons_zero, List.set_cons_succ]
                      refine wpAnyH_take (i := 9) (oi := { dst := some 14, op := Go.Op.assign (Go.Operand.tmp 87), type := 4, pos := _, after := #[{ on := 8, ground := Go.Ground.data }, { on := 1, ground := Go.Ground.chain }, { on := 0, ground := Go.Ground.phase }, { on := 1, ground := Go.Ground.phase }, { on := 2, ground := Go.Ground.phase }, { on := 3, ground := Go.Ground.phase }, { on := 4, ground := Go.Ground.phase }, { on := 5, ground := Go.Ground.phase }, { on := 6, ground := Go.Ground.phase }, { on := 7, ground := Go.Ground.phase }, { on := 8, ground := Go.Ground.phase }], guard := none }) (v := ?_) rfl (by kernel_rfl) (by kernel_rfl) (by kernel_rfl) (fun _ _ _ h => h) (Or.inl ⟨by rfl, ?_⟩) (by assumption) ?_
                      rotate_left
                      · intro w hSw; (try dsimp only at hSw); go_simp <;> first | with_reducible rfl | (rw [if_neg (by first | omega | (simp only [ByteArray.size_append] at *; omega))])
                      simp only [Act.put, List.setIfInBounds_toArray, List.set_cons_zero, List.set_cons_succ]
                      refine wpAnyH_done (by kernel_rfl) ?_ _
                      go_wp2_with (fail)
                      go_roundw
                      case rel => exact ⟨t + 1, by omega, by go_num, by rw [HT.out]; rfl, RD⟩
                      case measure => simp [intOf]; omega
                    | false =>
                      go_wp2_with (fail)
                      refine wp_region_held_drew (S := fun V => V.cell? ⟨g, t * 2, none⟩ = some (.string q.1) ∧ V.cell? ⟨g, t * 2 + 1, none⟩ = some (.int .i64 (q.2 : Int)) ∧ V.cell? ⟨rb, 0, none⟩ = some (.string r.1) ∧ V.cell? ⟨rb, 1, none⟩ = some (.int .i64 (r.2 : Int))) (by kernel_rfl) ?_ (fun hHeld => ?_)
                      · exact ⟨y0, y1, y2, y3⟩
                      refine wpAnyH_take (i := 0) (oi := { dst := some 79, op := Go.Op.move (Go.Operand.tmp 14), type := 4, pos := _, after := #[], guard := none }) (v := ?_) rfl (by kernel_rfl) (by kernel_rfl) (by kernel_rfl) (fun _ _ _ h => h) (Or.inl ⟨by rfl, ?_⟩) (by assumption) ?_
                      rotate_left
                      · intro w hSw; (try dsimp only at hSw); go_simp <;> first | with_reducible rfl | (rw [if_neg (by first | omega | (simp only [ByteArray.size_append] at *; omega))])
                      simp only [Act.put, List.setIfInBounds_toArray, List.set_cons_zero, List.set_cons_succ]
                      refine wpAnyH_take (i := 1) (oi := { dst := some 80, op := Go.Op.move (Go.Operand.tmp 79), type := 4, pos := _, after := #[{ on := 0, ground := Go.Ground.data }], guard := none }) (v := ?_) rfl (by kernel_rfl) (by kernel_rfl) (by kernel_rfl) (fun _ _ _ h => h) (Or.inl ⟨by rfl, ?_⟩) (by assumption) ?_
                      rotate_left
                      · intro w hSw; (try dsimp only at hSw); go_simp <;> first | with_reducible rfl | (rw [if_neg (by first | omega | (simp only [ByteArray.size_append] at *; omega))])
                      simp only [Act.put, List.setIfInBounds_toArray, List.set_cons_zero, List.set_cons_succ]
                      refine wpAnyH_take (i := 2) (oi := { dst := some 81, op := Go.Op.move (Go.Operand.tmp 11), type := 47, pos := _, after := #[{ on := 1, ground := Go.Ground.guard }], guard := some (1, false) }) (v := ?_) rfl (by kernel_rfl) (by kernel_rfl) (by kernel_rfl) (fun _ _ _ h => h) (Or.inl ⟨by rfl, ?_⟩) (by assumption) ?_
                      rotate_left
                      · intro w hSw; (try dsimp only at hSw); go_simp <;> first | with_reducible rfl | (rw [if_neg (by first | omega | (simp only [ByteArray.size_append] at *; omega))])
                      simp only [Act.put, List.setIfInBounds_toArray, List.set_cons_zero, List.set_cons_succ]
                      refine wpAnyH_take (i := 3) (oi := { dst := some 82, op := Go.Op.move (Go.Operand.tmp 15), type := 3, pos := _, after := #[{ on := 1, ground := Go.Ground.guard }], guard := some (1, false) }) (v := ?_) rfl (by kernel_rfl) (by kernel_rfl) (by kernel_rfl) (fun _ _ _ h => h) (Or.inl ⟨by rfl, ?_⟩) (by assumption) ?_
                      rotate_left
                      · intro w hSw; (try dsimp only at hSw); go_simp <;> first | with_reducible rfl | (rw [if_neg (by first | omega | (simp only [ByteArray.size_append] at *; omega))])
                      simp only [Act.put, List.setIfInBounds_toArray, List.set_cons_zero, List.set_cons_succ]
                      refine wpAnyH_take (i := 4) (oi := { dst := some 83, op := Go.Op.indexAddr 47 (Go.Operand.tmp 81) (Go.Operand.tmp 82), type := 0, pos := _, after := #[{ on := 2, ground := Go.Ground.data }, { on := 3, ground := Go.Ground.data }, { on := 1, ground := Go.Ground.guard }], guard := some (1, false) }) (v := ?_) rfl (by kernel_rfl) (by kernel_rfl) (by kernel_rfl) (fun _ _ _ h => h) (Or.inl ⟨by rfl, ?_⟩) (by assumption) ?_
                      rotate_left
                      · intro w hSw; (try dsimp only at hSw); go_simp <;> first | with_reducible rfl | (rw [if_neg (by first | omega | (simp only [ByteArray.size_append] at *; omega))])
                      simp only [Act.put, List.setIfInBounds_toArray, List.set_cons_zero, List.set_cons_succ]
                      refine wpAnyH_take (i := 5) (oi := { dst := some 84, op := Go.Op.load 51 (Go.Operand.tmp 83), type := 51, pos := _, after := #[{ on := 4, ground := Go.Ground.data }, { on := 1, ground := Go.Ground.guard }], guard := some (1, false) }) (v := ?_) rfl (by kernel_rfl) (by kernel_rfl) (by kernel_rfl) (fun _ _ _ h => h) (Or.inl ⟨by rfl, ?_⟩) (by assumption) ?_
                      rotate_left
                      · intro w hSw; (try dsimp only at hSw); go_simp <;> first | with_reducible rfl | (rw [if_neg (by first | omega | (simp only [ByteArray.size_append] at *; omega))])
                      simp only [Act.put, List.setIfInBounds_toArray, List.set_cons_zero, List.set_cons_succ]
                      refine wpAnyH_take (i := 6) (oi := { dst := some 85, op := Go.Op.load 51 (Go.Operand.tmp 13), type := 51, pos := _, after := #[{ on := 1, ground := Go.Ground.guard }], guard := some (1, false) }) (v := ?_) rfl (by kernel_rfl) (by kernel_rfl) (by kernel_rfl) (fun _ _ _ h => h) (Or.inl ⟨by rfl, ?_⟩) (by assumption) ?_
                      rotate_left
                      · intro w hSw; (try dsimp only at hSw); go_simp <;> first | with_reducible rfl | (rw [if_neg (by first | omega | (simp only [ByteArray.size_append] at *; omega))])
                      simp only [Act.put, List.setIfInBounds_toArray, List.set_cons_zero, List.set_cons_succ]
                      refine wpAnyH_take (i := 7) (oi := { dst := some 86, op := Go.Op.binOp Go.BinOp.eql 51 (Go.Operand.tmp 84) (Go.Operand.tmp 85) 51, type := 4, pos := _, after := #[{ on := 5, ground := Go.Ground.data }, { on := 6, ground := Go.Ground.data }, { on := 1, ground := Go.Ground.guard }], guard := some (1, false) }) (v := .bool bq) rfl (by kernel_rfl) (by kernel_rfl) (by kernel_rfl) (fun _ _ _ h => h) (Or.inl ⟨by rfl, ?_⟩) (by assumption) ?_
                      · intro w hSw; (try dsimp only at hSw); go_simp; rw [← HBQ.out]; exact ref_eqA _ _ _ _ _
                      simp only [Act.put, List.setIfInBounds_toArray, List.set_cons_zero, List.set_cons_succ]
                      refine wpAnyH_take (i := 8) (oi := { dst := some 87, op := Go.Op.pick (Go.Operand.tmp 80) (Go.Operand.const (Go.Value.bool true)) (Go.Operand.tmp 86), type := 4, pos := _, after := #[{ on := 1, ground := Go.Ground.data }, { on := 7, ground := Go.Ground.data }], guard := none }) (v := ?_) rfl (by kernel_rfl) (by kernel_rfl) (by kernel_rfl) (fun _ _ _ h => h) (Or.inl ⟨by rfl, ?_⟩) (by assumption) ?_
                      rotate_left
                      · intro w hSw; (try dsimp only at hSw); go_simp <;> first | with_reducible rfl | (rw [if_neg (by first | omega | (simp only [ByteArray.size_append] at *; omega))])
                      simp only [Act.put, List.setIfInBounds_toArray, List.set_cons_zero, List.set_cons_succ]
                      refine wpAnyH_take (i := 9) (oi := { dst := some 14, op := Go.Op.assign (Go.Operand.tmp 87), type := 4, pos := _, after := #[{ on := 8, ground := Go.Ground.data }, { on := 1, ground := Go.Ground.chain }, { on := 0, ground := Go.Ground.phase }, { on := 1, ground := Go.Ground.phase }, { on := 2, ground := Go.Ground.phase }, { on := 3, ground := Go.Ground.phase }, { on := 4, ground := Go.Ground.phase }, { on := 5, ground := Go.Ground.phase }, { on := 6, ground := Go.Ground.phase }, { on := 7, ground := Go.Ground.phase }, { on := 8, ground := Go.Ground.phase }], guard := none }) (v := ?_) rfl (by kernel_rfl) (by kernel_rfl) (by kernel_rfl) (fun _ _ _ h => h) (Or.inl ⟨by rfl, ?_⟩) (by assumption) ?_
                      rotate_left
                      · intro w hSw; (try dsimp only at hSw); go_simp <;> first | with_reducible rfl | (rw [if_neg (by first | omega | (simp only [ByteArray.size_append] at *; omega))])
                      simp only [Act.put, List.setIfInBounds_toArray, List.set_cons_zero, List.set_cons_succ]
                      refine wpAnyH_done (by kernel_rfl) ?_ _
                      go_wp2_with (fail)
                      go_roundw
                      case rel => exact ⟨t + 1, by omega, by go_num, by rw [HT.out, Bool.false_or], RD⟩
                      case measure => simp [intOf]; omega
                  · have htl' : ¬ (t : Int) < (acc.length : Int) := by omega
                    obtain rfl : t = acc.length := by omega
                    rw [List.take_length]
                    clear ht htl
                    cases hin : rIn acc r with
                    | true =>
                      have HAD : Hid (addR acc r = acc) := hid (by unfold addR; rw [if_pos hin])
                      clear hin
                      go_wp2_with (fail)
                      go_roundw
                      case rel => exact ⟨k + 1, by omega, by go_num, hid (by rw [HSU.out, HAD.out]; exact HI.out.L)⟩
                      case measure => simp [intOf]; omega
                    | false =>
                      have HAD : Hid (addR acc r = acc ++ [r]) := hid (by unfold addR; rw [hin]; rfl)
                      clear hin
                      have N2 := hid (HI.out.L.keep ((Below.refl _ _).alloc (Nat.le_refl _) (.cells #[.string r.1, .int .i64 (r.2 : Int)] 51)))
                      have W2 := hid (two_newA wr (.string r.1) (.int .i64 (r.2 : Int)))
                      have hmx : acc.length + 1 ≤ maxLen := by unfold maxLen; omega
                      go_wp2_with (at_builtin; refine wpList_append_own _ rfl (.tmp 90) (.tmp 92) 47 rfl w7.heap.size 51 i0 _ 2 24 Tryd.underlying47 hi hz0 hz1 hz2 rfl (by decide) _ _ _ rfl N2.out.own ⟨wr.heap.size, 0, none⟩ 1 1 [.string r.1, .int .i64 (r.2 : Int)] rfl rfl W2.out (by simp [Value.oneCell']) hmx (by omega) N2.out.below.size ?_; intro v' w' hown1 hgrow1 _; have N3 := hid (N2.out.grow hown1 hgrow1); clear hown1 hgrow1)
                      go_roundw
                      case rel => exact ⟨k + 1, by omega, by go_num, hid (by rw [HSU.out, HAD.out]; exact N3.out)⟩
                      case measure => simp [intOf]; omega
              · have hl' : ¬ (k : Int) < (La.length : Int) := by omega
                have hj0 : (0 : Int) ≤ (j : Int) := by omega
                have hjl : (j : Int) < (Lb.length : Int) := by omega
                have ZB := (Below.refl wr.heap.size wr).alloc (Nat.le_refl _) (.cells #[.string ⟨#[]⟩, .int .i64 0] 51)
                have y0' := cell_kept y0 ZB
                have y1' := cell_kept y1 ZB
                clear ZB y0 y1
                go_wp2_with (fail)
                generalize hz' : later 1 z = r at *
                generalize wr.alloc (.cells #[.string z.1, .int .i64 ((z.2 : Int) + 1)] 51) = W5 at *
                generalize wr.heap.size = rb at *
                clear hz'
                go_loopw [14, 15] (fun th i wv => ∃ t : Nat, t ≤ acc.length ∧ i = .int .i64 (t : Int) ∧ th = .bool (rIn (acc.take t) r) ∧ Hid (IN w7 acc (.slice va acc.length vc) rb r wv)) (fun _ i _ => acc.length - (intOf i).toNat)
                case atStart => exact ⟨0, Nat.zero_le _, rfl, rfl, I5⟩
                case round =>
                  obtain ⟨t, ht, rfl, rfl, HI⟩ := hrel
                  obtain ⟨y2, y3⟩ := HI.out.cells
                  by_cases htl : t < acc.length
                  · have htl' : (t : Int) < (acc.length : Int) := by omega
                    have ht0 : (0 : Int) ≤ (t : Int) := by omega
                    obtain ⟨a2, c2, e2, hh⟩ := RfAt.of_own HI.out.L.own
                    injection e2 with e2 _ e3
                    subst e2 e3
                    obtain ⟨g, rfl, hcc⟩ := hh.resolve_left (by omega)
                    obtain ⟨y0, y1⟩ := hcc t htl
                    have HT : Hid (rIn (acc.take (t + 1)) r = (rIn (acc.take t) r || (acc[t].1.data.toList == r.1.data.toList && acc[t].2 == r.2))) := hid (by unfold rIn; rw [List.take_succ_eq_append_getElem htl, List.any_append]; simp)
                    have RD := hid (HI.out.keep ((Below.refl _ _).drew))
                    clear hcc hh
                    generalize acc[t] = q at *
                    generalize rIn (acc.take t) r = th at *
                    generalize hbq : (q.1.data.toList == r.1.data.toList && q.2 == r.2) = bq at HT
                    have HBQ := hid hbq
                    clear hbq
                    cases th with
                    | true =>
                      go_wp2_with (fail)
                      refine wp_region_held_drew (S := fun V => V.cell? ⟨g, t * 2, none⟩ = some (.string q.1) ∧ V.cell? ⟨g, t * 2 + 1, none⟩ = some (.int .i64 (q.2 : Int)) ∧ V.cell? ⟨rb, 0, none⟩ = some (.string r.1) ∧ V.cell? ⟨rb, 1, none⟩ = some (.int .i64 (r.2 : Int))) (by kernel_rfl) ?_ (fun hHeld => ?_)
                      · exact ⟨y0, y1, y2, y3⟩
                      refine wpAnyH_take (i := 0) (oi := { dst := some 79, op := Go.Op.move (Go.Operand.tmp 14), type := 4, pos := _, after := #[], guard := none }) (v := ?_) rfl (by kernel_rfl) (by kernel_rfl) (by kernel_rfl) (fun _ _ _ h => h) (Or.inl ⟨by rfl, ?_⟩) (by assumption) ?_
                      rotate_left
                      · intro w hSw; (try dsimp only at hSw); go_simp <;> first | with_reducible rfl | (rw [if_neg (by first | omega | (simp only [ByteArray.size_append] at *; omega))])
                      simp only [Act.put, List.setIfInBounds_toArray, List.set_cons_zero, List.set_cons_succ]
                      refine wpAnyH_take (i := 1) (oi := { dst := some 80, op := Go.Op.move (Go.Operand.tmp 79), type := 4, pos := _, after := #[{ on := 0, ground := Go.Ground.data }], guard := none }) (v := ?_) rfl (by kernel_rfl) (by kernel_rfl) (by kernel_rfl) (fun _ _ _ h => h) (Or.inl ⟨by rfl, ?_⟩) (by assumption) ?_
                      rotate_left
                      · intro w hSw; (try dsimp only at hSw); go_simp <;> first | with_reducible rfl | (rw [if_neg (by first | omega | (simp only [ByteArray.size_append] at *; omega))])
                      simp only [Act.put, List.setIfInBounds_toArray, List.set_cons_zero, List.set_cons_succ]
                      refine wpAnyH_take (i := 2) (oi := { dst := some 81, op := Go.Op.move (Go.Operand.tmp 11), type := 47, pos := _, after := #[{ on := 1, ground := Go.Ground.guard }], guard := some (1, false) }) (v := undef) rfl (by kernel_rfl) (by kernel_rfl) (by kernel_rfl) (fun _ _ _ h => h) (Or.inr ⟨by rfl, rfl⟩) (by assumption) ?_
                      simp only [Act.put, List.setIfInBounds_toArray, List.set_cons_zero, List.set_cons_succ]
                      refine wpAnyH_take (i := 3) (oi := { dst := some 82, op := Go.Op.move (Go.Operand.tmp 15), type := 3, pos := _, after := #[{ on := 1, ground := Go.Ground.guard }], guard := some (1, false) }) (v := undef) rfl (by kernel_rfl) (by kernel_rfl) (by kernel_rfl) (fun _ _ _ h => h) (Or.inr ⟨by rfl, rfl⟩) (by assumption) ?_
                      simp only [Act.put, List.setIfInBounds_toArray, List.set_cons_zero, List.set_cons_succ]
                      refine wpAnyH_take (i := 4) (oi := { dst := some 83, op := Go.Op.indexAddr 47 (Go.Operand.tmp 81) (Go.Operand.tmp 82), type := 0, pos := _, after := #[{ on := 2, ground := Go.Ground.data }, { on := 3, ground := Go.Ground.data }, { on := 1, ground := Go.Ground.guard }], guard := some (1, false) }) (v := undef) rfl (by kernel_rfl) (by kernel_rfl) (by kernel_rfl) (fun _ _ _ h => h) (Or.inr ⟨by rfl, rfl⟩) (by assumption) ?_
                      simp only [Act.put, List.setIfInBounds_toArray, List.set_cons_zero, List.set_cons_succ]
                      refine wpAnyH_take (i := 5) (oi := { dst := some 84, op := Go.Op.load 51 (Go.Operand.tmp 83), type := 51, pos := _, after := #[{ on := 4, ground := Go.Ground.data }, { on := 1, ground := Go.Ground.guard }], guard := some (1, false) }) (v := undef) rfl (by kernel_rfl) (by kernel_rfl) (by kernel_rfl) (fun _ _ _ h => h) (Or.inr ⟨by rfl, rfl⟩) (by assumption) ?_
                      simp only [Act.put, List.setIfInBounds_toArray, List.set_cons_zero, List.set_cons_succ]
                      refine wpAnyH_take (i := 6) (oi := { dst := some 85, op := Go.Op.load 51 (Go.Operand.tmp 13), type := 51, pos := _, after := #[{ on := 1, ground := Go.Ground.guard }], guard := some (1, false) }) (v := undef) rfl (by kernel_rfl) (by kernel_rfl) (by kernel_rfl) (fun _ _ _ h => h) (Or.inr ⟨by rfl, rfl⟩) (by assumption) ?_
                      simp only [Act.put, List.setIfInBounds_toArray, List.set_cons_zero, List.set_cons_succ]
                      refine wpAnyH_take (i := 7) (oi := { dst := some 86, op := Go.Op.binOp Go.BinOp.eql 51 (Go.Operand.tmp 84) (Go.Operand.tmp 85) 51, type := 4, pos := _, after := #[{ on := 5, ground := Go.Ground.data }, { on := 6, ground := Go.Ground.data }, { on := 1, ground := Go.Ground.guard }], guard := some (1, false) }) (v := undef) rfl (by kernel_rfl) (by kernel_rfl) (by kernel_rfl) (fun _ _ _ h => h) (Or.inr ⟨by rfl, rfl⟩) (by assumption) ?_
                      simp only [Act.put, List.setIfInBounds_toArray, List.set_cons_zero, List.set_cons_succ]
                      refine wpAnyH_take (i := 8) (oi := { dst := some 87, op := Go.Op.pick (Go.Operand.tmp 80) (Go.Operand.const (Go.Value.bool true)) (Go.Operand.tmp 86), type := 4, pos := _, after := #[{ on := 1, ground := Go.Ground.data }, { on := 7, ground := Go.Ground.data }], guard := none }) (v := ?_) rfl (by kernel_rfl) (by kernel_rfl) (by kernel_rfl) (fun _ _ _ h => h) (Or.inl ⟨by rfl, ?_⟩) (by assumption) ?_
                      rotate_left
                      · intro w hSw; (try dsimp only at hSw); go_simp <;> first | with_reducible rfl | (rw [if_neg (by first | omega | (simp only [ByteArray.size_append] at *; omega))])
                      simp only [Act.put, List.setIfInBounds_toArray, List.set_cons_zero, List.set_cons_succ]
                      refine wpAnyH_take (i := 9) (oi := { dst := some 14, op := Go.Op.assign (Go.Operand.tmp 87), type := 4, pos := _, after := #[{ on := 8, ground := Go.Ground.data }, { on := 1, ground := Go.Ground.chain }, { on := 0, ground := Go.Ground.phase }, { on := 1, ground := Go.Ground.phase }, { on := 2, ground := Go.Ground.phase }, { on := 3, ground := Go.Ground.phase }, { on := 4, ground := Go.Ground.phase }, { on := 5, ground := Go.Ground.phase }, { on := 6, ground := Go.Ground.phase }, { on := 7, ground := Go.Ground.phase }, { on := 8, ground := Go.Ground.phase }], guard := none }) (v := ?_) rfl (by kernel_rfl) (by kernel_rfl) (by kernel_rfl) (fun _ _ _ h => h) (Or.inl ⟨by rfl, ?_⟩) (by assumption) ?_
                      rotate_left
                      · intro w hSw; (try dsimp only at hSw); go_simp <;> first | with_reducible rfl | (rw [if_neg (by first | omega | (simp only [ByteArray.size_append] at *; omega))])
                      simp only [Act.put, List.setIfInBounds_toArray, List.set_cons_zero, List.set_cons_succ]
                      refine wpAnyH_done (by kernel_rfl) ?_ _
                      go_wp2_with (fail)
                      go_roundw
                      case rel => exact ⟨t + 1, by omega, by go_num, by rw [HT.out]; rfl, RD⟩
                      case measure => simp [intOf]; omega
                    | false =>
                      go_wp2_with (fail)
                      refine wp_region_held_drew (S := fun V => V.cell? ⟨g, t * 2, none⟩ = some (.string q.1) ∧ V.cell? ⟨g, t * 2 + 1, none⟩ = some (.int .i64 (q.2 : Int)) ∧ V.cell? ⟨rb, 0, none⟩ = some (.string r.1) ∧ V.cell? ⟨rb, 1, none⟩ = some (.int .i64 (r.2 : Int))) (by kernel_rfl) ?_ (fun hHeld => ?_)
                      · exact ⟨y0, y1, y2, y3⟩
                      refine wpAnyH_take (i := 0) (oi := { dst := some 79, op := Go.Op.move (Go.Operand.tmp 14), type := 4, pos := _, after := #[], guard := none }) (v := ?_) rfl (by kernel_rfl) (by kernel_rfl) (by kernel_rfl) (fun _ _ _ h => h) (Or.inl ⟨by rfl, ?_⟩) (by assumption) ?_
                      rotate_left
                      · intro w hSw; (try dsimp only at hSw); go_simp <;> first | with_reducible rfl | (rw [if_neg (by first | omega | (simp only [ByteArray.size_append] at *; omega))])
                      simp only [Act.put, List.setIfInBounds_toArray, List.set_cons_zero, List.set_cons_succ]
                      refine wpAnyH_take (i := 1) (oi := { dst := some 80, op := Go.Op.move (Go.Operand.tmp 79), type := 4, pos := _, after := #[{ on := 0, ground := Go.Ground.data }], guard := none }) (v := ?_) rfl (by kernel_rfl) (by kernel_rfl) (by kernel_rfl) (fun _ _ _ h => h) (Or.inl ⟨by rfl, ?_⟩) (by assumption) ?_
                      rotate_left
                      · intro w hSw; (try dsimp only at hSw); go_simp <;> first | with_reducible rfl | (rw [if_neg (by first | omega | (simp only [ByteArray.size_append] at *; omega))])
                      simp only [Act.put, List.setIfInBounds_toArray, List.set_cons_zero, List.set_cons_succ]
                      refine wpAnyH_take (i := 2) (oi := { dst := some 81, op := Go.Op.move (Go.Operand.tmp 11), type := 47, pos := _, after := #[{ on := 1, ground := Go.Ground.guard }], guard := some (1, false) }) (v := ?_) rfl (by kernel_rfl) (by kernel_rfl) (by kernel_rfl) (fun _ _ _ h => h) (Or.inl ⟨by rfl, ?_⟩) (by assumption) ?_
                      rotate_left
                      · intro w hSw; (try dsimp only at hSw); go_simp <;> first | with_reducible rfl | (rw [if_neg (by first | omega | (simp only [ByteArray.size_append] at *; omega))])
                      simp only [Act.put, List.setIfInBounds_toArray, List.set_cons_zero, List.set_cons_succ]
                      refine wpAnyH_take (i := 3) (oi := { dst := some 82, op := Go.Op.move (Go.Operand.tmp 15), type := 3, pos := _, after := #[{ on := 1, ground := Go.Ground.guard }], guard := some (1, false) }) (v := ?_) rfl (by kernel_rfl) (by kernel_rfl) (by kernel_rfl) (fun _ _ _ h => h) (Or.inl ⟨by rfl, ?_⟩) (by assumption) ?_
                      rotate_left
                      · intro w hSw; (try dsimp only at hSw); go_simp <;> first | with_reducible rfl | (rw [if_neg (by first | omega | (simp only [ByteArray.size_append] at *; omega))])
                      simp only [Act.put, List.setIfInBounds_toArray, List.set_cons_zero, List.set_cons_succ]
                      refine wpAnyH_take (i := 4) (oi := { dst := some 83, op := Go.Op.indexAddr 47 (Go.Operand.tmp 81) (Go.Operand.tmp 82), type := 0, pos := _, after := #[{ on := 2, ground := Go.Ground.data }, { on := 3, ground := Go.Ground.data }, { on := 1, ground := Go.Ground.guard }], guard := some (1, false) }) (v := ?_) rfl (by kernel_rfl) (by kernel_rfl) (by kernel_rfl) (fun _ _ _ h => h) (Or.inl ⟨by rfl, ?_⟩) (by assumption) ?_
                      rotate_left
                      · intro w hSw; (try dsimp only at hSw); go_simp <;> first | with_reducible rfl | (rw [if_neg (by first | omega | (simp only [ByteArray.size_append] at *; omega))])
                      simp only [Act.put, List.setIfInBounds_toArray, List.set_cons_zero, List.set_cons_succ]
                      refine wpAnyH_take (i := 5) (oi := { dst := some 84, op := Go.Op.load 51 (Go.Operand.tmp 83), type := 51, pos := _, after := #[{ on := 4, ground := Go.Ground.data }, { on := 1, ground := Go.Ground.guard }], guard := some (1, false) }) (v := ?_) rfl (by kernel_rfl) (by kernel_rfl) (by kernel_rfl) (fun _ _ _ h => h) (Or.inl ⟨by rfl, ?_⟩) (by assumption) ?_
                      rotate_left
                      · intro w hSw; (try dsimp only at hSw); go_simp <;> first | with_reducible rfl | (rw [if_neg (by first | omega | (simp only [ByteArray.size_append] at *; omega))])
                      simp only [Act.put, List.setIfInBounds_toArray, List.set_cons_zero, List.set_cons_succ]
                      refine wpAnyH_take (i := 6) (oi := { dst := some 85, op := Go.Op.load 51 (Go.Operand.tmp 13), type := 51, pos := _, after := #[{ on := 1, ground := Go.Ground.guard }], guard := some (1, false) }) (v := ?_) rfl (by kernel_rfl) (by kernel_rfl) (by kernel_rfl) (fun _ _ _ h => h) (Or.inl ⟨by rfl, ?_⟩) (by assumption) ?_
                      rotate_left
                      · intro w hSw; (try dsimp only at hSw); go_simp <;> first | with_reducible rfl | (rw [if_neg (by first | omega | (simp only [ByteArray.size_append] at *; omega))])
                      simp only [Act.put, List.setIfInBounds_toArray, List.set_cons_zero, List.set_cons_succ]
                      refine wpAnyH_take (i := 7) (oi := { dst := some 86, op := Go.Op.binOp Go.BinOp.eql 51 (Go.Operand.tmp 84) (Go.Operand.tmp 85) 51, type := 4, pos := _, after := #[{ on := 5, ground := Go.Ground.data }, { on := 6, ground := Go.Ground.data }, { on := 1, ground := Go.Ground.guard }], guard := some (1, false) }) (v := .bool bq) rfl (by kernel_rfl) (by kernel_rfl) (by kernel_rfl) (fun _ _ _ h => h) (Or.inl ⟨by rfl, ?_⟩) (by assumption) ?_
                      · intro w hSw; (try dsimp only at hSw); go_simp; rw [← HBQ.out]; exact ref_eqA _ _ _ _ _
                      simp only [Act.put, List.setIfInBounds_toArray, List.set_cons_zero, List.set_cons_succ]
                      refine wpAnyH_take (i := 8) (oi := { dst := some 87, op := Go.Op.pick (Go.Operand.tmp 80) (Go.Operand.const (Go.Value.bool true)) (Go.Operand.tmp 86), type := 4, pos := _, after := #[{ on := 1, ground := Go.Ground.data }, { on := 7, ground := Go.Ground.data }], guard := none }) (v := ?_) rfl (by kernel_rfl) (by kernel_rfl) (by kernel_rfl) (fun _ _ _ h => h) (Or.inl ⟨by rfl, ?_⟩) (by assumption) ?_
                      rotate_left
                      · intro w hSw; (try dsimp only at hSw); go_simp <;> first | with_reducible rfl | (rw [if_neg (by first | omega | (simp only [ByteArray.size_append] at *; omega))])
                      simp only [Act.put, List.setIfInBounds_toArray, List.set_cons_zero, List.set_cons_succ]
                      refine wpAnyH_take (i := 9) (oi := { dst := some 14, op := Go.Op.assign (Go.Operand.tmp 87), type := 4, pos := _, after := #[{ on := 8, ground := Go.Ground.data }, { on := 1, ground := Go.Ground.chain }, { on := 0, ground := Go.Ground.phase }, { on := 1, ground := Go.Ground.phase }, { on := 2, ground := Go.Ground.phase }, { on := 3, ground := Go.Ground.phase }, { on := 4, ground := Go.Ground.phase }, { on := 5, ground := Go.Ground.phase }, { on := 6, ground := Go.Ground.phase }, { on := 7, ground := Go.Ground.phase }, { on := 8, ground := Go.Ground.phase }], guard := none }) (v := ?_) rfl (by kernel_rfl) (by kernel_rfl) (by kernel_rfl) (fun _ _ _ h => h) (Or.inl ⟨by rfl, ?_⟩) (by assumption) ?_
                      rotate_left
                      · intro w hSw; (try dsimp only at hSw); go_simp <;> first | with_reducible rfl | (rw [if_neg (by first | omega | (simp only [ByteArray.size_append] at *; omega))])
                      simp only [Act.put, List.setIfInBounds_toArray, List.set_cons_zero, List.set_cons_succ]
                      refine wpAnyH_done (by kernel_rfl) ?_ _
                      go_wp2_with (fail)
                      go_roundw
                      case rel => exact ⟨t + 1, by omega, by go_num, by rw [HT.out, Bool.false_or], RD⟩
                      case measure => simp [intOf]; omega
                  · have htl' : ¬ (t : Int) < (acc.length : Int) := by omega
                    obtain rfl : t = acc.length := by omega
                    rw [List.take_length]
                    clear ht htl
                    cases hin : rIn acc r with
                    | true =>
                      have HAD : Hid (addR acc r = acc) := hid (by unfold addR; rw [if_pos hin])
                      clear hin
                      go_wp2_with (fail)
                      go_roundw
                      case rel => exact ⟨k + 1, by omega, by go_num, hid (by rw [HSU.out, HAD.out]; exact HI.out.L)⟩
                      case measure => simp [intOf]; omega
                    | false =>
                      have HAD : Hid (addR acc r = acc ++ [r]) := hid (by unfold addR; rw [hin]; rfl)
                      clear hin
                      have N2 := hid (HI.out.L.keep ((Below.refl _ _).alloc (Nat.le_refl _) (.cells #[.string r.1, .int .i64 (r.2 : Int)] 51)))
                      have W2 := hid (two_newA wr (.string r.1) (.int .i64 (r.2 : Int)))
                      have hmx : acc.length + 1 ≤ maxLen := by unfold maxLen; omega
                      go_wp2_with (at_builtin; refine wpList_append_own _ rfl (.tmp 90) (.tmp 92) 47 rfl w7.heap.size 51 i0 _ 2 24 Tryd.underlying47 hi hz0 hz1 hz2 rfl (by decide) _ _ _ rfl N2.out.own ⟨wr.heap.size, 0, none⟩ 1 1 [.string r.1, .int .i64 (r.2 : Int)] rfl rfl W2.out (by simp [Value.oneCell']) hmx (by omega) N2.out.below.size ?_; intro v' w' hown1 hgrow1 _; have N3 := hid (N2.out.grow hown1 hgrow1); clear hown1 hgrow1)
                      go_roundw
                      case rel => exact ⟨k + 1, by omega, by go_num, hid (by rw [HSU.out, HAD.out]; exact N3.out)⟩
                      case measure => simp [intOf]; omega
            · have hlt' : ¬ (k : Int) < (La.length : Int) + (Lb.length : Int) := by omega
              obtain rfl : k = La.length + Lb.length := by omega
              have HWN : Hid (WL w7 (((La ++ Lb).map (later 1)).foldl addR []) u11 wr) := hid (by have := HW.out; rwa [show La.length + Lb.length = (La ++ Lb).length by simp, wantA_all] at this)
              clear HW
              have hwl : (((La ++ Lb).map (later 1)).foldl addR []).length ≤ 6000 := Nat.le_trans (foldR_len _ _) (by rw [List.length_map, List.length_append]; simp only [List.length_nil]; omega)
              generalize hLW : ((La ++ Lb).map (later 1)).foldl addR [] = LW at *
              have HLW := hid hLW
              clear hLW
              obtain ⟨va, vc, rfl, hvv⟩ := RfAt.of_own HWN.out.own
              clear hvv
              have G8 := hid (G7.out.keep HWN.out.below)
              obtain ⟨p0, p1, p2, p3⟩ := row_cells4 G8.out.xrow
              obtain ⟨q0, q1, q2, q3⟩ := row_cells4 G8.out.yrow
              have G9 := hid (G8.out.keep ((Below.refl wr.heap.size wr).alloc (Nat.le_refl _) (.cells #[.int .u8 (x.op : Int), .int .i64 x.n, .string x.name, (.slice ao x.args.length cap), .int .u8 (y.op : Int), .int .i64 y.n, .string y.name, (.slice bo y.args.length cap2)] 25)))
              have R9 := hid (show (wr.alloc (.cells #[.int .u8 (x.op : Int), .int .i64 x.n, .string x.name, (.slice ao x.args.length cap), .int .u8 (y.op : Int), .int .i64 y.n, .string y.name, (.slice bo y.args.length cap2)] 25)).heap[wr.heap.size]? = some (.cells #[.int .u8 (x.op : Int), .int .i64 x.n, .string x.name, (.slice ao x.args.length cap), .int .u8 (y.op : Int), .int .i64 y.n, .string y.name, (.slice bo y.args.length cap2)] 25 (0, 0)) from push_new _ _ _ rfl)
              have V9 := hid ((HWN.out.keep ((Below.refl wr.heap.size wr).alloc (Nat.le_refl _) (.cells #[.int .u8 (x.op : Int), .int .i64 x.n, .string x.name, (.slice ao x.args.length cap), .int .u8 (y.op : Int), .int .i64 y.n, .string y.name, (.slice bo y.args.length cap2)] 25))))
              have hpl : Lp.length = La.length := HPL.out
              go_wp2_with (fail)
              refine (of_at o _ _ _ [x, y] _).mono ?_
              rintro e w10 ⟨rfl, b10⟩
              have G10 := hid (G9.out.keep b10)
              have R10 := hid (keep_rowA R9.out b10)
              have V10 := hid (V9.out.keep b10)
              clear b10 G9 R9 V9 p0 p1 p2 p3 q0 q1 q2 q3
              go_wp2_with (fail)
              refine (refs 3001 ⟨o, 0, ByteArray.empty, [x, y]⟩ _ _ (st_two o ho256 _ G10.out.S G10.out.T R10.out) (nm_two HNX.out HNY.out) (by omega) (by rw [cnt_two]; have h1 := HCX.out; have h2 := HCY.out; omega)).mono ?_
              rintro e w11 ⟨vo, rfl, hro, b11⟩
              rw [gat_of2 3000 x y o ho3, HLA.out, HLB.out, HMO.out, HLW.out] at hro
              have ho11 := RfAt.of_own hro
              obtain ⟨oa, oc, rfl, _⟩ := ho11
              have V11 := hid (V10.out.keep b11)
              have G11 := hid (G10.out.keep b11)
              have HRO := hid (RfAt.of_own hro)
              clear b11 hro G10 V10 R10
              go_wp2_with (fail)
              refine (same_refs _ _ _ _ HRO.out (RfAt.of_own V11.out.own) (by omega)).mono ?_
              rintro e w12 ⟨rfl, b12⟩
              have G12 := hid (G11.out.keep b12)
              have B712 : Hid (Below w7.heap.size w7 w12) := hid (V11.out.below.trans (b12.mono V11.out.below.size))
              clear b12 G11 V11 HRO
              go_wp2_with (fail)
              go_loopw [16] (fun i wr => ∃ i' : Nat, i' ≤ La.length ∧ i = .int .i64 (i' : Int) ∧ Hid (Below w12.heap.size w12 wr)) (fun i _ => La.length - (intOf i).toNat)
              case atStart => exact ⟨0, Nat.zero_le _, rfl, hid (Below.refl _ _)⟩
              case round =>
                obtain ⟨i, hi', rfl, HB⟩ := hrel
                by_cases hil : i < La.length
                · have hil' : (i : Int) < (La.length : Int) := by omega
                  have hi0' : (0 : Int) ≤ (i : Int) := by omega
                  obtain ⟨ag, rfl, hcc⟩ := HRA.out.resolve_left (by omega)
                  obtain ⟨pg, rfl, hpc⟩ := HRP.out.resolve_left (by omega)
                  have HBB := hid (B712.out.trans (HB.out.mono B712.out.size))
                  have y2 := cell_kept (cell_kept (hcc i hil).1 HB47.out) HBB.out
                  have y3 := cell_kept (cell_kept (hcc i hil).2 HB47.out) HBB.out
                  have y0 := cell_kept (hpc i (by omega)).1 HBB.out
                  have y1 := cell_kept (hpc i (by omega)).2 HBB.out
                  have HAG : Hid ((La[i].2 : Int) ≤ 3000) := hid (by have := HGA.out _ (List.getElem_mem hil); omega)
                  have hpz := HPZ.out i hil (by omega)
                  rw [hpz] at y0 y1
                  rw [show (later 1 La[i]).1 = La[i].1 from rfl] at y0
                  rw [show (((later 1 La[i]).2 : Nat) : Int) = (La[i].2 : Int) + 1 by show ((La[i].2 + 1 : Nat) : Int) = _; omega] at y1
                  clear hcc hpc hpz
                  generalize La[i] = z at *
                  have hza := HAG.out
                  clear HAG
                  have hza0 : (0 : Int) ≤ (z.2 : Int) := by omega
                  have RD := hid (HB.out.trans ((Below.refl _ _).drew.mono HB.out.size))
                  go_wp2_with (fail)
                  refine wp_region_held_drew (S := fun V => V.cell? ⟨pg, i * 2, none⟩ = some (.string z.1) ∧ V.cell? ⟨pg, i * 2 + 1, none⟩ = some (.int .i64 ((z.2 : Int) + 1)) ∧ V.cell? ⟨ag, i * 2, none⟩ = some (.string z.1) ∧ V.cell? ⟨ag, i * 2 + 1, none⟩ = some (.int .i64 (z.2 : Int))) (by kernel_rfl) ?_ (fun hHeld => ?_)
                  · exact ⟨y0, y1, y2, y3⟩
                  refine wpAnyH_take (i := 0) (oi := { dst := some 116, op := Go.Op.move (Go.Operand.tmp 9), type := 47, pos := _, after := #[], guard := none }) (v := ?_) rfl (by kernel_rfl) (by kernel_rfl) (by kernel_rfl) (fun _ _ _ h => h) (Or.inl ⟨by rfl, ?_⟩) (by assumption) ?_
                  rotate_left
                  · intro w hSw; (try dsimp only at hSw); go_simp <;> first | with_reducible rfl | (rw [if_neg (by first | omega | (simp only [ByteArray.size_append] at *; omega))])
                  simp only [Act.put, List.setIfInBounds_toArray, List.set_cons_zero, List.set_cons_succ]
                  refine wpAnyH_take (i := 1) (oi := { dst := some 117, op := Go.Op.move (Go.Operand.tmp 16), type := 3, pos := _, after := #[], guard := none }) (v := ?_) rfl (by kernel_rfl) (by kernel_rfl) (by kernel_rfl) (fun _ _ _ h => h) (Or.inl ⟨by rfl, ?_⟩) (by assumption) ?_
                  rotate_left
                  · intro w hSw; (try dsimp only at hSw); go_simp <;> first | with_reducible rfl | (rw [if_neg (by first | omega | (simp only [ByteArray.size_append] at *; omega))])
                  simp only [Act.put, List.setIfInBounds_toArray, List.set_cons_zero, List.set_cons_succ]
                  refine wpAnyH_take (i := 2) (oi := { dst := some 118, op := Go.Op.indexAddr 47 (Go.Operand.tmp 116) (Go.Operand.tmp 117), type := 0, pos := _, after := #[{ on := 0, ground := Go.Ground.data }, { on := 1, ground := Go.Ground.data }], guard := none }) (v := ?_) rfl (by kernel_rfl) (by kernel_rfl) (by kernel_rfl) (fun _ _ _ h => h) (Or.inl ⟨by rfl, ?_⟩) (by assumption) ?_
                  rotate_left
                  · intro w hSw; (try dsimp only at hSw); go_simp <;> first | with_reducible rfl | (rw [if_neg (by first | omega | (simp only [ByteArray.size_append] at *; omega))])
                  simp only [Act.put, List.setIfInBounds_toArray, List.set_cons_zero, List.set_cons_succ]
                  refine wpAnyH_take (i := 3) (oi := { dst := some 119, op := Go.Op.load 51 (Go.Operand.tmp 118), type := 51, pos := _, after := #[{ on := 2, ground := Go.Ground.data }], guard := none }) (v := ?_) rfl (by kernel_rfl) (by kernel_rfl) (by kernel_rfl) (fun _ _ _ h => h) (Or.inl ⟨by rfl, ?_⟩) (by assumption) ?_
                  rotate_left
                  · intro w hSw; (try dsimp only at hSw); go_simp <;> first | with_reducible rfl | (rw [if_neg (by first | omega | (simp only [ByteArray.size_append] at *; omega))])
                  simp only [Act.put, List.setIfInBounds_toArray, List.set_cons_zero, List.set_cons_succ]
                  refine wpAnyH_take (i := 4) (oi := { dst := some 120, op := Go.Op.move (Go.Operand.tmp 7), type := 47, pos := _, after := #[], guard := none }) (v := ?_) rfl (by kernel_rfl) (by kernel_rfl) (by kernel_rfl) (fun _ _ _ h => h) (Or.inl ⟨by rfl, ?_⟩) (by assumption) ?_
                  rotate_left
                  · intro w hSw; (try dsimp only at hSw); go_simp <;> first | with_reducible rfl | (rw [if_neg (by first | omega | (simp only [ByteArray.size_append] at *; omega))])
                  simp only [Act.put, List.setIfInBounds_toArray, List.set_cons_zero, List.set_cons_succ]
                  refine wpAnyH_take (i := 5) (oi := { dst := some 121, op := Go.Op.move (Go.Operand.tmp 16), type := 3, pos := _, after := #[], guard := none }) (v := ?_) rfl (by kernel_rfl) (by kernel_rfl) (by kernel_rfl) (fun _ _ _ h => h) (Or.inl ⟨by rfl, ?_⟩) (by assumption) ?_
                  rotate_left
                  · intro w hSw; (try dsimp only at hSw); go_simp <;> first | with_reducible rfl | (rw [if_neg (by first | omega | (simp only [ByteArray.size_append] at *; omega))])
                  simp only [Act.put, List.setIfInBounds_toArray, List.set_cons_zero, List.set_cons_succ]
                  refine wpAnyH_take (i := 6) (oi := { dst := some 122, op := Go.Op.indexAddr 47 (Go.Operand.tmp 120) (Go.Operand.tmp 121), type := 0, pos := _, after := #[{ on := 4, ground := Go.Ground.data }, { on := 5, ground := Go.Ground.data }], guard := none }) (v := ?_) rfl (by kernel_rfl) (by kernel_rfl) (by kernel_rfl) (fun _ _ _ h => h) (Or.inl ⟨by rfl, ?_⟩) (by assumption) ?_
                  rotate_left
                  · intro w hSw; (try dsimp only at hSw); go_simp <;> first | with_reducible rfl | (rw [if_neg (by first | omega | (simp only [ByteArray.size_append] at *; omega))])
                  simp only [Act.put, List.setIfInBounds_toArray, List.set_cons_zero, List.set_cons_succ]
                  refine wpAnyH_take (i := 7) (oi := { dst := some 123, op := Go.Op.fieldAddr 51 (Go.Operand.tmp 122) 0, type := 0, pos := _, after := #[{ on := 6, ground := Go.Ground.data }], guard := none }) (v := ?_) rfl (by kernel_rfl) (by kernel_rfl) (by kernel_rfl) (fun _ _ _ h => h) (Or.inl ⟨by rfl, ?_⟩) (by assumption) ?_
                  rotate_left
                  · intro w hSw; (try dsimp only at hSw); go_simp <;> first | with_reducible rfl | (rw [if_neg (by first | omega | (simp only [ByteArray.size_append] at *; omega))])
                  simp only [Act.put, List.setIfInBounds_toArray, List.set_cons_zero, List.set_cons_succ]
                  refine wpAnyH_take (i := 8) (oi := { dst := some 124, op := Go.Op.load 9 (Go.Operand.tmp 123), type := 9, pos := _, after := #[{ on := 7, ground := Go.Ground.data }], guard := none }) (v := ?_) rfl (by kernel_rfl) (by kernel_rfl) (by kernel_rfl) (fun _ _ _ h => h) (Or.inl ⟨by rfl, ?_⟩) (by assumption) ?_
                  rotate_left
                  · intro w hSw; (try dsimp only at hSw); go_simp <;> first | with_reducible rfl | (rw [if_neg (by first | omega | (simp only [ByteArray.size_append] at *; omega))])
                  simp only [Act.put, List.setIfInBounds_toArray, List.set_cons_zero, List.set_cons_succ]
                  refine wpAnyH_take (i := 9) (oi := { dst := some 125, op := Go.Op.move (Go.Operand.tmp 7), type := 47, pos := _, after := #[], guard := none }) (v := ?_) rfl (by kernel_rfl) (by kernel_rfl) (by kernel_rfl) (fun _ _ _ h => h) (Or.inl ⟨by rfl, ?_⟩) (by assumption) ?_
                  rotate_left
                  · intro w hSw; (try dsimp only at hSw); go_simp <;> first | with_reducible rfl | (rw [if_neg (by first | omega | (simp only [ByteArray.size_append] at *; omega))])
                  simp only [Act.put, List.setIfInBounds_toArray, List.set_cons_zero, List.set_cons_succ]
                  refine wpAnyH_take (i := 10) (oi := { dst := some 126, op := Go.Op.move (Go.Operand.tmp 16), type := 3, pos := _, after := #[], guard := none }) (v := ?_) rfl (by kernel_rfl) (by kernel_rfl) (by kernel_rfl) (fun _ _ _ h => h) (Or.inl ⟨by rfl, ?_⟩) (by assumption) ?_
                  rotate_left
                  · intro w hSw; (try dsimp only at hSw); go_simp <;> first | with_reducible rfl | (rw [if_neg (by first | omega | (simp only [ByteArray.size_append] at *; omega))])
                  simp only [Act.put, List.setIfInBounds_toArray, List.set_cons_zero, List.set_cons_succ]
                  refine wpAnyH_take (i := 11) (oi := { dst := some 127, op := Go.Op.indexAddr 47 (Go.Operand.tmp 125) (Go.Operand.tmp 126), type := 0, pos := _, after := #[{ on := 9, ground := Go.Ground.data }, { on := 10, ground := Go.Ground.data }], guard := none }) (v := ?_) rfl (by kernel_rfl) (by kernel_rfl) (by kernel_rfl) (fun _ _ _ h => h) (Or.inl ⟨by rfl, ?_⟩) (by assumption) ?_
                  rotate_left
                  · intro w hSw; (try dsimp only at hSw); go_simp <;> first | with_reducible rfl | (rw [if_neg (by first | omega | (simp only [ByteArray.size_append] at *; omega))])
                  simp only [Act.put, List.setIfInBounds_toArray, List.set_cons_zero, List.set_cons_succ]
                  refine wpAnyH_take (i := 12) (oi := { dst := some 128, op := Go.Op.fieldAddr 51 (Go.Operand.tmp 127) 1, type := 0, pos := _, after := #[{ on := 11, ground := Go.Ground.data }], guard := none }) (v := ?_) rfl (by kernel_rfl) (by kernel_rfl) (by kernel_rfl) (fun _ _ _ h => h) (Or.inl ⟨by rfl, ?_⟩) (by assumption) ?_
                  rotate_left
                  · intro w hSw; (try dsimp only at hSw); go_simp <;> first | with_reducible rfl | (rw [if_neg (by first | omega | (simp only [ByteArray.size_append] at *; omega))])
                  simp only [Act.put, List.setIfInBounds_toArray, List.set_cons_zero, List.set_cons_succ]
                  refine wpAnyH_take (i := 13) (oi := { dst := some 129, op := Go.Op.load 3 (Go.Operand.tmp 128), type := 3, pos := _, after := #[{ on := 12, ground := Go.Ground.data }], guard := none }) (v := ?_) rfl (by kernel_rfl) (by kernel_rfl) (by kernel_rfl) (fun _ _ _ h => h) (Or.inl ⟨by rfl, ?_⟩) (by assumption) ?_
                  rotate_left
                  · intro w hSw; (try dsimp only at hSw); go_simp <;> first | with_reducible rfl | (rw [if_neg (by first | omega | (simp only [ByteArray.size_append] at *; omega))])
                  simp only [Act.put, List.setIfInBounds_toArray, List.set_cons_zero, List.set_cons_succ]
                  refine wpAnyH_take (i := 14) (oi := { dst := some 130, op := Go.Op.binOp Go.BinOp.add 3 (Go.Operand.tmp 129) (Go.Operand.const (Go.Value.int Go.IntKind.i64 1)) 3, type := 3, pos := _, after := #[{ on := 13, ground := Go.Ground.data }], guard := none }) (v := ?_) rfl (by kernel_rfl) (by kernel_rfl) (by kernel_rfl) (fun _ _ _ h => h) (Or.inl ⟨by rfl, ?_⟩) (by assumption) ?_
                  rotate_left
                  · intro w hSw; (try dsimp only at hSw); go_simp <;> first | with_reducible rfl | (rw [if_neg (by first | omega | (simp only [ByteArray.size_append] at *; omega))])
                  simp only [Act.put, List.setIfInBounds_toArray, List.set_cons_zero, List.set_cons_succ]
                  refine wpAnyH_take (i := 15) (oi := { dst := some 131, op := Go.Op.build 51 #[(0, Go.Operand.tmp 124), (1, Go.Operand.tmp 130)], type := 51, pos := _, after := #[{ on := 8, ground := Go.Ground.data }, { on := 14, ground := Go.Ground.data }], guard := none }) (v := ?_) rfl (by kernel_rfl) (by kernel_rfl) (by kernel_rfl) (fun _ _ _ h => h) (Or.inl ⟨by rfl, ?_⟩) (by assumption) ?_
                  rotate_left
                  · intro w hSw; (try dsimp only at hSw); go_simp <;> first | with_reducible rfl | (rw [if_neg (by first | omega | (simp only [ByteArray.size_append] at *; omega))])
                  simp only [Act.put, List.setIfInBounds_toArray, List.set_cons_zero, List.set_cons_succ]
                  refine wpAnyH_take (i := 16) (oi := { dst := some 132, op := Go.Op.binOp Go.BinOp.neq 51 (Go.Operand.tmp 119) (Go.Operand.tmp 131) 51, type := 4, pos := _, after := #[{ on := 3, ground := Go.Ground.data }, { on := 15, ground := Go.Ground.data }], guard := none }) (v := .bool false) rfl (by kernel_rfl) (by kernel_rfl) (by kernel_rfl) (fun _ _ _ h => h) (Or.inl ⟨by rfl, ?_⟩) (by assumption) ?_
                  · intro w hSw; (try dsimp only at hSw); go_simp; rw [IntKind.wrap_i64]; omega
                  simp only [Act.put, List.setIfInBounds_toArray, List.set_cons_zero, List.set_cons_succ]
                  refine wpAnyH_done (by kernel_rfl) ?_ _
                  go_wp2_with (fail)
                  go_roundw
                  case rel => exact ⟨i + 1, by omega, by go_num, RD⟩
                  case measure => simp [intOf]; omega
                · have hil' : ¬ (i : Int) < (La.length : Int) := by omega
                  go_wp2_with (fail)
                  go_ret
                  exact ⟨rfl, G12.out.below.trans (HB.out.mono G12.out.below.size)⟩
        · have ho19' : ((o : Int) == 19) = false := by rw [beq_eq_false_iff_ne]; omega
          have HMO : Hid (moreOf o = 0) := hid (by unfold moreOf; rw [if_neg ho19])
          clear ho19
          go_wp2_with (fail)
          generalize hL : gat 3000 x 0 [] = La at *
          generalize hL2 : gat 3000 y 0 [] = Lb at *
          have HLA := hid hL
          have HLB := hid hL2
          clear hL hL2
          go_loopw [11, 12] (fun v i wr => ∃ k : Nat, k ≤ La.length + Lb.length ∧ i = .int .i64 (k : Int) ∧ Hid (WL w7 (wantA (La ++ Lb) 0 k) v wr)) (fun _ i _ => La.length + Lb.length - (intOf i).toNat)
          case atStart => exact ⟨0, Nat.zero_le _, rfl, hid (WL.start w7)⟩
          case round =>
            obtain ⟨k, hk, rfl, HW⟩ := hrel
            by_cases hlt : k < La.length + Lb.length
            · have hlt' : (k : Int) < (La.length : Int) + (Lb.length : Int) := by omega
              have hk0 : (0 : Int) ≤ (k : Int) := by omega
              have hkl : k < (La ++ Lb).length := by simpa using hlt
              have HSU := hid (wantA_succ (La ++ Lb) 0 k hkl)
              have hal : (wantA (La ++ Lb) 0 k).length ≤ 6000 := Nat.le_trans (wantA_len _ _ _) (by omega)
              have HAG : Hid (((La ++ Lb)[k].2 : Int) ≤ 3000) := hid (by
                rcases List.mem_append.1 (List.getElem_mem hkl) with h | h
                · have := HGA.out _ h; omega
                · have := HGB.out _ h; omega)
              generalize wantA (La ++ Lb) 0 k = acc at *
              obtain ⟨va, vc, rfl, _⟩ := RfAt.of_own HW.out.own
              have key : ∀ (z : Rf) (_ : z = (La ++ Lb)[k]), (k < La.length ∧ (∃ ag, aa = some ⟨ag, 0, none⟩ ∧ wr.cell? ⟨ag, k * 2, none⟩ = some (.string z.1) ∧ wr.cell? ⟨ag, k * 2 + 1, none⟩ = some (.int .i64 (z.2 : Int)))) ∨ (¬ k < La.length ∧ ∃ (j : Nat), j < Lb.length ∧ (k : Int) - (La.length : Int) = (j : Int) ∧ (∃ bg, ba = some ⟨bg, 0, none⟩ ∧ wr.cell? ⟨bg, j * 2, none⟩ = some (.string z.1) ∧ wr.cell? ⟨bg, j * 2 + 1, none⟩ = some (.int .i64 (z.2 : Int)))) := by
                intro z hz
                by_cases h : k < La.length
                · obtain ⟨ag, e, hcc⟩ := HRA.out.resolve_left (by omega)
                  refine .inl ⟨h, ag, e, ?_⟩
                  have ez : z = La[k] := by rw [hz, List.getElem_append_left h]
                  rw [ez]
                  exact ⟨cell_kept (cell_kept (hcc k h).1 HB47.out) HW.out.below, cell_kept (cell_kept (hcc k h).2 HB47.out) HW.out.below⟩
                · have hj : k - La.length < Lb.length := by omega
                  obtain ⟨bg, e, hcc⟩ := HRB.out.resolve_left (by omega)
                  refine .inr ⟨h, k - La.length, hj, by omega, bg, e, ?_⟩
                  have ez : z = Lb[k - La.length] := by rw [hz, List.getElem_append_right (by omega)]
                  rw [ez]
                  exact ⟨cell_kept (cell_kept (hcc _ hj).1 HB57.out) HW.out.below, cell_kept (cell_kept (hcc _ hj).2 HB57.out) HW.out.below⟩
              have KEY := hid (key _ rfl)
              clear key
              generalize (La ++ Lb)[k] = z at *
              clear hkl
              have hza := HAG.out
              clear HAG
              have hza0 : (0 : Int) ≤ (z.2 : Int) := by omega
              have hcast : ((z.2 + 0 : Nat) : Int) = (z.2 : Int) := by omega
              have NB := (Below.refl wr.heap.size wr).alloc (Nat.le_refl _) (.cells #[.string z.1, .int .i64 (z.2 : Int)] 51)
              have I5 : Hid (IN w7 acc (.slice va acc.length vc) wr.heap.size (later 0 z) (wr.alloc (.cells #[.string z.1, .int .i64 (z.2 : Int)] 51))) := hid ⟨HW.out.keep NB, by rw [show (later 0 z).1 = z.1 from rfl, show (later 0 z).2 = z.2 + 0 from rfl, hcast]; exact push_new _ _ _ rfl⟩
              clear NB hcast
              rcases KEY.out with ⟨hl, ag, rfl, y0, y1⟩ | ⟨hl, j, hj, hjk, bg, rfl, y0, y1⟩
              · have hl' : (k : Int) < (La.length : Int) := by omega
                have ZB := (Below.refl wr.heap.size wr).alloc (Nat.le_refl _) (.cells #[.string ⟨#[]⟩, .int .i64 0] 51)
                have y0' := cell_kept y0 ZB
                have y1' := cell_kept y1 ZB
                clear ZB y0 y1
                go_wp2_with (fail)
                generalize hz' : later 0 z = r at *
                generalize wr.alloc (.cells #[.string z.1, .int .i64 (z.2 : Int)] 51) = W5 at *
                generalize wr.heap.size = rb at *
                clear hz'
                go_loopw [14, 15] (fun th i wv => ∃ t : Nat, t ≤ acc.length ∧ i = .int .i64 (t : Int) ∧ th = .bool (rIn (acc.take t) r) ∧ Hid (IN w7 acc (.slice va acc.length vc) rb r wv)) (fun _ i _ => acc.length - (intOf i).toNat)
                case atStart => exact ⟨0, Nat.zero_le _, rfl, rfl, I5⟩
                case round =>
                  obtain ⟨t, ht, rfl, rfl, HI⟩ := hrel
                  obtain ⟨y2, y3⟩ := HI.out.cells
                  by_cases htl : t < acc.length
                  · have htl' : (t : Int) < (acc.length : Int) := by omega
                    have ht0 : (0 : Int) ≤ (t : Int) := by omega
                    obtain ⟨a2, c2, e2, hh⟩ := RfAt.of_own HI.out.L.own
                    injection e2 with e2 _ e3
                    subst e2 e3
                    obtain ⟨g, rfl, hcc⟩ := hh.resolve_left (by omega)
                    obtain ⟨y0, y1⟩ := hcc t htl
                    have HT : Hid (rIn (acc.take (t + 1)) r = (rIn (acc.take t) r || (acc[t].1.data.toList == r.1.data.toList && acc[t].2 == r.2))) := hid (by unfold rIn; rw [List.take_succ_eq_append_getElem htl, List.any_append]; simp)
                    have RD := hid (HI.out.keep ((Below.refl _ _).drew))
                    clear hcc hh
                    generalize acc[t] = q at *
                    generalize rIn (acc.take t) r = th at *
                    generalize hbq : (q.1.data.toList == r.1.data.toList && q.2 == r.2) = bq at HT
                    have HBQ := hid hbq
                    clear hbq
                    cases th with
                    | true =>
                      go_wp2_with (fail)
                      refine wp_region_held_drew (S := fun V => V.cell? ⟨g, t * 2, none⟩ = some (.string q.1) ∧ V.cell? ⟨g, t * 2 + 1, none⟩ = some (.int .i64 (q.2 : Int)) ∧ V.cell? ⟨rb, 0, none⟩ = some (.string r.1) ∧ V.cell? ⟨rb, 1, none⟩ = some (.int .i64 (r.2 : Int))) (by kernel_rfl) ?_ (fun hHeld => ?_)
                      · exact ⟨y0, y1, y2, y3⟩
                      refine wpAnyH_take (i := 0) (oi := { dst := some 79, op := Go.Op.move (Go.Operand.tmp 14), type := 4, pos := _, after := #[], guard := none }) (v := ?_) rfl (by kernel_rfl) (by kernel_rfl) (by kernel_rfl) (fun _ _ _ h => h) (Or.inl ⟨by rfl, ?_⟩) (by assumption) ?_
                      rotate_left
                      · intro w hSw; (try dsimp only at hSw); go_simp <;> first | with_reducible rfl | (rw [if_neg (by first | omega | (simp only [ByteArray.size_append] at *; omega))])
                      simp only [Act.put, List.setIfInBounds_toArray, List.set_cons_zero, List.set_cons_succ]
                      refine wpAnyH_take (i := 1) (oi := { dst := some 80, op := Go.Op.move (Go.Operand.tmp 79), type := 4, pos := _, after := #[{ on := 0, ground := Go.Ground.data }], guard := none }) (v := ?_) rfl (by kernel_rfl) (by kernel_rfl) (by kernel_rfl) (fun _ _ _ h => h) (Or.inl ⟨by rfl, ?_⟩) (by assumption) ?_
                      rotate_left
                      · intro w hSw; (try dsimp only at hSw); go_simp <;> first | with_reducible rfl | (rw [if_neg (by first | omega | (simp only [ByteArray.size_append] at *; omega))])
                      simp only [Act.put, List.setIfInBounds_toArray, List.set_cons_zero, List.set_cons_succ]
                      refine wpAnyH_take (i := 2) (oi := { dst := some 81, op := Go.Op.move (Go.Operand.tmp 11), type := 47, pos := _, after := #[{ on := 1, ground := Go.Ground.guard }], guard := some (1, false) }) (v := undef) rfl (by kernel_rfl) (by kernel_rfl) (by kernel_rfl) (fun _ _ _ h => h) (Or.inr ⟨by rfl, rfl⟩) (by assumption) ?_
                      simp only [Act.put, List.setIfInBounds_toArray, List.set_cons_zero, List.set_cons_succ]
                      refine wpAnyH_take (i := 3) (oi := { dst := some 82, op := Go.Op.move (Go.Operand.tmp 15), type := 3, pos := _, after := #[{ on := 1, ground := Go.Ground.guard }], guard := some (1, false) }) (v := undef) rfl (by kernel_rfl) (by kernel_rfl) (by kernel_rfl) (fun _ _ _ h => h) (Or.inr ⟨by rfl, rfl⟩) (by assumption) ?_
                      simp only [Act.put, List.setIfInBounds_toArray, List.set_cons_zero, List.set_cons_succ]
                      refine wpAnyH_take (i := 4) (oi := { dst := some 83, op := Go.Op.indexAddr 47 (Go.Operand.tmp 81) (Go.Operand.tmp 82), type := 0, pos := _, after := #[{ on := 2, ground := Go.Ground.data }, { on := 3, ground := Go.Ground.data }, { on := 1, ground := Go.Ground.guard }], guard := some (1, false) }) (v := undef) rfl (by kernel_rfl) (by kernel_rfl) (by kernel_rfl) (fun _ _ _ h => h) (Or.inr ⟨by rfl, rfl⟩) (by assumption) ?_
                      simp only [Act.put, List.setIfInBounds_toArray, List.set_cons_zero, List.set_cons_succ]
                      refine wpAnyH_take (i := 5) (oi := { dst := some 84, op := Go.Op.load 51 (Go.Operand.tmp 83), type := 51, pos := _, after := #[{ on := 4, ground := Go.Ground.data }, { on := 1, ground := Go.Ground.guard }], guard := some (1, false) }) (v := undef) rfl (by kernel_rfl) (by kernel_rfl) (by kernel_rfl) (fun _ _ _ h => h) (Or.inr ⟨by rfl, rfl⟩) (by assumption) ?_
                      simp only [Act.put, List.setIfInBounds_toArray, List.set_cons_zero, List.set_cons_succ]
                      refine wpAnyH_take (i := 6) (oi := { dst := some 85, op := Go.Op.load 51 (Go.Operand.tmp 13), type := 51, pos := _, after := #[{ on := 1, ground := Go.Ground.guard }], guard := some (1, false) }) (v := undef) rfl (by kernel_rfl) (by kernel_rfl) (by kernel_rfl) (fun _ _ _ h => h) (Or.inr ⟨by rfl, rfl⟩) (by assumption) ?_
                      simp only [Act.put, List.setIfInBounds_toArray, List.set_cons_zero, List.set_cons_succ]
                      refine wpAnyH_take (i := 7) (oi := { dst := some 86, op := Go.Op.binOp Go.BinOp.eql 51 (Go.Operand.tmp 84) (Go.Operand.tmp 85) 51, type := 4, pos := _, after := #[{ on := 5, ground := Go.Ground.data }, { on := 6, ground := Go.Ground.data }, { on := 1, ground := Go.Ground.guard }], guard := some (1, false) }) (v := undef) rfl (by kernel_rfl) (by kernel_rfl) (by kernel_rfl) (fun _ _ _ h => h) (Or.inr ⟨by rfl, rfl⟩) (by assumption) ?_
                      simp only [Act.put, List.setIfInBounds_toArray, List.set_cons_zero, List.set_cons_succ]
                      refine wpAnyH_take (i := 8) (oi := { dst := some 87, op := Go.Op.pick (Go.Operand.tmp 80) (Go.Operand.const (Go.Value.bool true)) (Go.Operand.tmp 86), type := 4, pos := _, after := #[{ on := 1, ground := Go.Ground.data }, { on := 7, ground := Go.Ground.data }], guard := none }) (v := ?_) rfl (by kernel_rfl) (by kernel_rfl) (by kernel_rfl) (fun _ _ _ h => h) (Or.inl ⟨by rfl, ?_⟩) (by assumption) ?_
                      rotate_left
                      · intro w hSw; (try dsimp only at hSw); go_simp <;> first | with_reducible rfl | (rw [if_neg (by first | omega | (simp only [ByteArray.size_append] at *; omega))])
                      simp only [Act.put, List.setIfInBounds_toArray, List.set_cons_zero, List.set_cons_succ]
                      refine wpAnyH_take (i := 9) (oi := { dst := some 14, op := Go.Op.assign (Go.Operand.tmp 87), type := 4, pos := _, after := #[{ on := 8, ground := Go.Ground.data }, { on := 1, ground := Go.Ground.chain }, { on := 0, ground := Go.Ground.phase }, { on := 1, ground := Go.Ground.phase }, { on := 2, ground := Go.Ground.phase }, { on := 3, ground := Go.Ground.phase }, { on := 4, ground := Go.Ground.phase }, { on := 5, ground := Go.Ground.phase }, { on := 6, ground := Go.Ground.phase }, { on := 7, ground := Go.Ground.phase }, { on := 8, ground := Go.Ground.phase }], guard := none }) (v := ?_) rfl (by kernel_rfl) (by kernel_rfl) (by kernel_rfl) (fun _ _ _ h => h) (Or.inl ⟨by rfl, ?_⟩) (by assumption) ?_
                      rotate_left
                      · intro w hSw; (try dsimp only at hSw); go_simp <;> first | with_reducible rfl | (rw [if_neg (by first | omega | (simp only [ByteArray.size_append] at *; omega))])
                      simp only [Act.put, List.setIfInBounds_toArray, List.set_cons_zero, List.set_cons_succ]
                      refine wpAnyH_done (by kernel_rfl) ?_ _
                      go_wp2_with (fail)
                      go_roundw
                      case rel => exact ⟨t + 1, by omega, by go_num, by rw [HT.out]; rfl, RD⟩
                      case measure => simp [intOf]; omega
                    | false =>
                      go_wp2_with (fail)
                      refine wp_region_held_drew (S := fun V => V.cell? ⟨g, t * 2, none⟩ = some (.string q.1) ∧ V.cell? ⟨g, t * 2 + 1, none⟩ = some (.int .i64 (q.2 : Int)) ∧ V.cell? ⟨rb, 0, none⟩ = some (.string r.1) ∧ V.cell? ⟨rb, 1, none⟩ = some (.int .i64 (r.2 : Int))) (by kernel_rfl) ?_ (fun hHeld => ?_)
                      · exact ⟨y0, y1, y2, y3⟩
                      refine wpAnyH_take (i := 0) (oi := { dst := some 79, op := Go.Op.move (Go.Operand.tmp 14), type := 4, pos := _, after := #[], guard := none }) (v := ?_) rfl (by kernel_rfl) (by kernel_rfl) (by kernel_rfl) (fun _ _ _ h => h) (Or.inl ⟨by rfl, ?_⟩) (by assumption) ?_
                      rotate_left
                      · intro w hSw; (try dsimp only at hSw); go_simp <;> first | with_reducible rfl | (rw [if_neg (by first | omega | (simp only [ByteArray.size_append] at *; omega))])
                      simp only [Act.put, List.setIfInBounds_toArray, List.set_cons_zero, List.set_cons_succ]
                      refine wpAnyH_take (i := 1) (oi := { dst := some 80, op := Go.Op.move (Go.Operand.tmp 79), type := 4, pos := _, after := #[{ on := 0, ground := Go.Ground.data }], guard := none }) (v := ?_) rfl (by kernel_rfl) (by kernel_rfl) (by kernel_rfl) (fun _ _ _ h => h) (Or.inl ⟨by rfl, ?_⟩) (by assumption) ?_
                      rotate_left
                      · intro w hSw; (try dsimp only at hSw); go_simp <;> first | with_reducible rfl | (rw [if_neg (by first | omega | (simp only [ByteArray.size_append] at *; omega))])
                      simp only [Act.put, List.setIfInBounds_toArray, List.set_cons_zero, List.set_cons_succ]
                      refine wpAnyH_take (i := 2) (oi := { dst := some 81, op := Go.Op.move (Go.Operand.tmp 11), type := 47, pos := _, after := #[{ on := 1, ground := Go.Ground.guard }], guard := some (1, false) }) (v := ?_) rfl (by kernel_rfl) (by kernel_rfl) (by kernel_rfl) (fun _ _ _ h => h) (Or.inl ⟨by rfl, ?_⟩) (by assumption) ?_
                      rotate_left
                      · intro w hSw; (try dsimp only at hSw); go_simp <;> first | with_reducible rfl | (rw [if_neg (by first | omega | (simp only [ByteArray.size_append] at *; omega))])
                      simp only [Act.put, List.setIfInBounds_toArray, List.set_cons_zero, List.set_cons_succ]
                      refine wpAnyH_take (i := 3) (oi := { dst := some 82, op := Go.Op.move (Go.Operand.tmp 15), type := 3, pos := _, after := #[{ on := 1, ground := Go.Ground.guard }], guard := some (1, false) }) (v := ?_) rfl (by kernel_rfl) (by kernel_rfl) (by kernel_rfl) (fun _ _ _ h => h) (Or.inl ⟨by rfl, ?_⟩) (by assumption) ?_
                      rotate_left
                      · intro w hSw; (try dsimp only at hSw); go_simp <;> first | with_reducible rfl | (rw [if_neg (by first | omega | (simp only [ByteArray.size_append] at *; omega))])
                      simp only [Act.put, List.setIfInBounds_toArray, List.set_cons_zero, List.set_cons_succ]
                      refine wpAnyH_take (i := 4) (oi := { dst := some 83, op := Go.Op.indexAddr 47 (Go.Operand.tmp 81) (Go.Operand.tmp 82), type := 0, pos := _, after := #[{ on := 2, ground := Go.Ground.data }, { on := 3, ground := Go.Ground.data }, { on := 1, ground := Go.Ground.guard }], guard := some (1, false) }) (v := ?_) rfl (by kernel_rfl) (by kernel_rfl) (by kernel_rfl) (fun _ _ _ h => h) (Or.inl ⟨by rfl, ?_⟩) (by assumption) ?_
                      rotate_left
                      · intro w hSw; (try dsimp only at hSw); go_simp <;> first | with_reducible rfl | (rw [if_neg (by first | omega | (simp only [ByteArray.size_append] at *; omega))])
                      simp only [Act.put, List.setIfInBounds_toArray, List.set_cons_zero, List.set_cons_succ]
                      refine wpAnyH_take (i := 5) (oi := { dst := some 84, op := Go.Op.load 51 (Go.Operand.tmp 83), type := 51, pos := _, after := #[{ on := 4, ground := Go.Ground.data }, { on := 1, ground := Go.Ground.guard }], guard := some (1, false) }) (v := ?_) rfl (by kernel_rfl) (by kernel_rfl) (by kernel_rfl) (fun _ _ _ h => h) (Or.inl ⟨by rfl, ?_⟩) (by assumption) ?_
                      rotate_left
                      · intro w hSw; (try dsimp only at hSw); go_simp <;> first | with_reducible rfl | (rw [if_neg (by first | omega | (simp only [ByteArray.size_append] at *; omega))])
                      simp only [Act.put, List.setIfInBounds_toArray, List.set_cons_zero, List.set_cons_succ]
                      refine wpAnyH_take (i := 6) (oi := { dst := some 85, op := Go.Op.load 51 (Go.Operand.tmp 13), type := 51, pos := _, after := #[{ on := 1, ground := Go.Ground.guard }], guard := some (1, false) }) (v := ?_) rfl (by kernel_rfl) (by kernel_rfl) (by kernel_rfl) (fun _ _ _ h => h) (Or.inl ⟨by rfl, ?_⟩) (by assumption) ?_
                      rotate_left
                      · intro w hSw; (try dsimp only at hSw); go_simp <;> first | with_reducible rfl | (rw [if_neg (by first | omega | (simp only [ByteArray.size_append] at *; omega))])
                      simp only [Act.put, List.setIfInBounds_toArray, List.set_cons_zero, List.set_cons_succ]
                      refine wpAnyH_take (i := 7) (oi := { dst := some 86, op := Go.Op.binOp Go.BinOp.eql 51 (Go.Operand.tmp 84) (Go.Operand.tmp 85) 51, type := 4, pos := _, after := #[{ on := 5, ground := Go.Ground.data }, { on := 6, ground := Go.Ground.data }, { on := 1, ground := Go.Ground.guard }], guard := some (1, false) }) (v := .bool bq) rfl (by kernel_rfl) (by kernel_rfl) (by kernel_rfl) (fun _ _ _ h => h) (Or.inl ⟨by rfl, ?_⟩) (by assumption) ?_
                      · intro w hSw; (try dsimp only at hSw); go_simp; rw [← HBQ.out]; exact ref_eqA _ _ _ _ _
                      simp only [Act.put, List.setIfInBounds_toArray, List.set_cons_zero, List.set_cons_succ]
                      refine wpAnyH_take (i := 8) (oi := { dst := some 87, op := Go.Op.pick (Go.Operand.tmp 80) (Go.Operand.const (Go.Value.bool true)) (Go.Operand.tmp 86), type := 4, pos := _, after := #[{ on := 1, ground := Go.Ground.data }, { on := 7, ground := Go.Ground.data }], guard := none }) (v := ?_) rfl (by kernel_rfl) (by kernel_rfl) (by kernel_rfl) (fun _ _ _ h => h) (Or.inl ⟨by rfl, ?_⟩) (by assumption) ?_
                      rotate_left
                      · intro w hSw; (try dsimp only at hSw); go_simp <;> first | with_reducible rfl | (rw [if_neg (by first | omega | (simp only [ByteArray.size_append] at *; omega))])
                      simp only [Act.put, List.setIfInBounds_toArray, List.set_cons_zero, List.set_cons_succ]
                      refine wpAnyH_take (i := 9) (oi := { dst := some 14, op := Go.Op.assign (Go.Operand.tmp 87), type := 4, pos := _, after := #[{ on := 8, ground := Go.Ground.data }, { on := 1, ground := Go.Ground.chain }, { on := 0, ground := Go.Ground.phase }, { on := 1, ground := Go.Ground.phase }, { on := 2, ground := Go.Ground.phase }, { on := 3, ground := Go.Ground.phase }, { on := 4, ground := Go.Ground.phase }, { on := 5, ground := Go.Ground.phase }, { on := 6, ground := Go.Ground.phase }, { on := 7, ground := Go.Ground.phase }, { on := 8, ground := Go.Ground.phase }], guard := none }) (v := ?_) rfl (by kernel_rfl) (by kernel_rfl) (by kernel_rfl) (fun _ _ _ h => h) (Or.inl ⟨by rfl, ?_⟩) (by assumption) ?_
                      rotate_left
                      · intro w hSw; (try dsimp only at hSw); go_simp <;> first | with_reducible rfl | (rw [if_neg (by first | omega | (simp only [ByteArray.size_append] at *; omega))])
                      simp only [Act.put, List.setIfInBounds_toArray, List.set_cons_zero, List.set_cons_succ]
                      refine wpAnyH_done (by kernel_rfl) ?_ _
                      go_wp2_with (fail)
                      go_roundw
                      case rel => exact ⟨t + 1, by omega, by go_num, by rw [HT.out, Bool.false_or], RD⟩
                      case measure => simp [intOf]; omega
                  · have htl' : ¬ (t : Int) < (acc.length : Int) := by omega
                    obtain rfl : t = acc.length := by omega
                    rw [List.take_length]
                    clear ht htl
                    cases hin : rIn acc r with
                    | true =>
                      have HAD : Hid (addR acc r = acc) := hid (by unfold addR; rw [if_pos hin])
                      clear hin
                      go_wp2_with (fail)
                      go_roundw
                      case rel => exact ⟨k + 1, by omega, by go_num, hid (by rw [HSU.out, HAD.out]; exact HI.out.L)⟩
                      case measure => simp [intOf]; omega
                    | false =>
                      have HAD : Hid (addR acc r = acc ++ [r]) := hid (by unfold addR; rw [hin]; rfl)
                      clear hin
                      have N2 := hid (HI.out.L.keep ((Below.refl _ _).alloc (Nat.le_refl _) (.cells #[.string r.1, .int .i64 (r.2 : Int)] 51)))
                      have W2 := hid (two_newA wr (.string r.1) (.int .i64 (r.2 : Int)))
                      have hmx : acc.length + 1 ≤ maxLen := by unfold maxLen; omega
                      go_wp2_with (at_builtin; refine wpList_append_own _ rfl (.tmp 90) (.tmp 92) 47 rfl w7.heap.size 51 i0 _ 2 24 Tryd.underlying47 hi hz0 hz1 hz2 rfl (by decide) _ _ _ rfl N2.out.own ⟨wr.heap.size, 0, none⟩ 1 1 [.string r.1, .int .i64 (r.2 : Int)] rfl rfl W2.out (by simp [Value.oneCell']) hmx (by omega) N2.out.below.size ?_; intro v' w' hown1 hgrow1 _; have N3 := hid (N2.out.grow hown1 hgrow1); clear hown1 hgrow1)
                      go_roundw
                      case rel => exact ⟨k + 1, by omega, by go_num, hid (by rw [HSU.out, HAD.out]; exact N3.out)⟩
                      case measure => simp [intOf]; omega
              · have hl' : ¬ (k : Int) < (La.length : Int) := by omega
                have hj0 : (0 : Int) ≤ (j : Int) := by omega
                have hjl : (j : Int) < (Lb.length : Int) := by omega
                have ZB := (Below.refl wr.heap.size wr).alloc (Nat.le_refl _) (.cells #[.string ⟨#[]⟩, .int .i64 0] 51)
                have y0' := cell_kept y0 ZB
                have y1' := cell_kept y1 ZB
                clear ZB y0 y1
                go_wp2_with (fail)
                generalize hz' : later 0 z = r at *
                generalize wr.alloc (.cells #[.string z.1, .int .i64 (z.2 : Int)] 51) = W5 at *
                generalize wr.heap.size = rb at *
                clear hz'
                go_loopw [14, 15] (fun th i wv => ∃ t : Nat, t ≤ acc.length ∧ i = .int .i64 (t : Int) ∧ th = .bool (rIn (acc.take t) r) ∧ Hid (IN w7 acc (.slice va acc.length vc) rb r wv)) (fun _ i _ => acc.length - (intOf i).toNat)
                case atStart => exact ⟨0, Nat.zero_le _, rfl, rfl, I5⟩
                case round =>
                  obtain ⟨t, ht, rfl, rfl, HI⟩ := hrel
                  obtain ⟨y2, y3⟩ := HI.out.cells
                  by_cases htl : t < acc.length
                  · have htl' : (t : Int) < (acc.length : Int) := by omega
                    have ht0 : (0 : Int) ≤ (t : Int) := by omega
                    obtain ⟨a2, c2, e2, hh⟩ := RfAt.of_own HI.out.L.own
                    injection e2 with e2 _ e3
                    subst e2 e3
                    obtain ⟨g, rfl, hcc⟩ := hh.resolve_left (by omega)
                    obtain ⟨y0, y1⟩ := hcc t htl
                    have HT : Hid (rIn (acc.take (t + 1)) r = (rIn (acc.take t) r || (acc[t].1.data.toList == r.1.data.toList && acc[t].2 == r.2))) := hid (by unfold rIn; rw [List.take_succ_eq_append_getElem htl, List.any_append]; simp)
                    have RD := hid (HI.out.keep ((Below.refl _ _).drew))
                    clear hcc hh
                    generalize acc[t] = q at *
                    generalize rIn (acc.take t) r = th at *
                    generalize hbq : (q.1.data.toList == r.1.data.toList && q.2 == r.2) = bq at HT
                    have HBQ := hid hbq
                    clear hbq
                    cases th with
                    | true =>
                      go_wp2_with (fail)
                      refine wp_region_held_drew (S := fun V => V.cell? ⟨g, t * 2, none⟩ = some (.string q.1) ∧ V.cell? ⟨g, t * 2 + 1, none⟩ = some (.int .i64 (q.2 : Int)) ∧ V.cell? ⟨rb, 0, none⟩ = some (.string r.1) ∧ V.cell? ⟨rb, 1, none⟩ = some (.int .i64 (r.2 : Int))) (by kernel_rfl) ?_ (fun hHeld => ?_)
                      · exact ⟨y0, y1, y2, y3⟩
                      refine wpAnyH_take (i := 0) (oi := { dst := some 79, op := Go.Op.move (Go.Operand.tmp 14), type := 4, pos := _, after := #[], guard := none }) (v := ?_) rfl (by kernel_rfl) (by kernel_rfl) (by kernel_rfl) (fun _ _ _ h => h) (Or.inl ⟨by rfl, ?_⟩) (by assumption) ?_
                      rotate_left
                      · intro w hSw; (try dsimp only at hSw); go_simp <;> first | with_reducible rfl | (rw [if_neg (by first | omega | (simp only [ByteArray.size_append] at *; omega))])
                      simp only [Act.put, List.setIfInBounds_toArray, List.set_cons_zero, List.set_cons_succ]
                      refine wpAnyH_take (i := 1) (oi := { dst := some 80, op := Go.Op.move (Go.Operand.tmp 79), type := 4, pos := _, after := #[{ on := 0, ground := Go.Ground.data }], guard := none }) (v := ?_) rfl (by kernel_rfl) (by kernel_rfl) (by kernel_rfl) (fun _ _ _ h => h) (Or.inl ⟨by rfl, ?_⟩) (by assumption) ?_
                      rotate_left
                      · intro w hSw; (try dsimp only at hSw); go_simp <;> first | with_reducible rfl | (rw [if_neg (by first | omega | (simp only [ByteArray.size_append] at *; omega))])
                      simp only [Act.put, List.setIfInBounds_toArray, List.set_cons_zero, List.set_cons_succ]
                      refine wpAnyH_take (i := 2) (oi := { dst := some 81, op := Go.Op.move (Go.Operand.tmp 11), type := 47, pos := _, after := #[{ on := 1, ground := Go.Ground.guard }], guard := some (1, false) }) (v := undef) rfl (by kernel_rfl) (by kernel_rfl) (by kernel_rfl) (fun _ _ _ h => h) (Or.inr ⟨by rfl, rfl⟩) (by assumption) ?_
                      simp only [Act.put, List.setIfInBounds_toArray, List.set_cons_zero, List.set_cons_succ]
                      refine wpAnyH_take (i := 3) (oi := { dst := some 82, op := Go.Op.move (Go.Operand.tmp 15), type := 3, pos := _, after := #[{ on := 1, ground := Go.Ground.guard }], guard := some (1, false) }) (v := undef) rfl (by kernel_rfl) (by kernel_rfl) (by kernel_rfl) (fun _ _ _ h => h) (Or.inr ⟨by rfl, rfl⟩) (by assumption) ?_
                      simp only [Act.put, List.setIfInBounds_toArray, List.set_cons_zero, List.set_cons_succ]
                      refine wpAnyH_take (i := 4) (oi := { dst := some 83, op := Go.Op.indexAddr 47 (Go.Operand.tmp 81) (Go.Operand.tmp 82), type := 0, pos := _, after := #[{ on := 2, ground := Go.Ground.data }, { on := 3, ground := Go.Ground.data }, { on := 1, ground := Go.Ground.guard }], guard := some (1, false) }) (v := undef) rfl (by kernel_rfl) (by kernel_rfl) (by kernel_rfl) (fun _ _ _ h => h) (Or.inr ⟨by rfl, rfl⟩) (by assumption) ?_
                      simp only [Act.put, List.setIfInBounds_toArray, List.set_cons_zero, List.set_cons_succ]
                      refine wpAnyH_take (i := 5) (oi := { dst := some 84, op := Go.Op.load 51 (Go.Operand.tmp 83), type := 51, pos := _, after := #[{ on := 4, ground := Go.Ground.data }, { on := 1, ground := Go.Ground.guard }], guard := some (1, false) }) (v := undef) rfl (by kernel_rfl) (by kernel_rfl) (by kernel_rfl) (fun _ _ _ h => h) (Or.inr ⟨by rfl, rfl⟩) (by assumption) ?_
                      simp only [Act.put, List.setIfInBounds_toArray, List.set_cons_zero, List.set_cons_succ]
                      refine wpAnyH_take (i := 6) (oi := { dst := some 85, op := Go.Op.load 51 (Go.Operand.tmp 13), type := 51, pos := _, after := #[{ on := 1, ground := Go.Ground.guard }], guard := some (1, false) }) (v := undef) rfl (by kernel_rfl) (by kernel_rfl) (by kernel_rfl) (fun _ _ _ h => h) (Or.inr ⟨by rfl, rfl⟩) (by assumption) ?_
                      simp only [Act.put, List.setIfInBounds_toArray, List.set_cons_zero, List.set_cons_succ]
                      refine wpAnyH_take (i := 7) (oi := { dst := some 86, op := Go.Op.binOp Go.BinOp.eql 51 (Go.Operand.tmp 84) (Go.Operand.tmp 85) 51, type := 4, pos := _, after := #[{ on := 5, ground := Go.Ground.data }, { on := 6, ground := Go.Ground.data }, { on := 1, ground := Go.Ground.guard }], guard := some (1, false) }) (v := undef) rfl (by kernel_rfl) (by kernel_rfl) (by kernel_rfl) (fun _ _ _ h => h) (Or.inr ⟨by rfl, rfl⟩) (by assumption) ?_
                      simp only [Act.put, List.setIfInBounds_toArray, List.set_cons_zero, List.set_cons_succ]
                      refine wpAnyH_take (i := 8) (oi := { dst := some 87, op := Go.Op.pick (Go.Operand.tmp 80) (Go.Operand.const (Go.Value.bool true)) (Go.Operand.tmp 86), type := 4, pos := _, after := #[{ on := 1, ground := Go.Ground.data }, { on := 7, ground := Go.Ground.data }], guard := none }) (v := ?_) rfl (by kernel_rfl) (by kernel_rfl) (by kernel_rfl) (fun _ _ _ h => h) (Or.inl ⟨by rfl, ?_⟩) (by assumption) ?_
                      rotate_left
                      · intro w hSw; (try dsimp only at hSw); go_simp <;> first | with_reducible rfl | (rw [if_neg (by first | omega | (simp only [ByteArray.size_append] at *; omega))])
                      simp only [Act.put, List.setIfInBounds_toArray, List.set_cons_zero, List.set_cons_succ]
                      refine wpAnyH_take (i := 9) (oi := { dst := some 14, op := Go.Op.assign (Go.Operand.tmp 87), type := 4, pos := _, after := #[{ on := 8, ground := Go.Ground.data }, { on := 1, ground := Go.Ground.chain }, { on := 0, ground := Go.Ground.phase }, { on := 1, ground := Go.Ground.phase }, { on := 2, ground := Go.Ground.phase }, { on := 3, ground := Go.Ground.phase }, { on := 4, ground := Go.Ground.phase }, { on := 5, ground := Go.Ground.phase }, { on := 6, ground := Go.Ground.phase }, { on := 7, ground := Go.Ground.phase }, { on := 8, ground := Go.Ground.phase }], guard := none }) (v := ?_) rfl (by kernel_rfl) (by kernel_rfl) (by kernel_rfl) (fun _ _ _ h => h) (Or.inl ⟨by rfl, ?_⟩) (by assumption) ?_
                      rotate_left
                      · intro w hSw; (try dsimp only at hSw); go_simp <;> first | with_reducible rfl | (rw [if_neg (by first | omega | (simp only [ByteArray.size_append] at *; omega))])
                      simp only [Act.put, List.setIfInBounds_toArray, List.set_cons_zero, List.set_cons_succ]
                      refine wpAnyH_done (by kernel_rfl) ?_ _
                      go_wp2_with (fail)
                      go_roundw
                      case rel => exact ⟨t + 1, by omega, by go_num, by rw [HT.out]; rfl, RD⟩
                      case measure => simp [intOf]; omega
                    | false =>
                      go_wp2_with (fail)
                      refine wp_region_held_drew (S := fun V => V.cell? ⟨g, t * 2, none⟩ = some (.string q.1) ∧ V.cell? ⟨g, t * 2 + 1, none⟩ = some (.int .i64 (q.2 : Int)) ∧ V.cell? ⟨rb, 0, none⟩ = some (.string r.1) ∧ V.cell? ⟨rb, 1, none⟩ = some (.int .i64 (r.2 : Int))) (by kernel_rfl) ?_ (fun hHeld => ?_)
                      · exact ⟨y0, y1, y2, y3⟩
                      refine wpAnyH_take (i := 0) (oi := { dst := some 79, op := Go.Op.move (Go.Operand.tmp 14), type := 4, pos := _, after := #[], guard := none }) (v := ?_) rfl (by kernel_rfl) (by kernel_rfl) (by kernel_rfl) (fun _ _ _ h => h) (Or.inl ⟨by rfl, ?_⟩) (by assumption) ?_
                      rotate_left
                      · intro w hSw; (try dsimp only at hSw); go_simp <;> first | with_reducible rfl | (rw [if_neg (by first | omega | (simp only [ByteArray.size_append] at *; omega))])
                      simp only [Act.put, List.setIfInBounds_toArray, List.set_cons_zero, List.set_cons_succ]
                      refine wpAnyH_take (i := 1) (oi := { dst := some 80, op := Go.Op.move (Go.Operand.tmp 79), type := 4, pos := _, after := #[{ on := 0, ground := Go.Ground.data }], guard := none }) (v := ?_) rfl (by kernel_rfl) (by kernel_rfl) (by kernel_rfl) (fun _ _ _ h => h) (Or.inl ⟨by rfl, ?_⟩) (by assumption) ?_
                      rotate_left
                      · intro w hSw; (try dsimp only at hSw); go_simp <;> first | with_reducible rfl | (rw [if_neg (by first | omega | (simp only [ByteArray.size_append] at *; omega))])
                      simp only [Act.put, List.setIfInBounds_toArray, List.set_cons_zero, List.set_cons_succ]
                      refine wpAnyH_take (i := 2) (oi := { dst := some 81, op := Go.Op.move (Go.Operand.tmp 11), type := 47, pos := _, after := #[{ on := 1, ground := Go.Ground.guard }], guard := some (1, false) }) (v := ?_) rfl (by kernel_rfl) (by kernel_rfl) (by kernel_rfl) (fun _ _ _ h => h) (Or.inl ⟨by rfl, ?_⟩) (by assumption) ?_
                      rotate_left
                      · intro w hSw; (try dsimp only at hSw); go_simp <;> first | with_reducible rfl | (rw [if_neg (by first | omega | (simp only [ByteArray.size_append] at *; omega))])
                      simp only [Act.put, List.setIfInBounds_toArray, List.set_cons_zero, List.set_cons_succ]
                      refine wpAnyH_take (i := 3) (oi := { dst := some 82, op := Go.Op.move (Go.Operand.tmp 15), type := 3, pos := _, after := #[{ on := 1, ground := Go.Ground.guard }], guard := some (1, false) }) (v := ?_) rfl (by kernel_rfl) (by kernel_rfl) (by kernel_rfl) (fun _ _ _ h => h) (Or.inl ⟨by rfl, ?_⟩) (by assumption) ?_
                      rotate_left
                      · intro w hSw; (try dsimp only at hSw); go_simp <;> first | with_reducible rfl | (rw [if_neg (by first | omega | (simp only [ByteArray.size_append] at *; omega))])
                      simp only [Act.put, List.setIfInBounds_toArray, List.set_cons_zero, List.set_cons_succ]
                      refine wpAnyH_take (i := 4) (oi := { dst := some 83, op := Go.Op.indexAddr 47 (Go.Operand.tmp 81) (Go.Operand.tmp 82), type := 0, pos := _, after := #[{ on := 2, ground := Go.Ground.data }, { on := 3, ground := Go.Ground.data }, { on := 1, ground := Go.Ground.guard }], guard := some (1, false) }) (v := ?_) rfl (by kernel_rfl) (by kernel_rfl) (by kernel_rfl) (fun _ _ _ h => h) (Or.inl ⟨by rfl, ?_⟩) (by assumption) ?_
                      rotate_left
                      · intro w hSw; (try dsimp only at hSw); go_simp <;> first | with_reducible rfl | (rw [if_neg (by first | omega | (simp only [ByteArray.size_append] at *; omega))])
                      simp only [Act.put, List.setIfInBounds_toArray, List.set_cons_zero, List.set_cons_succ]
                      refine wpAnyH_take (i := 5) (oi := { dst := some 84, op := Go.Op.load 51 (Go.Operand.tmp 83), type := 51, pos := _, after := #[{ on := 4, ground := Go.Ground.data }, { on := 1, ground := Go.Ground.guard }], guard := some (1, false) }) (v := ?_) rfl (by kernel_rfl) (by kernel_rfl) (by kernel_rfl) (fun _ _ _ h => h) (Or.inl ⟨by rfl, ?_⟩) (by assumption) ?_
                      rotate_left
                      · intro w hSw; (try dsimp only at hSw); go_simp <;> first | with_reducible rfl | (rw [if_neg (by first | omega | (simp only [ByteArray.size_append] at *; omega))])
                      simp only [Act.put, List.setIfInBounds_toArray, List.set_cons_zero, List.set_cons_succ]
                      refine wpAnyH_take (i := 6) (oi := { dst := some 85, op := Go.Op.load 51 (Go.Operand.tmp 13), type := 51, pos := _, after := #[{ on := 1, ground := Go.Ground.guard }], guard := some (1, false) }) (v := ?_) rfl (by kernel_rfl) (by kernel_rfl) (by kernel_rfl) (fun _ _ _ h => h) (Or.inl ⟨by rfl, ?_⟩) (by assumption) ?_
                      rotate_left
                      · intro w hSw; (try dsimp only at hSw); go_simp <;> first | with_reducible rfl | (rw [if_neg (by first | omega | (simp only [ByteArray.size_append] at *; omega))])
                      simp only [Act.put, List.setIfInBounds_toArray, List.set_cons_zero, List.set_cons_succ]
                      refine wpAnyH_take (i := 7) (oi := { dst := some 86, op := Go.Op.binOp Go.BinOp.eql 51 (Go.Operand.tmp 84) (Go.Operand.tmp 85) 51, type := 4, pos := _, after := #[{ on := 5, ground := Go.Ground.data }, { on := 6, ground := Go.Ground.data }, { on := 1, ground := Go.Ground.guard }], guard := some (1, false) }) (v := .bool bq) rfl (by kernel_rfl) (by kernel_rfl) (by kernel_rfl) (fun _ _ _ h => h) (Or.inl ⟨by rfl, ?_⟩) (by assumption) ?_
                      · intro w hSw; (try dsimp only at hSw); go_simp; rw [← HBQ.out]; exact ref_eqA _ _ _ _ _
                      simp only [Act.put, List.setIfInBounds_toArray, List.set_cons_zero, List.set_cons_succ]
                      refine wpAnyH_take (i := 8) (oi := { dst := some 87, op := Go.Op.pick (Go.Operand.tmp 80) (Go.Operand.const (Go.Value.bool true)) (Go.Operand.tmp 86), type := 4, pos := _, after := #[{ on := 1, ground := Go.Ground.data }, { on := 7, ground := Go.Ground.data }], guard := none }) (v := ?_) rfl (by kernel_rfl) (by kernel_rfl) (by kernel_rfl) (fun _ _ _ h => h) (Or.inl ⟨by rfl, ?_⟩) (by assumption) ?_
                      rotate_left
                      · intro w hSw; (try dsimp only at hSw); go_simp <;> first | with_reducible rfl | (rw [if_neg (by first | omega | (simp only [ByteArray.size_append] at *; omega))])
                      simp only [Act.put, List.setIfInBounds_toArray, List.set_cons_zero, List.set_cons_succ]
                      refine wpAnyH_take (i := 9) (oi := { dst := some 14, op := Go.Op.assign (Go.Operand.tmp 87), type := 4, pos := _, after := #[{ on := 8, ground := Go.Ground.data }, { on := 1, ground := Go.Ground.chain }, { on := 0, ground := Go.Ground.phase }, { on := 1, ground := Go.Ground.phase }, { on := 2, ground := Go.Ground.phase }, { on := 3, ground := Go.Ground.phase }, { on := 4, ground := Go.Ground.phase }, { on := 5, ground := Go.Ground.phase }, { on := 6, ground := Go.Ground.phase }, { on := 7, ground := Go.Ground.phase }, { on := 8, ground := Go.Ground.phase }], guard := none }) (v := ?_) rfl (by kernel_rfl) (by kernel_rfl) (by kernel_rfl) (fun _ _ _ h => h) (Or.inl ⟨by rfl, ?_⟩) (by assumption) ?_
                      rotate_left
                      · intro w hSw; (try dsimp only at hSw); go_simp <;> first | with_reducible rfl | (rw [if_neg (by first | omega | (simp only [ByteArray.size_append] at *; omega))])
                      simp only [Act.put, List.setIfInBounds_toArray, List.set_cons_zero, List.set_cons_succ]
                      refine wpAnyH_done (by kernel_rfl) ?_ _
                      go_wp2_with (fail)
                      go_roundw
                      case rel => exact ⟨t + 1, by omega, by go_num, by rw [HT.out, Bool.false_or], RD⟩
                      case measure => simp [intOf]; omega
                  · have htl' : ¬ (t : Int) < (acc.length : Int) := by omega
                    obtain rfl : t = acc.length := by omega
                    rw [List.take_length]
                    clear ht htl
                    cases hin : rIn acc r with
                    | true =>
                      have HAD : Hid (addR acc r = acc) := hid (by unfold addR; rw [if_pos hin])
                      clear hin
                      go_wp2_with (fail)
                      go_roundw
                      case rel => exact ⟨k + 1, by omega, by go_num, hid (by rw [HSU.out, HAD.out]; exact HI.out.L)⟩
                      case measure => simp [intOf]; omega
                    | false =>
                      have HAD : Hid (addR acc r = acc ++ [r]) := hid (by unfold addR; rw [hin]; rfl)
                      clear hin
                      have N2 := hid (HI.out.L.keep ((Below.refl _ _).alloc (Nat.le_refl _) (.cells #[.string r.1, .int .i64 (r.2 : Int)] 51)))
                      have W2 := hid (two_newA wr (.string r.1) (.int .i64 (r.2 : Int)))
                      have hmx : acc.length + 1 ≤ maxLen := by unfold maxLen; omega
                      go_wp2_with (at_builtin; refine wpList_append_own _ rfl (.tmp 90) (.tmp 92) 47 rfl w7.heap.size 51 i0 _ 2 24 Tryd.underlying47 hi hz0 hz1 hz2 rfl (by decide) _ _ _ rfl N2.out.own ⟨wr.heap.size, 0, none⟩ 1 1 [.string r.1, .int .i64 (r.2 : Int)] rfl rfl W2.out (by simp [Value.oneCell']) hmx (by omega) N2.out.below.size ?_; intro v' w' hown1 hgrow1 _; have N3 := hid (N2.out.grow hown1 hgrow1); clear hown1 hgrow1)
                      go_roundw
                      case rel => exact ⟨k + 1, by omega, by go_num, hid (by rw [HSU.out, HAD.out]; exact N3.out)⟩
                      case measure => simp [intOf]; omega
            · have hlt' : ¬ (k : Int) < (La.length : Int) + (Lb.length : Int) := by omega
              obtain rfl : k = La.length + Lb.length := by omega
              have HWN : Hid (WL w7 (((La ++ Lb).map (later 0)).foldl addR []) u11 wr) := hid (by have := HW.out; rwa [show La.length + Lb.length = (La ++ Lb).length by simp, wantA_all] at this)
              clear HW
              have hwl : (((La ++ Lb).map (later 0)).foldl addR []).length ≤ 6000 := Nat.le_trans (foldR_len _ _) (by rw [List.length_map, List.length_append]; simp only [List.length_nil]; omega)
              generalize hLW : ((La ++ Lb).map (later 0)).foldl addR [] = LW at *
              have HLW := hid hLW
              clear hLW
              obtain ⟨va, vc, rfl, hvv⟩ := RfAt.of_own HWN.out.own
              clear hvv
              have G8 := hid (G7.out.keep HWN.out.below)
              obtain ⟨p0, p1, p2, p3⟩ := row_cells4 G8.out.xrow
              obtain ⟨q0, q1, q2, q3⟩ := row_cells4 G8.out.yrow
              have G9 := hid (G8.out.keep ((Below.refl wr.heap.size wr).alloc (Nat.le_refl _) (.cells #[.int .u8 (x.op : Int), .int .i64 x.n, .string x.name, (.slice ao x.args.length cap), .int .u8 (y.op : Int), .int .i64 y.n, .string y.name, (.slice bo y.args.length cap2)] 25)))
              have R9 := hid (show (wr.alloc (.cells #[.int .u8 (x.op : Int), .int .i64 x.n, .string x.name, (.slice ao x.args.length cap), .int .u8 (y.op : Int), .int .i64 y.n, .string y.name, (.slice bo y.args.length cap2)] 25)).heap[wr.heap.size]? = some (.cells #[.int .u8 (x.op : Int), .int .i64 x.n, .string x.name, (.slice ao x.args.length cap), .int .u8 (y.op : Int), .int .i64 y.n, .string y.name, (.slice bo y.args.length cap2)] 25 (0, 0)) from push_new _ _ _ rfl)
              have V9 := hid ((HWN.out.keep ((Below.refl wr.heap.size wr).alloc (Nat.le_refl _) (.cells #[.int .u8 (x.op : Int), .int .i64 x.n, .string x.name, (.slice ao x.args.length cap), .int .u8 (y.op : Int), .int .i64 y.n, .string y.name, (.slice bo y.args.length cap2)] 25))))
              have hpl : Lp.length = La.length := HPL.out
              go_wp2_with (fail)
              refine (of_at o _ _ _ [x, y] _).mono ?_
              rintro e w10 ⟨rfl, b10⟩
              have G10 := hid (G9.out.keep b10)
              have R10 := hid (keep_rowA R9.out b10)
              have V10 := hid (V9.out.keep b10)
              clear b10 G9 R9 V9 p0 p1 p2 p3 q0 q1 q2 q3
              go_wp2_with (fail)
              refine (refs 3001 ⟨o, 0, ByteArray.empty, [x, y]⟩ _ _ (st_two o ho256 _ G10.out.S G10.out.T R10.out) (nm_two HNX.out HNY.out) (by omega) (by rw [cnt_two]; have h1 := HCX.out; have h2 := HCY.out; omega)).mono ?_
              rintro e w11 ⟨vo, rfl, hro, b11⟩
              rw [gat_of2 3000 x y o ho3, HLA.out, HLB.out, HMO.out, HLW.out] at hro
              have ho11 := RfAt.of_own hro
              obtain ⟨oa, oc, rfl, _⟩ := ho11
              have V11 := hid (V10.out.keep b11)
              have G11 := hid (G10.out.keep b11)
              have HRO := hid (RfAt.of_own hro)
              clear b11 hro G10 V10 R10
              go_wp2_with (fail)
              refine (same_refs _ _ _ _ HRO.out (RfAt.of_own V11.out.own) (by omega)).mono ?_
              rintro e w12 ⟨rfl, b12⟩
              have G12 := hid (G11.out.keep b12)
              have B712 : Hid (Below w7.heap.size w7 w12) := hid (V11.out.below.trans (b12.mono V11.out.below.size))
              clear b12 G11 V11 HRO
              go_wp2_with (fail)
              go_loopw [16] (fun i wr => ∃ i' : Nat, i' ≤ La.length ∧ i = .int .i64 (i' : Int) ∧ Hid (Below w12.heap.size w12 wr)) (fun i _ => La.length - (intOf i).toNat)
              case atStart => exact ⟨0, Nat.zero_le _, rfl, hid (Below.refl _ _)⟩
              case round =>
                obtain ⟨i, hi', rfl, HB⟩ := hrel
                by_cases hil : i < La.length
                · have hil' : (i : Int) < (La.length : Int) := by omega
                  have hi0' : (0 : Int) ≤ (i : Int) := by omega
                  obtain ⟨ag, rfl, hcc⟩ := HRA.out.resolve_left (by omega)
                  obtain ⟨pg, rfl, hpc⟩ := HRP.out.resolve_left (by omega)
                  have HBB := hid (B712.out.trans (HB.out.mono B712.out.size))
                  have y2 := cell_kept (cell_kept (hcc i hil).1 HB47.out) HBB.out
                  have y3 := cell_kept (cell_kept (hcc i hil).2 HB47.out) HBB.out
                  have y0 := cell_kept (hpc i (by omega)).1 HBB.out
                  have y1 := cell_kept (hpc i (by omega)).2 HBB.out
                  have HAG : Hid ((La[i].2 : Int) ≤ 3000) := hid (by have := HGA.out _ (List.getElem_mem hil); omega)
                  have hpz := HPZ.out i hil (by omega)
                  rw [hpz] at y0 y1
                  rw [show (later 1 La[i]).1 = La[i].1 from rfl] at y0
                  rw [show (((later 1 La[i]).2 : Nat) : Int) = (La[i].2 : Int) + 1 by show ((La[i].2 + 1 : Nat) : Int) = _; omega] at y1
                  clear hcc hpc hpz
                  generalize La[i] = z at *
                  have hza := HAG.out
                  clear HAG
                  have hza0 : (0 : Int) ≤ (z.2 : Int) := by omega
                  have RD := hid (HB.out.trans ((Below.refl _ _).drew.mono HB.out.size))
                  go_wp2_with (fail)
                  refine wp_region_held_drew (S := fun V => V.cell? ⟨pg, i * 2, none⟩ = some (.string z.1) ∧ V.cell? ⟨pg, i * 2 + 1, none⟩ = some (.int .i64 ((z.2 : Int) + 1)) ∧ V.cell? ⟨ag, i * 2, none⟩ = some (.string z.1) ∧ V.cell? ⟨ag, i * 2 + 1, none⟩ = some (.int .i64 (z.2 : Int))) (by kernel_rfl) ?_ (fun hHeld => ?_)
                  · exact ⟨y0, y1, y2, y3⟩
                  refine wpAnyH_take (i := 0) (oi := { dst := some 116, op := Go.Op.move (Go.Operand.tmp 9), type := 47, pos := _, after := #[], guard := none }) (v := ?_) rfl (by kernel_rfl) (by kernel_rfl) (by kernel_rfl) (fun _ _ _ h => h) (Or.inl ⟨by rfl, ?_⟩) (by assumption) ?_
                  rotate_left
                  · intro w hSw; (try dsimp only at hSw); go_simp <;> first | with_reducible rfl | (rw [if_neg (by first | omega | (simp only [ByteArray.size_append] at *; omega))])
                  simp only [Act.put, List.setIfInBounds_toArray, List.set_cons_zero, List.set_cons_succ]
                  refine wpAnyH_take (i := 1) (oi := { dst := some 117, op := Go.Op.move (Go.Operand.tmp 16), type := 3, pos := _, after := #[], guard := none }) (v := ?_) rfl (by kernel_rfl) (by kernel_rfl) (by kernel_rfl) (fun _ _ _ h => h) (Or.inl ⟨by rfl, ?_⟩) (by assumption) ?_
                  rotate_left
                  · intro w hSw; (try dsimp only at hSw); go_simp <;> first | with_reducible rfl | (rw [if_neg (by first | omega | (simp only [ByteArray.size_append] at *; omega))])
                  simp only [Act.put, List.setIfInBounds_toArray, List.set_cons_zero, List.set_cons_succ]
                  refine wpAnyH_take (i := 2) (oi := { dst := some 118, op := Go.Op.indexAddr 47 (Go.Operand.tmp 116) (Go.Operand.tmp 117), type := 0, pos := _, after := #[{ on := 0, ground := Go.Ground.data }, { on := 1, ground := Go.Ground.data }], guard := none }) (v := ?_) rfl (by kernel_rfl) (by kernel_rfl) (by kernel_rfl) (fun _ _ _ h => h) (Or.inl ⟨by rfl, ?_⟩) (by assumption) ?_
                  rotate_left
                  · intro w hSw; (try dsimp only at hSw); go_simp <;> first | with_reducible rfl | (rw [if_neg (by first | omega | (simp only [ByteArray.size_append] at *; omega))])
                  simp only [Act.put, List.setIfInBounds_toArray, List.set_cons_zero, List.set_cons_succ]
                  refine wpAnyH_take (i := 3) (oi := { dst := some 119, op := Go.Op.load 51 (Go.Operand.tmp 118), type := 51, pos := _, after := #[{ on := 2, ground := Go.Ground.data }], guard := none }) (v := ?_) rfl (by kernel_rfl) (by kernel_rfl) (by kernel_rfl) (fun _ _ _ h => h) (Or.inl ⟨by rfl, ?_⟩) (by assumption) ?_
                  rotate_left
                  · intro w hSw; (try dsimp only at hSw); go_simp <;> first | with_reducible rfl | (rw [if_neg (by first | omega | (simp only [ByteArray.size_append] at *; omega))])
                  simp only [Act.put, List.setIfInBounds_toArray, List.set_cons_zero, List.set_cons_succ]
                  refine wpAnyH_take (i := 4) (oi := { dst := some 120, op := Go.Op.move (Go.Operand.tmp 7), type := 47, pos := _, after := #[], guard := none }) (v := ?_) rfl (by kernel_rfl) (by kernel_rfl) (by kernel_rfl) (fun _ _ _ h => h) (Or.inl ⟨by rfl, ?_⟩) (by assumption) ?_
                  rotate_left
                  · intro w hSw; (try dsimp only at hSw); go_simp <;> first | with_reducible rfl | (rw [if_neg (by first | omega | (simp only [ByteArray.size_append] at *; omega))])
                  simp only [Act.put, List.setIfInBounds_toArray, List.set_cons_zero, List.set_cons_succ]
                  refine wpAnyH_take (i := 5) (oi := { dst := some 121, op := Go.Op.move (Go.Operand.tmp 16), type := 3, pos := _, after := #[], guard := none }) (v := ?_) rfl (by kernel_rfl) (by kernel_rfl) (by kernel_rfl) (fun _ _ _ h => h) (Or.inl ⟨by rfl, ?_⟩) (by assumption) ?_
                  rotate_left
                  · intro w hSw; (try dsimp only at hSw); go_simp <;> first | with_reducible rfl | (rw [if_neg (by first | omega | (simp only [ByteArray.size_append] at *; omega))])
                  simp only [Act.put, List.setIfInBounds_toArray, List.set_cons_zero, List.set_cons_succ]
                  refine wpAnyH_take (i := 6) (oi := { dst := some 122, op := Go.Op.indexAddr 47 (Go.Operand.tmp 120) (Go.Operand.tmp 121), type := 0, pos := _, after := #[{ on := 4, ground := Go.Ground.data }, { on := 5, ground := Go.Ground.data }], guard := none }) (v := ?_) rfl (by kernel_rfl) (by kernel_rfl) (by kernel_rfl) (fun _ _ _ h => h) (Or.inl ⟨by rfl, ?_⟩) (by assumption) ?_
                  rotate_left
                  · intro w hSw; (try dsimp only at hSw); go_simp <;> first | with_reducible rfl | (rw [if_neg (by first | omega | (simp only [ByteArray.size_append] at *; omega))])
                  simp only [Act.put, List.setIfInBounds_toArray, List.set_cons_zero, List.set_cons_succ]
                  refine wpAnyH_take (i := 7) (oi := { dst := some 123, op := Go.Op.fieldAddr 51 (Go.Operand.tmp 122) 0, type := 0, pos := _, after := #[{ on := 6, ground := Go.Ground.data }], guard := none }) (v := ?_) rfl (by kernel_rfl) (by kernel_rfl) (by kernel_rfl) (fun _ _ _ h => h) (Or.inl ⟨by rfl, ?_⟩) (by assumption) ?_
                  rotate_left
                  · intro w hSw; (try dsimp only at hSw); go_simp <;> first | with_reducible rfl | (rw [if_neg (by first | omega | (simp only [ByteArray.size_append] at *; omega))])
                  simp only [Act.put, List.setIfInBounds_toArray, List.set_cons_zero, List.set_cons_succ]
                  refine wpAnyH_take (i := 8) (oi := { dst := some 124, op := Go.Op.load 9 (Go.Operand.tmp 123), type := 9, pos := _, after := #[{ on := 7, ground := Go.Ground.data }], guard := none }) (v := ?_) rfl (by kernel_rfl) (by kernel_rfl) (by kernel_rfl) (fun _ _ _ h => h) (Or.inl ⟨by rfl, ?_⟩) (by assumption) ?_
                  rotate_left
                  · intro w hSw; (try dsimp only at hSw); go_simp <;> first | with_reducible rfl | (rw [if_neg (by first | omega | (simp only [ByteArray.size_append] at *; omega))])
                  simp only [Act.put, List.setIfInBounds_toArray, List.set_cons_zero, List.set_cons_succ]
                  refine wpAnyH_take (i := 9) (oi := { dst := some 125, op := Go.Op.move (Go.Operand.tmp 7), type := 47, pos := _, after := #[], guard := none }) (v := ?_) rfl (by kernel_rfl) (by kernel_rfl) (by kernel_rfl) (fun _ _ _ h => h) (Or.inl ⟨by rfl, ?_⟩) (by assumption) ?_
                  rotate_left
                  · intro w hSw; (try dsimp only at hSw); go_simp <;> first | with_reducible rfl | (rw [if_neg (by first | omega | (simp only [ByteArray.size_append] at *; omega))])
                  simp only [Act.put, List.setIfInBounds_toArray, List.set_cons_zero, List.set_cons_succ]
                  refine wpAnyH_take (i := 10) (oi := { dst := some 126, op := Go.Op.move (Go.Operand.tmp 16), type := 3, pos := _, after := #[], guard := none }) (v := ?_) rfl (by kernel_rfl) (by kernel_rfl) (by kernel_rfl) (fun _ _ _ h => h) (Or.inl ⟨by rfl, ?_⟩) (by assumption) ?_
                  rotate_left
                  · intro w hSw; (try dsimp only at hSw); go_simp <;> first | with_reducible rfl | (rw [if_neg (by first | omega | (simp only [ByteArray.size_append] at *; omega))])
                  simp only [Act.put, List.setIfInBounds_toArray, List.set_cons_zero, List.set_cons_succ]
                  refine wpAnyH_take (i := 11) (oi := { dst := some 127, op := Go.Op.indexAddr 47 (Go.Operand.tmp 125) (Go.Operand.tmp 126), type := 0, pos := _, after := #[{ on := 9, ground := Go.Ground.data }, { on := 10, ground := Go.Ground.data }], guard := none }) (v := ?_) rfl (by kernel_rfl) (by kernel_rfl) (by kernel_rfl) (fun _ _ _ h => h) (Or.inl ⟨by rfl, ?_⟩) (by assumption) ?_
                  rotate_left
                  · intro w hSw; (try dsimp only at hSw); go_simp <;> first | with_reducible rfl | (rw [if_neg (by first | omega | (simp only [ByteArray.size_append] at *; omega))])
                  simp only [Act.put, List.setIfInBounds_toArray, List.set_cons_zero, List.set_cons_succ]
                  refine wpAnyH_take (i := 12) (oi := { dst := some 128, op := Go.Op.fieldAddr 51 (Go.Operand.tmp 127) 1, type := 0, pos := _, after := #[{ on := 11, ground := Go.Ground.data }], guard := none }) (v := ?_) rfl (by kernel_rfl) (by kernel_rfl) (by kernel_rfl) (fun _ _ _ h => h) (Or.inl ⟨by rfl, ?_⟩) (by assumption) ?_
                  rotate_left
                  · intro w hSw; (try dsimp only at hSw); go_simp <;> first | with_reducible rfl | (rw [if_neg (by first | omega | (simp only [ByteArray.size_append] at *; omega))])
                  simp only [Act.put, List.setIfInBounds_toArray, List.set_cons_zero, List.set_cons_succ]
                  refine wpAnyH_take (i := 13) (oi := { dst := some 129, op := Go.Op.load 3 (Go.Operand.tmp 128), type := 3, pos := _, after := #[{ on := 12, ground := Go.Ground.data }], guard := none }) (v := ?_) rfl (by kernel_rfl) (by kernel_rfl) (by kernel_rfl) (fun _ _ _ h => h) (Or.inl ⟨by rfl, ?_⟩) (by assumption) ?_
                  rotate_left
                  · intro w hSw; (try dsimp only at hSw); go_simp <;> first | with_reducible rfl | (rw [if_neg (by first | omega | (simp only [ByteArray.size_append] at *; omega))])
                  simp only [Act.put, List.setIfInBounds_toArray, List.set_cons_zero, List.set_cons_succ]
                  refine wpAnyH_take (i := 14) (oi := { dst := some 130, op := Go.Op.binOp Go.BinOp.add 3 (Go.Operand.tmp 129) (Go.Operand.const (Go.Value.int Go.IntKind.i64 1)) 3, type := 3, pos := _, after := #[{ on := 13, ground := Go.Ground.data }], guard := none }) (v := ?_) rfl (by kernel_rfl) (by kernel_rfl) (by kernel_rfl) (fun _ _ _ h => h) (Or.inl ⟨by rfl, ?_⟩) (by assumption) ?_
                  rotate_left
                  · intro w hSw; (try dsimp only at hSw); go_simp <;> first | with_reducible rfl | (rw [if_neg (by first | omega | (simp only [ByteArray.size_append] at *; omega))])
                  simp only [Act.put, List.setIfInBounds_toArray, List.set_cons_zero, List.set_cons_succ]
                  refine wpAnyH_take (i := 15) (oi := { dst := some 131, op := Go.Op.build 51 #[(0, Go.Operand.tmp 124), (1, Go.Operand.tmp 130)], type := 51, pos := _, after := #[{ on := 8, ground := Go.Ground.data }, { on := 14, ground := Go.Ground.data }], guard := none }) (v := ?_) rfl (by kernel_rfl) (by kernel_rfl) (by kernel_rfl) (fun _ _ _ h => h) (Or.inl ⟨by rfl, ?_⟩) (by assumption) ?_
                  rotate_left
                  · intro w hSw; (try dsimp only at hSw); go_simp <;> first | with_reducible rfl | (rw [if_neg (by first | omega | (simp only [ByteArray.size_append] at *; omega))])
                  simp only [Act.put, List.setIfInBounds_toArray, List.set_cons_zero, List.set_cons_succ]
                  refine wpAnyH_take (i := 16) (oi := { dst := some 132, op := Go.Op.binOp Go.BinOp.neq 51 (Go.Operand.tmp 119) (Go.Operand.tmp 131) 51, type := 4, pos := _, after := #[{ on := 3, ground := Go.Ground.data }, { on := 15, ground := Go.Ground.data }], guard := none }) (v := .bool false) rfl (by kernel_rfl) (by kernel_rfl) (by kernel_rfl) (fun _ _ _ h => h) (Or.inl ⟨by rfl, ?_⟩) (by assumption) ?_
                  · intro w hSw; (try dsimp only at hSw); go_simp; rw [IntKind.wrap_i64]; omega
                  simp only [Act.put, List.setIfInBounds_toArray, List.set_cons_zero, List.set_cons_succ]
                  refine wpAnyH_done (by kernel_rfl) ?_ _
                  go_wp2_with (fail)
                  go_roundw
                  case rel => exact ⟨i + 1, by omega, by go_num, RD⟩
                  case measure => simp [intOf]; omega
                · have hil' : ¬ (i : Int) < (La.length : Int) := by omega
                  go_wp2_with (fail)
                  go_ret
                  exact ⟨rfl, G12.out.below.trans (HB.out.mono G12.out.below.size)⟩
end Go.Proofs.YtkieljleopbhoaaDoor.Lex
