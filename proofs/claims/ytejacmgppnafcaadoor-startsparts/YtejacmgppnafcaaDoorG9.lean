/-
  What is of several parts has its instant by theirs: the walk of the law.
-/
import Derived.Test.YtejacmgppnafcaaDoorG7
import Derived.Test.YtejacmgppnafcaaDoorG8
import Derived.Test.YtejacmgppnafcaaDoorG6
namespace Go.Proofs.YtejacmgppnafcaaDoor.Lex
open Go.ChangeShapes Go.WideShapes Go.ChangeAt Go.RowKit Go.Joins
set_option maxRecDepth 100000 in
set_option maxHeartbeats 8000000 in
theorem walk6 (p : Pg) (x : Ex) (w : World) (s a b c : Value) (hP : PgAt w p a b c) (hS : St w x s) (hR : TabR w) (hJ : TabJ w) : Calls Tryd.prog 6 #[pgV p a b c, exV x s] w fun e w' => e = .returned (.bool true) ∧ Below w.heap.size w w' := by
  obtain ⟨a0, a1, rfl, _⟩ := hP.ins
  obtain ⟨b0, b1, _, rfl, _⟩ := hP.flows
  obtain ⟨c0, c1, rfl, _⟩ := hP.outs
  obtain ⟨ao, cap, _, rfl, _⟩ := hS.out
  have B2 := bstep ((Below.refl w.heap.size w).alloc (Nat.le_refl _) (.cells (pgC p (.slice a0 p.ins.length a1) (.slice b0 p.flows.length b1) (.slice c0 p.outs.length c1)) 26)) ((Below.refl _ _).alloc (Nat.le_refl _) (.cells #[.int .u8 (x.op : Int), .int .i64 x.n, .string x.name, .slice ao x.args.length cap] 30))
  have X0 := hid (OX.mk (w := w) (ao := ao) (cap := cap) (W := ((w.alloc (.cells (pgC p (.slice a0 p.ins.length a1) (.slice b0 p.flows.length b1) (.slice c0 p.outs.length c1)) 26)).alloc (.cells #[.int .u8 (x.op : Int), .int .i64 x.n, .string x.name, .slice ao x.args.length cap] 30))) (push_old (push_new _ _ _ rfl)) (push_new _ _ _ (by simp)) (hP.keep B2) (hS.keep B2) (hR.below B2) (hJ.below B2) B2)
  clear B2 hP hS hR hJ
  go_enter Tryd.func6, Tryd.ntmps6
  go_wp2_with (fail)
  refine (alive _ X0.out.R X0.out.J).mono ?_
  rintro e w1 ⟨rfl, hb1⟩
  have X1 := hid (X0.out.keep hb1)
  clear hb1
  obtain ⟨p0, p1, p2, p3⟩ := X1.out.pcs
  go_wp2_with (fail)
  refine (great p _ _ _ _ X1.out.P).mono ?_
  rintro e w2 ⟨⟨g, rfl, hg⟩, hb2⟩
  have X2 := hid (X1.out.keep hb2)
  clear hb2 X1 X0 p0 p1 p2 p3
  cases g with
  | true =>
    clear hg
    go_wp2_with (fail)
    refine (alive _ X2.out.R X2.out.J).mono ?_
    rintro e w3 ⟨rfl, hb3⟩
    have X3 := hid (X2.out.keep hb3)
    clear hb3
    have hB := X3.out.below
    go_wp2_with (fail)
    go_ret
    exact ⟨rfl, hB⟩
  | false =>
    have HG := hid hg
    clear hg
    obtain ⟨q0, q1, q2, q3⟩ := X2.out.xcs
    go_wp2_with (fail)
    refine (size_any _ x (Nat.le_refl _) _ _ X2.out.S).mono ?_
    rintro e w3 ⟨⟨m, rfl⟩, hb3⟩
    have X3 := hid (X2.out.keep hb3)
    clear hb3 X2 q0 q1 q2 q3
    by_cases hm : (20000 : Int) < m
    · go_wp2_with (fail)
      refine (alive _ X3.out.R X3.out.J).mono ?_
      rintro e w4 ⟨rfl, hb4⟩
      have X4 := hid (X3.out.keep hb4)
      clear hb4
      have hB := X4.out.below
      go_wp2_with (fail)
      go_ret
      exact ⟨rfl, hB⟩
    · obtain ⟨p0, p1, p2, p3⟩ := X3.out.pcs
      obtain ⟨q0, q1, q2, q3⟩ := X3.out.xcs
      by_cases hz : (ofV p x).2 = 0
      · have HZ := hid hz
        obtain ⟨hck, has⟩ := (of_zero p x).1 hz
        have HCK := hid hck
        have c13 := of_ p x _ _ _ _ _ X3.out.P X3.out.S X3.out.R X3.out.J
        rw [of_ok hck has] at c13
        have HLE : Hid (∀ y ∈ x.args, stE y ≤ 31) := hid (fun y hy => stE_le 31 y ((chk_ok hck).2 y hy))
        clear hz hck has
        generalize hty : stE x = ty at c13
        have HTY := hid hty
        clear hty
        go_wp2_with (fail)
        refine c13.mono ?_
        rintro e w5 ⟨rfl, hb5⟩
        have X5 := hid (X3.out.keep hb5)
        clear hb5 X3 p0 p1 p2 p3 q0 q1 q2 q3 c13
        obtain ⟨ao', cap', sl, heq, _, _, _, hlen, _, hc, hs⟩ := X5.out.S.out
        injection heq with e1 e2 e3
        subst e1 e3
        have HLN := hid hlen
        have HC := hid hc
        have HS := hid hs
        clear hlen hc hs e2
        go_wp2_with (fail)
        go_loopw [7, 8, 9, 10] (fun m l f i wr => ∃ k : Nat, k ≤ x.args.length ∧ m = .int .i64 (lat ((x.args.take k).map stE) : Int) ∧ l = .int .i64 (((x.args.take k).map stE).getLastD 0 : Int) ∧ f = .int .i64 (((x.args.take k).map stE).headD 0 : Int) ∧ i = .int .i64 (k : Int) ∧ Hid (Below w5.heap.size w5 wr)) (fun _ _ _ i _ => x.args.length - (intOf i).toNat)
        case atStart => exact ⟨0, Nat.zero_le _, rfl, rfl, rfl, rfl, hid (Below.refl _ _)⟩
        case round =>
          obtain ⟨k, hk, rfl, rfl, rfl, rfl, HY⟩ := hrel
          have XK := hid (X5.out.keep HY.out)
          by_cases hlt : k < x.args.length
          · have hlt' : (k : Int) < (x.args.length : Int) := by omega
            have hk0 : (0 : Int) ≤ (k : Int) := by omega
            have hln := HLN.out
            obtain ⟨bb, o, rfl, hc⟩ := HC.out.resolve_left (by omega)
            obtain ⟨g0, g1, g2, g3⟩ := hc k hlt
            have y0 := cell_kept g0 HY.out
            have y1 := cell_kept g1 HY.out
            have y2 := cell_kept g2 HY.out
            have y3 := cell_kept g3 HY.out
            obtain ⟨a4, c4, _, e4, _⟩ := (HS.out k hlt).out
            rw [e4] at y3
            have HT : Hid ((x.args.take (k + 1)).map stE = (x.args.take k).map stE ++ [stE x.args[k]]) := hid (by rw [List.take_succ_eq_append_getElem hlt, List.map_append]; rfl)
            have HTL : Hid (((x.args.take k).map stE).length = k) := hid (by simp; omega)
            have HST := hid ((e4 ▸ HS.out k hlt).keep HY.out)
            have HOP := hid (of_part HZ.out (List.getElem_mem hlt))
            obtain ⟨s0, s1, s2, s3⟩ := XK.out.pcs
            obtain ⟨v0, v1, v2, v3⟩ := XK.out.xcs
            clear g0 g1 g2 g3 hc e4
            generalize x.args[k] = y at *
            have c13 := of_ p y wr.drew _ _ _ _ (XK.out.P.keep (Below.refl _ _).drew) (HST.out.keep (Below.refl _ _).drew) (XK.out.R.below (Below.refl _ _).drew) (XK.out.J.below (Below.refl _ _).drew)
            rw [HOP.out] at c13
            generalize stE y = tt at *
            generalize (x.args.take k).map stE = ll at *
            have HLA : Hid (lat (ll ++ [tt]) = max (lat ll) tt) := hid (lat_snoc _ _)
            generalize lat ll = lm at *
            have HHD : Hid (k ≠ 0 → (ll ++ [tt]).headD 0 = ll.headD 0) := hid (fun h => by
              cases ll with
              | nil => exact (h (by have := HTL.out; simpa using this.symm)).elim
              | cons a l => rfl)
            have HH0 : Hid (k = 0 → (ll ++ [tt]).headD 0 = tt) := hid (fun h => by
              cases ll with
              | nil => rfl
              | cons a l => have := HTL.out; simp at this; omega)
            have HGL : Hid ((ll ++ [tt]).getLastD 0 = tt) := hid (by simp)
            generalize ll.headD 0 = lh at *
            generalize ll.getLastD 0 = lg at *
            go_wp2_with (fail)
            refine wp_region_held_drew (S := fun W => W.cell? ⟨w.heap.size, 0, none⟩ = some (.int .i64 p.st) ∧ W.cell? ⟨w.heap.size, 1, none⟩ = some ((.slice a0 p.ins.length a1)) ∧ W.cell? ⟨w.heap.size, 2, none⟩ = some ((.slice b0 p.flows.length b1)) ∧ W.cell? ⟨w.heap.size, 3, none⟩ = some ((.slice c0 p.outs.length c1)) ∧ W.cell? ⟨w.heap.size + 1, 3, none⟩ = some (.slice (some ⟨bb, o, none⟩) x.args.length cap) ∧ W.cell? ⟨bb, o + k * 4, none⟩ = some (.int .u8 (y.op : Int)) ∧ W.cell? ⟨bb, o + k * 4 + 1, none⟩ = some (.int .i64 y.n) ∧ W.cell? ⟨bb, o + k * 4 + 2, none⟩ = some (.string y.name) ∧ W.cell? ⟨bb, o + k * 4 + 3, none⟩ = some (.slice a4 y.args.length c4)) (by kernel_rfl) ?_ (fun hHeld => ?_)
            · exact ⟨s0, s1, s2, s3, v3, y0, y1, y2, y3⟩
            refine wpAnyH_take (i := 0) (oi := { dst := some 51, op := Go.Op.load 26 (Go.Operand.tmp 2), type := 26, pos := _, after := #[], guard := none }) (v := ?_) rfl (by kernel_rfl) (by kernel_rfl) (by kernel_rfl) (fun _ _ _ h => h) (Or.inl ⟨by rfl, ?_⟩) (by assumption) ?_
            rotate_left
            · intro w hSw; (try dsimp only at hSw); go_simp <;> first | with_reducible rfl | (rw [if_neg (by first | omega | (simp only [ByteArray.size_append] at *; omega))])
            simp only [Act.put, List.setIfInBounds_toArray, List.set_cons_zero, List.set_cons_succ]
            refine wpAnyH_take (i := 1) (oi := { dst := some 52, op := Go.Op.fieldAddr 30 (Go.Operand.tmp 3) 3, type := 0, pos := _, after := #[], guard := none }) (v := ?_) rfl (by kernel_rfl) (by kernel_rfl) (by kernel_rfl) (fun _ _ _ h => h) (Or.inl ⟨by rfl, ?_⟩) (by assumption) ?_
            rotate_left
            · intro w hSw; (try dsimp only at hSw); go_simp <;> first | with_reducible rfl | (rw [if_neg (by first | omega | (simp only [ByteArray.size_append] at *; omega))])
            simp only [Act.put, List.setIfInBounds_toArray, List.set_cons_zero, List.set_cons_succ]
            refine wpAnyH_take (i := 2) (oi := { dst := some 53, op := Go.Op.load 28 (Go.Operand.tmp 52), type := 28, pos := _, after := #[{ on := 1, ground := Go.Ground.data }], guard := none }) (v := ?_) rfl (by kernel_rfl) (by kernel_rfl) (by kernel_rfl) (fun _ _ _ h => h) (Or.inl ⟨by rfl, ?_⟩) (by assumption) ?_
            rotate_left
            · intro w hSw; (try dsimp only at hSw); go_simp <;> first | with_reducible rfl | (rw [if_neg (by first | omega | (simp only [ByteArray.size_append] at *; omega))])
            simp only [Act.put, List.setIfInBounds_toArray, List.set_cons_zero, List.set_cons_succ]
            refine wpAnyH_take (i := 3) (oi := { dst := some 54, op := Go.Op.move (Go.Operand.tmp 10), type := 3, pos := _, after := #[], guard := none }) (v := ?_) rfl (by kernel_rfl) (by kernel_rfl) (by kernel_rfl) (fun _ _ _ h => h) (Or.inl ⟨by rfl, ?_⟩) (by assumption) ?_
            rotate_left
            · intro w hSw; (try dsimp only at hSw); go_simp <;> first | with_reducible rfl | (rw [if_neg (by first | omega | (simp only [ByteArray.size_append] at *; omega))])
            simp only [Act.put, List.setIfInBounds_toArray, List.set_cons_zero, List.set_cons_succ]
            refine wpAnyH_take (i := 4) (oi := { dst := some 55, op := Go.Op.indexAddr 28 (Go.Operand.tmp 53) (Go.Operand.tmp 54), type := 0, pos := _, after := #[{ on := 2, ground := Go.Ground.data }, { on := 3, ground := Go.Ground.data }], guard := none }) (v := ?_) rfl (by kernel_rfl) (by kernel_rfl) (by kernel_rfl) (fun _ _ _ h => h) (Or.inl ⟨by rfl, ?_⟩) (by assumption) ?_
            rotate_left
            · intro w hSw; (try dsimp only at hSw); go_simp <;> first | with_reducible rfl | (rw [if_neg (by first | omega | (simp only [ByteArray.size_append] at *; omega))])
            simp only [Act.put, List.setIfInBounds_toArray, List.set_cons_zero, List.set_cons_succ]
            refine wpAnyH_take (i := 5) (oi := { dst := some 56, op := Go.Op.load 30 (Go.Operand.tmp 55), type := 30, pos := _, after := #[{ on := 4, ground := Go.Ground.data }], guard := none }) (v := ?_) rfl (by kernel_rfl) (by kernel_rfl) (by kernel_rfl) (fun _ _ _ h => h) (Or.inl ⟨by rfl, ?_⟩) (by assumption) ?_
            rotate_left
            · intro w hSw; (try dsimp only at hSw); go_simp <;> first | with_reducible rfl | (rw [if_neg (by first | omega | (simp only [ByteArray.size_append] at *; omega))])
            simp only [Act.put, List.setIfInBounds_toArray, List.set_cons_zero, List.set_cons_succ]
            refine wpAnyH_ready (rs := [6]) (by kernel_rfl) (by simp) ?_
            refine AllReadyH.cons (o := { dst := some 57, op := Go.Op.call { callee := Go.Callee.value (Go.Operand.func 13), args := #[Go.Operand.tmp 51, Go.Operand.tmp 56], argTypes := #[26, 30] }, type := 36, pos := _, after := #[{ on := 0, ground := Go.Ground.data }, { on := 5, ground := Go.Ground.data }], guard := none }) rfl (fun K hK => ?_) AllReadyH.nil
            go_simp
            refine c13.mono ?_
            rintro e w3 ⟨rfl, hb3'⟩
            have hb3 : Below wr.heap.size wr w3 := (Below.refl _ _).drew.trans (hb3'.mono (by simp))
            have HY3 := hid (bstep HY.out hb3)
            have XX := hid (XK.out.keep hb3)
            obtain ⟨t0, t1, t2, t3⟩ := XX.out.pcs
            obtain ⟨u0, u1, u2, u3⟩ := XX.out.xcs
            go_wp2_with fail
            refine hK.out _ _ ?_ (fun hHeld1 => ?_)
            · exact ⟨t0, t1, t2, t3, u3, cell_kept y0 hb3, cell_kept y1 hb3, cell_kept y2 hb3, cell_kept y3 hb3⟩
            clear hK K
            refine wpAnyH_take (i := 7) (oi := { dst := some 50, op := Go.Op.move (Go.Operand.tmp 57), type := 36, pos := _, after := #[{ on := 6, ground := Go.Ground.data }], guard := none }) (v := ?_) rfl (by kernel_rfl) (by kernel_rfl) (by kernel_rfl) (fun _ _ _ h => h) (Or.inl ⟨by rfl, ?_⟩) (by assumption) ?_
            rotate_left
            · intro w hSw; (try dsimp only at hSw); go_simp <;> first | with_reducible rfl | (rw [if_neg (by first | omega | (simp only [ByteArray.size_append] at *; omega))])
            simp only [Act.put, List.setIfInBounds_toArray, List.set_cons_zero, List.set_cons_succ]
            refine wpAnyH_take (i := 8) (oi := { dst := some 58, op := Go.Op.extract (Go.Operand.tmp 50) 0, type := 3, pos := _, after := #[{ on := 7, ground := Go.Ground.data }], guard := none }) (v := ?_) rfl (by kernel_rfl) (by kernel_rfl) (by kernel_rfl) (fun _ _ _ h => h) (Or.inl ⟨by rfl, ?_⟩) (by assumption) ?_
            rotate_left
            · intro w hSw; (try dsimp only at hSw); go_simp <;> first | with_reducible rfl | (rw [if_neg (by first | omega | (simp only [ByteArray.size_append] at *; omega))])
            simp only [Act.put, List.setIfInBounds_toArray, List.set_cons_zero, List.set_cons_succ]
            refine wpAnyH_take (i := 9) (oi := { dst := some 59, op := Go.Op.extract (Go.Operand.tmp 50) 1, type := 35, pos := _, after := #[{ on := 7, ground := Go.Ground.data }, { on := 10, ground := Go.Ground.gcOnly Go.Departure.lateStores }], guard := none }) (v := ?_) rfl (by kernel_rfl) (by kernel_rfl) (by kernel_rfl) (fun _ _ _ h => h) (Or.inl ⟨by rfl, ?_⟩) (by assumption) ?_
            rotate_left
            · intro w hSw; (try dsimp only at hSw); go_simp <;> first | with_reducible rfl | (rw [if_neg (by first | omega | (simp only [ByteArray.size_append] at *; omega))])
            simp only [Act.put, List.setIfInBounds_toArray, List.set_cons_zero, List.set_cons_succ]
            refine wpAnyH_take (i := 10) (oi := { dst := some 11, op := Go.Op.assign (Go.Operand.tmp 58), type := 3, pos := _, after := #[{ on := 8, ground := Go.Ground.data }, { on := 6, ground := Go.Ground.chain }, { on := 0, ground := Go.Ground.phase }, { on := 1, ground := Go.Ground.phase }, { on := 2, ground := Go.Ground.phase }, { on := 3, ground := Go.Ground.phase }, { on := 4, ground := Go.Ground.phase }, { on := 5, ground := Go.Ground.phase }, { on := 6, ground := Go.Ground.phase }, { on := 7, ground := Go.Ground.phase }, { on := 8, ground := Go.Ground.phase }, { on := 9, ground := Go.Ground.textOnly Go.Departure.lateStores }], guard := none }) (v := ?_) rfl (by kernel_rfl) (by kernel_rfl) (by kernel_rfl) (fun _ _ _ h => h) (Or.inl ⟨by rfl, ?_⟩) (by assumption) ?_
            rotate_left
            · intro w hSw; (try dsimp only at hSw); go_simp <;> first | with_reducible rfl | (rw [if_neg (by first | omega | (simp only [ByteArray.size_append] at *; omega))])
            simp only [Act.put, List.setIfInBounds_toArray, List.set_cons_zero, List.set_cons_succ]
            refine wpAnyH_take (i := 11) (oi := { dst := some 12, op := Go.Op.assign (Go.Operand.tmp 59), type := 35, pos := _, after := #[{ on := 9, ground := Go.Ground.data }, { on := 10, ground := Go.Ground.chain }, { on := 0, ground := Go.Ground.phase }, { on := 1, ground := Go.Ground.phase }, { on := 2, ground := Go.Ground.phase }, { on := 3, ground := Go.Ground.phase }, { on := 4, ground := Go.Ground.phase }, { on := 5, ground := Go.Ground.phase }, { on := 6, ground := Go.Ground.phase }, { on := 7, ground := Go.Ground.phase }, { on := 8, ground := Go.Ground.phase }, { on := 9, ground := Go.Ground.phase }, { on := 10, ground := Go.Ground.phase }], guard := none }) (v := ?_) rfl (by kernel_rfl) (by kernel_rfl) (by kernel_rfl) (fun _ _ _ h => h) (Or.inl ⟨by rfl, ?_⟩) (by assumption) ?_
            rotate_left
            · intro w hSw; (try dsimp only at hSw); go_simp <;> first | with_reducible rfl | (rw [if_neg (by first | omega | (simp only [ByteArray.size_append] at *; omega))])
            simp only [Act.put, List.setIfInBounds_toArray, List.set_cons_zero, List.set_cons_succ]
            refine wpAnyH_done (by kernel_rfl) ?_ _
            have ht0 : ¬ (tt : Int) < 0 := by omega
            clear y0 y1 y2 y3 s0 s1 s2 s3 v0 v1 v2 v3 t0 t1 t2 t3 u0 u1 u2 u3 c13 hb3 hb3'
            by_cases hz0 : k = 0
            · have hz1 : ((k : Int) == 0) = true := by rw [beq_iff_eq]; omega
              have HH := hid (HH0.out hz0)
              clear hz0
              go_wp2_with (fail)
              go_roundw
              case rel => exact ⟨k + 1, by omega, by rw [HT.out, HLA.out]; exact congrArg (Value.int .i64) (by omega), by rw [HT.out, HGL.out], by rw [HT.out, HH.out], by go_num, HY3⟩
              case measure => simp [intOf]; omega
            · have hz1 : ((k : Int) == 0) = false := by rw [beq_eq_false_iff_ne]; omega
              have HH := hid (HHD.out hz0)
              clear hz0
              go_wp2_with (fail)
              go_roundw
              case rel => exact ⟨k + 1, by omega, by rw [HT.out, HLA.out]; exact congrArg (Value.int .i64) (by omega), by rw [HT.out, HGL.out], by rw [HT.out, HH.out], by go_num, HY3⟩
              case measure => simp [intOf]; omega
          · have hlt' : ¬ (k : Int) < (x.args.length : Int) := by omega
            obtain rfl : k = x.args.length := by omega
            have HTS : Hid (x.args.map stE = (x.args.take x.args.length).map stE) := hid (by rw [List.take_length])
            have HTL : Hid (((x.args.take x.args.length).map stE).length = x.args.length) := hid (by simp)
            have HLM : Hid (lat ((x.args.take x.args.length).map stE) ≤ 31) := hid (by
              rw [← HTS.out]
              exact lat_le fun t ht => by obtain ⟨y, hy, rfl⟩ := List.mem_map.1 ht; exact HLE.out y hy)
            have q0 := (XK.out.xcs).1
            have q3 := (XK.out.xcs).2.2.2
            have hB := XK.out.below
            have HF := hid (chk_ok HCK.out).1
            clear hk hlt
            generalize (x.args.take x.args.length).map stE = ts at *
            by_cases h9 : x.op = 19
            · have e9 : ((x.op : Int) == 19) = true := by rw [beq_iff_eq]; omega
              have HV : Hid (ty = lat ts + 1) := hid (by rw [← HTY.out, stE_eq, if_neg (by have := fields_pos HF.out (.inr h9); omega), HTS.out]; unfold ruleS; rw [if_neg (by omega), if_pos h9])
              have hm2 : lat ts ≤ 31 := HLM.out
              generalize lat ts = mm at *
              have e1 : ((ty : Int) == (mm : Int) + 1) = true := by rw [beq_iff_eq]; have := HV.out; omega
              clear h9
              go_wp2_with (fail)
              go_ret
              exact ⟨rfl, hB⟩
            have e9 : ((x.op : Int) == 19) = false := by rw [beq_eq_false_iff_ne]; omega
            by_cases h8 : x.op = 18
            · have e8 : ((x.op : Int) == 18) = true := by rw [beq_iff_eq]; omega
              have hl2 := ok_then HF.out h8
              obtain ⟨a, b, rfl⟩ : ∃ a b, ts = [a, b] := by
                have e2 : ts.length = 2 := by rw [HTL.out]; exact hl2
                match ts, e2 with
                | [a, b], _ => exact ⟨a, b, rfl⟩
              have HV : Hid (ty = if a = 0 ∧ b ≤ 1 then 0 else max 1 b) := hid (by rw [← HTY.out, stE_eq, if_neg (by omega), HTS.out]; unfold ruleS; rw [if_pos h8]; rfl)
              rw [show ([a, b] : List Nat).getLastD 0 = b from rfl, show ([a, b] : List Nat).headD 0 = a from rfl]
              clear HTS HTL HLM hl2 h8 h9
              generalize lat [a, b] = mm at *
              by_cases h0 : a = 0
              · have f0 : ((a : Int) == 0) = true := by rw [beq_iff_eq]; omega
                by_cases h1 : b ≤ 1
                · have f1 : (b : Int) ≤ 1 := by omega
                  obtain rfl : ty = 0 := by rw [HV.out, if_pos ⟨h0, h1⟩]
                  clear h0 h1
                  go_wp2_with (fail)
                  go_ret
                  exact ⟨rfl, hB⟩
                · have f1 : ¬ (b : Int) ≤ 1 := by omega
                  have ht : ty = b := by rw [HV.out, if_neg (by rintro ⟨_, h⟩; exact h1 h)]; omega
                  have f2 : ((ty : Int) == 0) = false := by rw [beq_eq_false_iff_ne]; omega
                  have f3 : ((ty : Int) == max 1 (b : Int)) = true := by rw [beq_iff_eq]; omega
                  clear h0 h1 ht
                  go_wp2_with (fail)
                  go_ret
                  exact ⟨rfl, hB⟩
              · have f0 : ((a : Int) == 0) = false := by rw [beq_eq_false_iff_ne]; omega
                have ht : ty = max 1 b := by rw [HV.out, if_neg (by rintro ⟨h, _⟩; exact h0 h)]
                have f2 : ((ty : Int) == 0) = false := by rw [beq_eq_false_iff_ne]; omega
                have f3 : ((ty : Int) == max 1 (b : Int)) = true := by rw [beq_iff_eq]; omega
                clear h0 ht
                go_wp2_with (fail)
                go_ret
                exact ⟨rfl, hB⟩
            have e8 : ((x.op : Int) == 18) = false := by rw [beq_eq_false_iff_ne]; omega
            have HV : ty = lat ts := by
              rw [← HTY.out, stE_eq, HTS.out]
              by_cases hz : x.args.length = 0
              · rw [if_pos hz]
                have e2 : ts.length = 0 := by rw [HTL.out]; exact hz
                match ts, e2 with
                | [], _ => rfl
              · rw [if_neg hz]; unfold ruleS; rw [if_neg h8, if_neg h9]
            rw [← HV]
            have e1 : ((ty : Int) == (ty : Int)) = true := by simp
            clear h8 h9 HV HLM
            go_wp2_with (fail)
            go_ret
            exact ⟨rfl, hB⟩
      · obtain ⟨h1, h2⟩ := of_not hz
        have hz' : ((ofV p x).2 != 0) = true := by simpa using hz
        have c13 := of_ p x _ _ _ _ _ X3.out.P X3.out.S X3.out.R X3.out.J
        rw [h1] at c13
        have H2 := hid h2
        clear hz h1 h2
        generalize (ofV p x).2 = er at *
        have HE : Hid (((er == 1) == !chk x) = true) := hid (by have := H2.out; rw [show (er == 1) = decide (er = 1) from by by_cases h : er = 1 <;> simp [h], this]; simp)
        clear H2
        go_wp2_with (fail)
        refine c13.mono ?_
        rintro e w5 ⟨rfl, hb5⟩
        have X5 := hid (X3.out.keep hb5)
        clear hb5 X3 p0 p1 p2 p3 q0 q1 q2 q3 c13
        obtain ⟨q0, q1, q2, q3⟩ := X5.out.xcs
        go_wp2_with (fail)
        refine (check x _ _ X5.out.S X5.out.R X5.out.J).mono ?_
        rintro e w6 ⟨rfl, hb6⟩
        have hB := bstep X5.out.below hb6
        have hee := HE.out
        generalize chk x = cx at *
        cases cx with
        | true =>
          have he1 : (er == 1) = false := by simpa using hee
          clear hee HE
          go_wp2_with (fail)
          go_ret
          exact ⟨rfl, hB⟩
        | false =>
          have he1 : (er == 1) = true := by simpa using hee
          clear hee HE
          go_wp2_with (fail)
          go_ret
          exact ⟨rfl, hB⟩
end Go.Proofs.YtejacmgppnafcaaDoor.Lex
