/-
  What has a type has parts that have types: the walk of the law.
-/
import Derived.Test.YtakjkhfglihggaaDoorG7
import Derived.Test.YtakjkhfglihggaaDoorG8
import Derived.Test.YtakjkhfglihggaaDoorG6
import Derived.Test.YtakjkhfglihggaaDoorG11
namespace Go.Proofs.YtakjkhfglihggaaDoor.Lex
open Go.ChangeShapes Go.WideShapes Go.ChangeAt Go.RowKit Go.Joins
set_option maxRecDepth 100000 in
set_option maxHeartbeats 8000000 in
theorem walk5 (p : Pg) (x : Ex) (w : World) (s a b c : Value) (hP : PgAt w p a b c) (hS : St w x s) (hR : TabR w) (hJ : TabJ w) : Calls Tryd.prog 5 #[pgV p a b c, exV x s] w fun e w' => e = .returned (.bool true) ∧ Below w.heap.size w w' := by
  obtain ⟨a0, a1, rfl, _⟩ := hP.ins
  obtain ⟨b0, b1, _, rfl, _⟩ := hP.flows
  obtain ⟨c0, c1, rfl, _⟩ := hP.outs
  obtain ⟨ao, cap, _, rfl, _⟩ := hS.out
  have B2 := bstep ((Below.refl w.heap.size w).alloc (Nat.le_refl _) (.cells (pgC p (.slice a0 p.ins.length a1) (.slice b0 p.flows.length b1) (.slice c0 p.outs.length c1)) 26)) ((Below.refl _ _).alloc (Nat.le_refl _) (.cells #[.int .u8 (x.op : Int), .int .i64 x.n, .string x.name, .slice ao x.args.length cap] 30))
  have X0 := hid (OX.mk (w := w) (ao := ao) (cap := cap) (W := ((w.alloc (.cells (pgC p (.slice a0 p.ins.length a1) (.slice b0 p.flows.length b1) (.slice c0 p.outs.length c1)) 26)).alloc (.cells #[.int .u8 (x.op : Int), .int .i64 x.n, .string x.name, .slice ao x.args.length cap] 30))) (push_old (push_new _ _ _ rfl)) (push_new _ _ _ (by simp)) (hP.keep B2) (hS.keep B2) (hR.below B2) (hJ.below B2) B2)
  clear B2 hP hS hR hJ
  go_enter Tryd.func5, Tryd.ntmps5
  go_wp2_with (fail)
  refine (alive _ X0.out.R X0.out.J).mono ?_
  rintro e w1 ⟨rfl, hb1⟩
  have X1 := hid (X0.out.keep hb1)
  clear hb1
  obtain ⟨p0, p1, p2, p3⟩ := X1.out.pcs
  go_wp2_with (fail)
  refine (great p _ _ _ _ X1.out.P).mono ?_
  rintro e w2 ⟨⟨g, rfl, hg⟩, hb2⟩
  have X2 := hid (X1.out.keep hb2)
  clear hb2 X1 X0 p0 p1 p2 p3
  cases g with
  | true =>
    clear hg
    go_wp2_with (fail)
    refine (alive _ X2.out.R X2.out.J).mono ?_
    rintro e w3 ⟨rfl, hb3⟩
    have X3 := hid (X2.out.keep hb3)
    clear hb3
    have hB := X3.out.below
    go_wp2_with (fail)
    go_ret
    exact ⟨rfl, hB⟩
  | false =>
    have HG := hid hg
    clear hg
    obtain ⟨q0, q1, q2, q3⟩ := X2.out.xcs
    go_wp2_with (fail)
    refine (size_any _ x (Nat.le_refl _) _ _ X2.out.S).mono ?_
    rintro e w3 ⟨⟨m, rfl⟩, hb3⟩
    have X3 := hid (X2.out.keep hb3)
    clear hb3 X2 q0 q1 q2 q3
    by_cases hm : (20000 : Int) < m
    · go_wp2_with (fail)
      refine (alive _ X3.out.R X3.out.J).mono ?_
      rintro e w4 ⟨rfl, hb4⟩
      have X4 := hid (X3.out.keep hb4)
      clear hb4
      have hB := X4.out.below
      go_wp2_with (fail)
      go_ret
      exact ⟨rfl, hB⟩
    · obtain ⟨p0, p1, p2, p3⟩ := X3.out.pcs
      obtain ⟨q0, q1, q2, q3⟩ := X3.out.xcs
      by_cases hz : (ofV p x).2 = 0
      · have HZ := hid hz
        obtain ⟨hck, has, hty0⟩ := (of_zero p x).1 hz
        have HCK := hid hck
        have HT0 := hid hty0
        have c13 := of_ p x _ _ _ _ _ X3.out.P X3.out.S X3.out.R X3.out.J
        rw [of_ok hck has hty0] at c13
        clear hz hck has hty0
        go_wp2_with (fail)
        refine c13.mono ?_
        rintro e w5 ⟨rfl, hb5⟩
        have X5 := hid (X3.out.keep hb5)
        clear hb5 X3 p0 p1 p2 p3 q0 q1 q2 q3 c13
        obtain ⟨ao', cap', sl, heq, _, _, _, hlen, _, hc, hs⟩ := X5.out.S.out
        injection heq with e1 e2 e3
        subst e1 e3
        have HLN := hid hlen
        have HC := hid hc
        have HS := hid hs
        clear hlen hc hs e2
        obtain ⟨i0, hi, hz0, hz1, hz2⟩ := info_parts inf35
        generalize hty : tyE p x = ty at HT0 ⊢
        have HTY := hid hty
        clear hty
        go_wp2_with (fail)
        go_loopw [7, 8] (fun v i wr => ∃ k : Nat, k ≤ x.args.length ∧ i = .int .i64 (k : Int) ∧ Hid (YL w5 ((x.args.take k).map (tyE p)) v wr)) (fun _ i _ => x.args.length - (intOf i).toNat)
        case atStart => exact ⟨0, Nat.zero_le _, rfl, hid (by simpa using YL.start w5)⟩
        case round =>
          obtain ⟨k, hk, rfl, HY⟩ := hrel
          have XK := hid (X5.out.keep HY.out.below)
          by_cases hlt : k < x.args.length
          · have hlt' : (k : Int) < (x.args.length : Int) := by omega
            have hk0 : (0 : Int) ≤ (k : Int) := by omega
            have hln := HLN.out
            obtain ⟨bb, o, rfl, hc⟩ := HC.out.resolve_left (by omega)
            obtain ⟨g0, g1, g2, g3⟩ := hc k hlt
            have y0 := cell_kept g0 HY.out.below
            have y1 := cell_kept g1 HY.out.below
            have y2 := cell_kept g2 HY.out.below
            have y3 := cell_kept g3 HY.out.below
            obtain ⟨a4, c4, _, e4, _⟩ := (HS.out k hlt).out
            rw [e4] at y3
            have HT : Hid ((x.args.take (k + 1)).map (tyE p) = (x.args.take k).map (tyE p) ++ [tyE p x.args[k]]) := hid (by rw [List.take_succ_eq_append_getElem hlt, List.map_append]; rfl)
            have hll : ((x.args.take k).map (tyE p)).length ≤ 2513169434843 := by simp; omega
            have HST := hid ((e4 ▸ HS.out k hlt).keep HY.out.below)
            have HOP := hid (of_part HZ.out (List.getElem_mem hlt))
            obtain ⟨s0, s1, s2, s3⟩ := XK.out.pcs
            obtain ⟨v0, v1, v2, v3⟩ := XK.out.xcs
            clear g0 g1 g2 g3 hc e4
            generalize x.args[k] = y at *
            have c13 := of_ p y wr.drew _ _ _ _ (XK.out.P.keep (Below.refl _ _).drew) (HST.out.keep (Below.refl _ _).drew) (XK.out.R.below (Below.refl _ _).drew) (XK.out.J.below (Below.refl _ _).drew)
            rw [HOP.out.1] at c13
            generalize tyE p y = tt at *
            generalize (x.args.take k).map (tyE p) = ll at *
            have hmx : ll.length + 1 ≤ maxLen := by unfold maxLen; omega
            go_wp2_with (fail)
            refine wp_region_held_drew (S := fun W => W.cell? ⟨w.heap.size, 0, none⟩ = some (.int .i64 p.st) ∧ W.cell? ⟨w.heap.size, 1, none⟩ = some ((.slice a0 p.ins.length a1)) ∧ W.cell? ⟨w.heap.size, 2, none⟩ = some ((.slice b0 p.flows.length b1)) ∧ W.cell? ⟨w.heap.size, 3, none⟩ = some ((.slice c0 p.outs.length c1)) ∧ W.cell? ⟨w.heap.size + 1, 3, none⟩ = some (.slice (some ⟨bb, o, none⟩) x.args.length cap) ∧ W.cell? ⟨bb, o + k * 4, none⟩ = some (.int .u8 (y.op : Int)) ∧ W.cell? ⟨bb, o + k * 4 + 1, none⟩ = some (.int .i64 y.n) ∧ W.cell? ⟨bb, o + k * 4 + 2, none⟩ = some (.string y.name) ∧ W.cell? ⟨bb, o + k * 4 + 3, none⟩ = some (.slice a4 y.args.length c4)) (by kernel_rfl) ?_ (fun hHeld => ?_)
            · exact ⟨s0, s1, s2, s3, v3, y0, y1, y2, y3⟩
            refine wpAnyH_take (i := 0) (oi := { dst := some 56, op := Go.Op.load 26 (Go.Operand.tmp 2), type := 26, pos := _, after := #[], guard := none }) (v := ?_) rfl (by kernel_rfl) (by kernel_rfl) (by kernel_rfl) (fun _ _ _ h => h) (Or.inl ⟨by rfl, ?_⟩) (by assumption) ?_
            rotate_left
            · intro w hSw; (try dsimp only at hSw); go_simp <;> first | with_reducible rfl | (rw [if_neg (by first | omega | (simp only [ByteArray.size_append] at *; omega))])
            simp only [Act.put, List.setIfInBounds_toArray, List.set_cons_zero, List.set_cons_succ]
            refine wpAnyH_take (i := 1) (oi := { dst := some 57, op := Go.Op.fieldAddr 30 (Go.Operand.tmp 3) 3, type := 0, pos := _, after := #[], guard := none }) (v := ?_) rfl (by kernel_rfl) (by kernel_rfl) (by kernel_rfl) (fun _ _ _ h => h) (Or.inl ⟨by rfl, ?_⟩) (by assumption) ?_
            rotate_left
            · intro w hSw; (try dsimp only at hSw); go_simp <;> first | with_reducible rfl | (rw [if_neg (by first | omega | (simp only [ByteArray.size_append] at *; omega))])
            simp only [Act.put, List.setIfInBounds_toArray, List.set_cons_zero, List.set_cons_succ]
            refine wpAnyH_take (i := 2) (oi := { dst := some 58, op := Go.Op.load 28 (Go.Operand.tmp 57), type := 28, pos := _, after := #[{ on := 1, ground := Go.Ground.data }], guard := none }) (v := ?_) rfl (by kernel_rfl) (by kernel_rfl) (by kernel_rfl) (fun _ _ _ h => h) (Or.inl ⟨by rfl, ?_⟩) (by assumption) ?_
            rotate_left
            · intro w hSw; (try dsimp only at hSw); go_simp <;> first | with_reducible rfl | (rw [if_neg (by first | omega | (simp only [ByteArray.size_append] at *; omega))])
            simp only [Act.put, List.setIfInBounds_toArray, List.set_cons_zero, List.set_cons_succ]
            refine wpAnyH_take (i := 3) (oi := { dst := some 59, op := Go.Op.move (Go.Operand.tmp 8), type := 3, pos := _, after := #[], guard := none }) (v := ?_) rfl (by kernel_rfl) (by kernel_rfl) (by kernel_rfl) (fun _ _ _ h => h) (Or.inl ⟨by rfl, ?_⟩) (by assumption) ?_
            rotate_left
            · intro w hSw; (try dsimp only at hSw); go_simp <;> first | with_reducible rfl | (rw [if_neg (by first | omega | (simp only [ByteArray.size_append] at *; omega))])
            simp only [Act.put, List.setIfInBounds_toArray, List.set_cons_zero, List.set_cons_succ]
            refine wpAnyH_take (i := 4) (oi := { dst := some 60, op := Go.Op.indexAddr 28 (Go.Operand.tmp 58) (Go.Operand.tmp 59), type := 0, pos := _, after := #[{ on := 2, ground := Go.Ground.data }, { on := 3, ground := Go.Ground.data }], guard := none }) (v := ?_) rfl (by kernel_rfl) (by kernel_rfl) (by kernel_rfl) (fun _ _ _ h => h) (Or.inl ⟨by rfl, ?_⟩) (by assumption) ?_
            rotate_left
            · intro w hSw; (try dsimp only at hSw); go_simp <;> first | with_reducible rfl | (rw [if_neg (by first | omega | (simp only [ByteArray.size_append] at *; omega))])
            simp only [Act.put, List.setIfInBounds_toArray, List.set_cons_zero, List.set_cons_succ]
            refine wpAnyH_take (i := 5) (oi := { dst := some 61, op := Go.Op.load 30 (Go.Operand.tmp 60), type := 30, pos := _, after := #[{ on := 4, ground := Go.Ground.data }], guard := none }) (v := ?_) rfl (by kernel_rfl) (by kernel_rfl) (by kernel_rfl) (fun _ _ _ h => h) (Or.inl ⟨by rfl, ?_⟩) (by assumption) ?_
            rotate_left
            · intro w hSw; (try dsimp only at hSw); go_simp <;> first | with_reducible rfl | (rw [if_neg (by first | omega | (simp only [ByteArray.size_append] at *; omega))])
            simp only [Act.put, List.setIfInBounds_toArray, List.set_cons_zero, List.set_cons_succ]
            refine wpAnyH_ready (rs := [6]) (by kernel_rfl) (by simp) ?_
            refine AllReadyH.cons (o := { dst := some 62, op := Go.Op.call { callee := Go.Callee.value (Go.Operand.func 13), args := #[Go.Operand.tmp 56, Go.Operand.tmp 61], argTypes := #[26, 30] }, type := 37, pos := _, after := #[{ on := 0, ground := Go.Ground.data }, { on := 5, ground := Go.Ground.data }], guard := none }) rfl (fun K hK => ?_) AllReadyH.nil
            go_simp
            refine c13.mono ?_
            rintro e w3 ⟨rfl, hb3'⟩
            have hb3 : Below wr.heap.size wr w3 := (Below.refl _ _).drew.trans (hb3'.mono (by simp))
            have YY3 := hid (HY.out.keep hb3)
            have XX := hid (XK.out.keep hb3)
            obtain ⟨t0, t1, t2, t3⟩ := XX.out.pcs
            obtain ⟨u0, u1, u2, u3⟩ := XX.out.xcs
            go_wp2_with fail
            refine hK.out _ _ ?_ (fun hHeld1 => ?_)
            · exact ⟨t0, t1, t2, t3, u3, cell_kept y0 hb3, cell_kept y1 hb3, cell_kept y2 hb3, cell_kept y3 hb3⟩
            clear hK K
            refine wpAnyH_take (i := 7) (oi := { dst := some 55, op := Go.Op.move (Go.Operand.tmp 62), type := 37, pos := _, after := #[{ on := 6, ground := Go.Ground.data }], guard := none }) (v := ?_) rfl (by kernel_rfl) (by kernel_rfl) (by kernel_rfl) (fun _ _ _ h => h) (Or.inl ⟨by rfl, ?_⟩) (by assumption) ?_
            rotate_left
            · intro w hSw; (try dsimp only at hSw); go_simp <;> first | with_reducible rfl | (rw [if_neg (by first | omega | (simp only [ByteArray.size_append] at *; omega))])
            simp only [Act.put, List.setIfInBounds_toArray, List.set_cons_zero, List.set_cons_succ]
            refine wpAnyH_take (i := 8) (oi := { dst := some 63, op := Go.Op.extract (Go.Operand.tmp 55) 0, type := 35, pos := _, after := #[{ on := 7, ground := Go.Ground.data }], guard := none }) (v := ?_) rfl (by kernel_rfl) (by kernel_rfl) (by kernel_rfl) (fun _ _ _ h => h) (Or.inl ⟨by rfl, ?_⟩) (by assumption) ?_
            rotate_left
            · intro w hSw; (try dsimp only at hSw); go_simp <;> first | with_reducible rfl | (rw [if_neg (by first | omega | (simp only [ByteArray.size_append] at *; omega))])
            simp only [Act.put, List.setIfInBounds_toArray, List.set_cons_zero, List.set_cons_succ]
            refine wpAnyH_take (i := 9) (oi := { dst := some 64, op := Go.Op.extract (Go.Operand.tmp 55) 1, type := 36, pos := _, after := #[{ on := 7, ground := Go.Ground.data }, { on := 10, ground := Go.Ground.gcOnly Go.Departure.lateStores }], guard := none }) (v := ?_) rfl (by kernel_rfl) (by kernel_rfl) (by kernel_rfl) (fun _ _ _ h => h) (Or.inl ⟨by rfl, ?_⟩) (by assumption) ?_
            rotate_left
            · intro w hSw; (try dsimp only at hSw); go_simp <;> first | with_reducible rfl | (rw [if_neg (by first | omega | (simp only [ByteArray.size_append] at *; omega))])
            simp only [Act.put, List.setIfInBounds_toArray, List.set_cons_zero, List.set_cons_succ]
            refine wpAnyH_take (i := 10) (oi := { dst := some 9, op := Go.Op.assign (Go.Operand.tmp 63), type := 35, pos := _, after := #[{ on := 8, ground := Go.Ground.data }, { on := 6, ground := Go.Ground.chain }, { on := 0, ground := Go.Ground.phase }, { on := 1, ground := Go.Ground.phase }, { on := 2, ground := Go.Ground.phase }, { on := 3, ground := Go.Ground.phase }, { on := 4, ground := Go.Ground.phase }, { on := 5, ground := Go.Ground.phase }, { on := 6, ground := Go.Ground.phase }, { on := 7, ground := Go.Ground.phase }, { on := 8, ground := Go.Ground.phase }, { on := 9, ground := Go.Ground.textOnly Go.Departure.lateStores }], guard := none }) (v := ?_) rfl (by kernel_rfl) (by kernel_rfl) (by kernel_rfl) (fun _ _ _ h => h) (Or.inl ⟨by rfl, ?_⟩) (by assumption) ?_
            rotate_left
            · intro w hSw; (try dsimp only at hSw); go_simp <;> first | with_reducible rfl | (rw [if_neg (by first | omega | (simp only [ByteArray.size_append] at *; omega))])
            simp only [Act.put, List.setIfInBounds_toArray, List.set_cons_zero, List.set_cons_succ]
            refine wpAnyH_take (i := 11) (oi := { dst := some 10, op := Go.Op.assign (Go.Operand.tmp 64), type := 36, pos := _, after := #[{ on := 9, ground := Go.Ground.data }, { on := 10, ground := Go.Ground.chain }, { on := 0, ground := Go.Ground.phase }, { on := 1, ground := Go.Ground.phase }, { on := 2, ground := Go.Ground.phase }, { on := 3, ground := Go.Ground.phase }, { on := 4, ground := Go.Ground.phase }, { on := 5, ground := Go.Ground.phase }, { on := 6, ground := Go.Ground.phase }, { on := 7, ground := Go.Ground.phase }, { on := 8, ground := Go.Ground.phase }, { on := 9, ground := Go.Ground.phase }, { on := 10, ground := Go.Ground.phase }], guard := none }) (v := ?_) rfl (by kernel_rfl) (by kernel_rfl) (by kernel_rfl) (fun _ _ _ h => h) (Or.inl ⟨by rfl, ?_⟩) (by assumption) ?_
            rotate_left
            · intro w hSw; (try dsimp only at hSw); go_simp <;> first | with_reducible rfl | (rw [if_neg (by first | omega | (simp only [ByteArray.size_append] at *; omega))])
            simp only [Act.put, List.setIfInBounds_toArray, List.set_cons_zero, List.set_cons_succ]
            refine wpAnyH_done (by kernel_rfl) ?_ _
            have N2 := hid (YY3.out.keep ((Below.refl w3.heap.size w3).alloc (Nat.le_refl _) (.cells #[.int .u8 (tt : Int)] 35)))
            have W5 := hid (next_cells w3 [.int .u8 (tt : Int)] 35)
            go_wp2_with (at_builtin; refine wpList_append_own _ rfl (.tmp 67) (.tmp 69) 45 rfl w5.heap.size 35 i0 _ 1 1 Tryd.underlying45 hi hz0 hz1 hz2 rfl (by decide) _ _ _ rfl N2.out.own ⟨w3.heap.size, 0, none⟩ 1 1 [.int .u8 (tt : Int)] rfl rfl W5.out (by simp [Value.oneCell']) hmx (by omega) N2.out.below.size ?_; intro v' w' hown1 hgrow1 _; have N3 := hid (N2.out.grow hown1 hgrow1); clear hown1 hgrow1)
            go_roundw
            case rel => exact ⟨k + 1, by omega, by go_num, hid (by rw [HT.out]; exact N3.out)⟩
            case measure => simp [intOf]; omega
          · have hlt' : ¬ (k : Int) < (x.args.length : Int) := by omega
            obtain rfl : k = x.args.length := by omega
            have HTS : Hid (x.args.map (tyE p) = (x.args.take x.args.length).map (tyE p)) := hid (by rw [List.take_length])
            have HTL : Hid (((x.args.take x.args.length).map (tyE p)).length = x.args.length) := hid (by simp)
            have q3 := (XK.out.xcs).2.2.2
            have HOO := hid (ok_op (chk_ok HCK.out))
            clear hk hlt
            generalize (x.args.take x.args.length).map (tyE p) = ts at *
            obtain hop' | hop' | hop' | hop' | hop' | hop' | hop' | hop' | hop' | hop' | hop' | hop' | hop' | hop' | hop' | hop' | hop' | hop' | hop' : x.op = 1 ∨ x.op = 2 ∨ x.op = 3 ∨ x.op = 4 ∨ x.op = 5 ∨ x.op = 6 ∨ x.op = 7 ∨ x.op = 8 ∨ x.op = 9 ∨ x.op = 10 ∨ x.op = 11 ∨ x.op = 12 ∨ x.op = 13 ∨ x.op = 14 ∨ x.op = 15 ∨ x.op = 16 ∨ x.op = 17 ∨ x.op = 18 ∨ x.op = 19 := by have := HOO.out; omega
            · have q0 := (XK.out.xcs).1
              rw [hop'] at q0
              have HBW := hid XK.out.below
              have e1 : ty = 1 := by rw [← HTY.out, tyE_eq]; simp [hop']
              subst e1
              go_wp2_with (fail)
              go_ret
              exact ⟨rfl, HBW.out⟩
            · have q0 := (XK.out.xcs).1
              rw [hop'] at q0
              have HBW := hid XK.out.below
              have e1 : ty = 2 := by rw [← HTY.out, tyE_eq]; simp [hop']
              subst e1
              go_wp2_with (fail)
              go_ret
              exact ⟨rfl, HBW.out⟩
            · have q0 := (XK.out.xcs).1
              rw [hop'] at q0
              have HBW := hid XK.out.below
              have q2 := (XK.out.xcs).2.2.1
              obtain ⟨s0, s1, s2, s3⟩ := XK.out.pcs
              obtain ⟨z, hz, hzt⟩ := ty_name (p := p) (x := x) (by rw [HTY.out]; exact HT0.out) hop'
              rw [HTY.out] at hzt
              have c21 := find p x.name _ _ _ _ XK.out.P
              rw [hz] at c21
              simp only [foV, hzt] at c21
              have e1 : ((ty : Int) == (ty : Int)) = true := by simp
              clear hz hzt
              go_wp2_with (fail)
              refine c21.mono ?_
              rintro e w5 ⟨rfl, hb5⟩
              have hB := bstep XK.out.below hb5
              go_wp2_with (fail)
              go_ret
              exact ⟨rfl, hB⟩
            · have q0 := (XK.out.xcs).1
              rw [hop'] at q0
              have HBW := hid XK.out.below
              obtain ⟨ha, hb⟩ := ty_num (p := p) (x := x) (by rw [HTY.out]; exact HT0.out) (by omega)
              rw [HTS.out] at hb
              rw [HTY.out] at ha
              subst ha
              have HA := hid hb
              clear hb
              have HLL : ts.length ≤ 2513169434843 := by rw [HTL.out]; exact HLN.out
              have HL0 : 0 < ts.length := by rw [HTL.out]; exact (ok_parts (fields_len HCK.out) (by omega) (by omega) (by omega)).2.2.1
              obtain ⟨g, gc, rfl, _, hty⟩ := HY.out.at HL0
              have HTA := hid hty
              clear hty
              go_wp2_with (fail)
              go_loopw [17] (fun i wr' => ∃ k : Nat, k ≤ ts.length ∧ i = .int .i64 (k : Int) ∧ wr' = wr) (fun i _ => ts.length - (intOf i).toNat)
              case atStart => exact ⟨0, Nat.zero_le _, rfl, rfl⟩
              case round =>
                obtain ⟨k, hk, rfl, rfl⟩ := hrel
                by_cases hlt : k < ts.length
                · have hlt' : (k : Int) < (ts.length : Int) := by omega
                  have hk0 : (0 : Int) ≤ (k : Int) := by omega
                  have zk := HTA.out k hlt
                  rw [Nat.zero_add, HA.out _ (List.getElem_mem hlt)] at zk
                  go_wp2_with (fail)
                  go_roundw
                  case rel => exact ⟨k + 1, by omega, by go_num, by first | rfl | trivial⟩
                  case measure => simp [intOf]; omega
                · have hlt' : ¬ (k : Int) < (ts.length : Int) := by omega
                  obtain rfl : k = ts.length := by omega
                  go_wp2_with (fail)
                  go_ret
                  exact ⟨rfl, HBW.out⟩
            · have q0 := (XK.out.xcs).1
              rw [hop'] at q0
              have HBW := hid XK.out.below
              obtain ⟨ha, hb⟩ := ty_log (p := p) (x := x) (by rw [HTY.out]; exact HT0.out) (by omega)
              rw [HTS.out] at hb
              rw [HTY.out] at ha
              subst ha
              have HA := hid hb
              clear hb
              have HLL : ts.length ≤ 2513169434843 := by rw [HTL.out]; exact HLN.out
              have HL0 : 0 < ts.length := by rw [HTL.out]; exact (ok_parts (fields_len HCK.out) (by omega) (by omega) (by omega)).2.2.1
              obtain ⟨g, gc, rfl, _, hty⟩ := HY.out.at HL0
              have HTA := hid hty
              clear hty
              go_wp2_with (fail)
              go_loopw [17] (fun i wr' => ∃ k : Nat, k ≤ ts.length ∧ i = .int .i64 (k : Int) ∧ wr' = wr) (fun i _ => ts.length - (intOf i).toNat)
              case atStart => exact ⟨0, Nat.zero_le _, rfl, rfl⟩
              case round =>
                obtain ⟨k, hk, rfl, rfl⟩ := hrel
                by_cases hlt : k < ts.length
                · have hlt' : (k : Int) < (ts.length : Int) := by omega
                  have hk0 : (0 : Int) ≤ (k : Int) := by omega
                  have zk := HTA.out k hlt
                  rw [Nat.zero_add, HA.out _ (List.getElem_mem hlt)] at zk
                  go_wp2_with (fail)
                  go_roundw
                  case rel => exact ⟨k + 1, by omega, by go_num, by first | rfl | trivial⟩
                  case measure => simp [intOf]; omega
                · have hlt' : ¬ (k : Int) < (ts.length : Int) := by omega
                  obtain rfl : k = ts.length := by omega
                  go_wp2_with (fail)
                  go_ret
                  exact ⟨rfl, HBW.out⟩
            · have q0 := (XK.out.xcs).1
              rw [hop'] at q0
              have HBW := hid XK.out.below
              obtain ⟨ha, hb⟩ := ty_num (p := p) (x := x) (by rw [HTY.out]; exact HT0.out) (by omega)
              rw [HTS.out] at hb
              rw [HTY.out] at ha
              subst ha
              have HA := hid hb
              clear hb
              have HLL : ts.length ≤ 2513169434843 := by rw [HTL.out]; exact HLN.out
              have HL0 : 0 < ts.length := by rw [HTL.out]; exact (ok_parts (fields_len HCK.out) (by omega) (by omega) (by omega)).2.2.1
              obtain ⟨g, gc, rfl, _, hty⟩ := HY.out.at HL0
              have HTA := hid hty
              clear hty
              go_wp2_with (fail)
              go_loopw [17] (fun i wr' => ∃ k : Nat, k ≤ ts.length ∧ i = .int .i64 (k : Int) ∧ wr' = wr) (fun i _ => ts.length - (intOf i).toNat)
              case atStart => exact ⟨0, Nat.zero_le _, rfl, rfl⟩
              case round =>
                obtain ⟨k, hk, rfl, rfl⟩ := hrel
                by_cases hlt : k < ts.length
                · have hlt' : (k : Int) < (ts.length : Int) := by omega
                  have hk0 : (0 : Int) ≤ (k : Int) := by omega
                  have zk := HTA.out k hlt
                  rw [Nat.zero_add, HA.out _ (List.getElem_mem hlt)] at zk
                  go_wp2_with (fail)
                  go_roundw
                  case rel => exact ⟨k + 1, by omega, by go_num, by first | rfl | trivial⟩
                  case measure => simp [intOf]; omega
                · have hlt' : ¬ (k : Int) < (ts.length : Int) := by omega
                  obtain rfl : k = ts.length := by omega
                  go_wp2_with (fail)
                  go_ret
                  exact ⟨rfl, HBW.out⟩
            · have q0 := (XK.out.xcs).1
              rw [hop'] at q0
              have HBW := hid XK.out.below
              obtain ⟨ha, hb⟩ := ty_num (p := p) (x := x) (by rw [HTY.out]; exact HT0.out) (by omega)
              rw [HTS.out] at hb
              rw [HTY.out] at ha
              subst ha
              have HA := hid hb
              clear hb
              have HLL : ts.length ≤ 2513169434843 := by rw [HTL.out]; exact HLN.out
              have HL0 : 0 < ts.length := by rw [HTL.out]; exact (ok_parts (fields_len HCK.out) (by omega) (by omega) (by omega)).2.2.1
              obtain ⟨g, gc, rfl, _, hty⟩ := HY.out.at HL0
              have HTA := hid hty
              clear hty
              go_wp2_with (fail)
              go_loopw [17] (fun i wr' => ∃ k : Nat, k ≤ ts.length ∧ i = .int .i64 (k : Int) ∧ wr' = wr) (fun i _ => ts.length - (intOf i).toNat)
              case atStart => exact ⟨0, Nat.zero_le _, rfl, rfl⟩
              case round =>
                obtain ⟨k, hk, rfl, rfl⟩ := hrel
                by_cases hlt : k < ts.length
                · have hlt' : (k : Int) < (ts.length : Int) := by omega
                  have hk0 : (0 : Int) ≤ (k : Int) := by omega
                  have zk := HTA.out k hlt
                  rw [Nat.zero_add, HA.out _ (List.getElem_mem hlt)] at zk
                  go_wp2_with (fail)
                  go_roundw
                  case rel => exact ⟨k + 1, by omega, by go_num, by first | rfl | trivial⟩
                  case measure => simp [intOf]; omega
                · have hlt' : ¬ (k : Int) < (ts.length : Int) := by omega
                  obtain rfl : k = ts.length := by omega
                  go_wp2_with (fail)
                  go_ret
                  exact ⟨rfl, HBW.out⟩
            · have q0 := (XK.out.xcs).1
              rw [hop'] at q0
              have HBW := hid XK.out.below
              obtain ⟨ha, hb⟩ := ty_num (p := p) (x := x) (by rw [HTY.out]; exact HT0.out) (by omega)
              rw [HTS.out] at hb
              rw [HTY.out] at ha
              subst ha
              have HA := hid hb
              clear hb
              have HLL : ts.length ≤ 2513169434843 := by rw [HTL.out]; exact HLN.out
              have HL0 : 0 < ts.length := by rw [HTL.out]; exact (ok_parts (fields_len HCK.out) (by omega) (by omega) (by omega)).2.2.1
              obtain ⟨g, gc, rfl, _, hty⟩ := HY.out.at HL0
              have HTA := hid hty
              clear hty
              go_wp2_with (fail)
              go_loopw [17] (fun i wr' => ∃ k : Nat, k ≤ ts.length ∧ i = .int .i64 (k : Int) ∧ wr' = wr) (fun i _ => ts.length - (intOf i).toNat)
              case atStart => exact ⟨0, Nat.zero_le _, rfl, rfl⟩
              case round =>
                obtain ⟨k, hk, rfl, rfl⟩ := hrel
                by_cases hlt : k < ts.length
                · have hlt' : (k : Int) < (ts.length : Int) := by omega
                  have hk0 : (0 : Int) ≤ (k : Int) := by omega
                  have zk := HTA.out k hlt
                  rw [Nat.zero_add, HA.out _ (List.getElem_mem hlt)] at zk
                  go_wp2_with (fail)
                  go_roundw
                  case rel => exact ⟨k + 1, by omega, by go_num, by first | rfl | trivial⟩
                  case measure => simp [intOf]; omega
                · have hlt' : ¬ (k : Int) < (ts.length : Int) := by omega
                  obtain rfl : k = ts.length := by omega
                  go_wp2_with (fail)
                  go_ret
                  exact ⟨rfl, HBW.out⟩
            · have q0 := (XK.out.xcs).1
              rw [hop'] at q0
              have HBW := hid XK.out.below
              obtain ⟨ha, hb⟩ := ty_num (p := p) (x := x) (by rw [HTY.out]; exact HT0.out) (by omega)
              rw [HTS.out] at hb
              rw [HTY.out] at ha
              subst ha
              have HA := hid hb
              clear hb
              have HLL : ts.length ≤ 2513169434843 := by rw [HTL.out]; exact HLN.out
              have HL0 : 0 < ts.length := by rw [HTL.out]; exact (ok_parts (fields_len HCK.out) (by omega) (by omega) (by omega)).2.2.1
              obtain ⟨g, gc, rfl, _, hty⟩ := HY.out.at HL0
              have HTA := hid hty
              clear hty
              go_wp2_with (fail)
              go_loopw [17] (fun i wr' => ∃ k : Nat, k ≤ ts.length ∧ i = .int .i64 (k : Int) ∧ wr' = wr) (fun i _ => ts.length - (intOf i).toNat)
              case atStart => exact ⟨0, Nat.zero_le _, rfl, rfl⟩
              case round =>
                obtain ⟨k, hk, rfl, rfl⟩ := hrel
                by_cases hlt : k < ts.length
                · have hlt' : (k : Int) < (ts.length : Int) := by omega
                  have hk0 : (0 : Int) ≤ (k : Int) := by omega
                  have zk := HTA.out k hlt
                  rw [Nat.zero_add, HA.out _ (List.getElem_mem hlt)] at zk
                  go_wp2_with (fail)
                  go_roundw
                  case rel => exact ⟨k + 1, by omega, by go_num, by first | rfl | trivial⟩
                  case measure => simp [intOf]; omega
                · have hlt' : ¬ (k : Int) < (ts.length : Int) := by omega
                  obtain rfl : k = ts.length := by omega
                  go_wp2_with (fail)
                  go_ret
                  exact ⟨rfl, HBW.out⟩
            · have q0 := (XK.out.xcs).1
              rw [hop'] at q0
              have HBW := hid XK.out.below
              obtain ⟨ha, hb⟩ := ty_num (p := p) (x := x) (by rw [HTY.out]; exact HT0.out) (by omega)
              rw [HTS.out] at hb
              rw [HTY.out] at ha
              subst ha
              have HA := hid hb
              clear hb
              have HLL : ts.length ≤ 2513169434843 := by rw [HTL.out]; exact HLN.out
              have HL0 : 0 < ts.length := by rw [HTL.out]; exact (ok_parts (fields_len HCK.out) (by omega) (by omega) (by omega)).2.2.1
              obtain ⟨g, gc, rfl, _, hty⟩ := HY.out.at HL0
              have HTA := hid hty
              clear hty
              go_wp2_with (fail)
              go_loopw [17] (fun i wr' => ∃ k : Nat, k ≤ ts.length ∧ i = .int .i64 (k : Int) ∧ wr' = wr) (fun i _ => ts.length - (intOf i).toNat)
              case atStart => exact ⟨0, Nat.zero_le _, rfl, rfl⟩
              case round =>
                obtain ⟨k, hk, rfl, rfl⟩ := hrel
                by_cases hlt : k < ts.length
                · have hlt' : (k : Int) < (ts.length : Int) := by omega
                  have hk0 : (0 : Int) ≤ (k : Int) := by omega
                  have zk := HTA.out k hlt
                  rw [Nat.zero_add, HA.out _ (List.getElem_mem hlt)] at zk
                  go_wp2_with (fail)
                  go_roundw
                  case rel => exact ⟨k + 1, by omega, by go_num, by first | rfl | trivial⟩
                  case measure => simp [intOf]; omega
                · have hlt' : ¬ (k : Int) < (ts.length : Int) := by omega
                  obtain rfl : k = ts.length := by omega
                  go_wp2_with (fail)
                  go_ret
                  exact ⟨rfl, HBW.out⟩
            · have q0 := (XK.out.xcs).1
              rw [hop'] at q0
              have HBW := hid XK.out.below
              have hl3 : x.args.length = 2 := (len_parts HCK.out (by omega) (by omega) (by omega)).trans (parts_two (by omega))
              obtain ⟨ha, tc, hb⟩ := ty_eq (p := p) (x := x) (by rw [HTY.out]; exact HT0.out) (by omega)
              rw [HTS.out] at hb
              rw [HTY.out] at ha
              subst ha
              have hts : ts.length = 2 := HTL.out.trans hl3
              obtain ⟨t0, t1, rfl⟩ : ∃ t0 t1, ts = [t0, t1] := by
                match ts, hts with
                | [a, b], _ => exact ⟨a, b, rfl⟩
              obtain rfl : t0 = tc := hb t0 (by simp)
              obtain rfl : t1 = t0 := hb t1 (by simp)
              obtain ⟨g, gc, rfl, _, hty⟩ := HY.out.at (by simp)
              have z0 := hty 0 (by simp)
              have z1 := hty 1 (by simp)
              simp only [List.getElem_cons_zero, List.getElem_cons_succ, Nat.zero_add] at z0 z1
              have e1 : ((t1 : Int) == (t1 : Int)) = true := by simp
              clear hty hts hl3 hb
              go_wp2_with (fail)
              refine wp_region_held_drew (S := fun W => W.cell? ⟨g, 0, none⟩ = some (.int .u8 (t1 : Int)) ∧ W.cell? ⟨g, 1, none⟩ = some (.int .u8 (t1 : Int))) (by kernel_rfl) ?_ (fun hHeld => ?_)
              · exact ⟨z0, z1⟩
              refine wpAnyH_take (i := 0) (oi := { dst := some 157, op := Go.Op.move (Go.Operand.tmp 7), type := 45, pos := _, after := #[], guard := none }) (v := ?_) rfl (by kernel_rfl) (by kernel_rfl) (by kernel_rfl) (fun _ _ _ h => h) (Or.inl ⟨by rfl, ?_⟩) (by assumption) ?_
              rotate_left
              · intro w hSw; (try dsimp only at hSw); go_simp <;> first | with_reducible rfl | (rw [if_neg (by first | omega | (simp only [ByteArray.size_append] at *; omega))])
              simp only [Act.put, List.setIfInBounds_toArray, List.set_cons_zero, List.set_cons_succ]
              refine wpAnyH_take (i := 1) (oi := { dst := some 158, op := Go.Op.call { callee := Go.Callee.builtin Go.Builtin.len, args := #[Go.Operand.tmp 157], argTypes := #[45] }, type := 3, pos := _, after := #[{ on := 0, ground := Go.Ground.data }], guard := none }) (v := ?_) rfl (by kernel_rfl) (by kernel_rfl) (by kernel_rfl) (fun _ _ _ h => h) (Or.inl ⟨by rfl, ?_⟩) (by assumption) ?_
              rotate_left
              · intro w hSw; (try dsimp only at hSw); go_simp <;> first | with_reducible rfl | (rw [if_neg (by first | omega | (simp only [ByteArray.size_append] at *; omega))])
              simp only [Act.put, List.setIfInBounds_toArray, List.set_cons_zero, List.set_cons_succ]
              refine wpAnyH_take (i := 2) (oi := { dst := some 159, op := Go.Op.binOp Go.BinOp.eql 3 (Go.Operand.tmp 158) (Go.Operand.const (Go.Value.int Go.IntKind.i64 2)) 3, type := 4, pos := _, after := #[{ on := 1, ground := Go.Ground.data }], guard := none }) (v := ?_) rfl (by kernel_rfl) (by kernel_rfl) (by kernel_rfl) (fun _ _ _ h => h) (Or.inl ⟨by rfl, ?_⟩) (by assumption) ?_
              rotate_left
              · intro w hSw; (try dsimp only at hSw); go_simp <;> first | with_reducible rfl | (rw [if_neg (by first | omega | (simp only [ByteArray.size_append] at *; omega))])
              simp only [Act.put, List.setIfInBounds_toArray, List.set_cons_zero, List.set_cons_succ]
              refine wpAnyH_take (i := 3) (oi := { dst := some 160, op := Go.Op.move (Go.Operand.tmp 159), type := 4, pos := _, after := #[{ on := 2, ground := Go.Ground.data }], guard := none }) (v := ?_) rfl (by kernel_rfl) (by kernel_rfl) (by kernel_rfl) (fun _ _ _ h => h) (Or.inl ⟨by rfl, ?_⟩) (by assumption) ?_
              rotate_left
              · intro w hSw; (try dsimp only at hSw); go_simp <;> first | with_reducible rfl | (rw [if_neg (by first | omega | (simp only [ByteArray.size_append] at *; omega))])
              simp only [Act.put, List.setIfInBounds_toArray, List.set_cons_zero, List.set_cons_succ]
              refine wpAnyH_take (i := 4) (oi := { dst := some 161, op := Go.Op.move (Go.Operand.tmp 5), type := 35, pos := _, after := #[{ on := 3, ground := Go.Ground.guard }], guard := some (3, true) }) (v := ?_) rfl (by kernel_rfl) (by kernel_rfl) (by kernel_rfl) (fun _ _ _ h => h) (Or.inl ⟨by rfl, ?_⟩) (by assumption) ?_
              rotate_left
              · intro w hSw; (try dsimp only at hSw); go_simp <;> first | with_reducible rfl | (rw [if_neg (by first | omega | (simp only [ByteArray.size_append] at *; omega))])
              simp only [Act.put, List.setIfInBounds_toArray, List.set_cons_zero, List.set_cons_succ]
              refine wpAnyH_take (i := 5) (oi := { dst := some 162, op := Go.Op.binOp Go.BinOp.eql 35 (Go.Operand.tmp 161) (Go.Operand.const (Go.Value.int Go.IntKind.u8 2)) 35, type := 4, pos := _, after := #[{ on := 4, ground := Go.Ground.data }, { on := 3, ground := Go.Ground.guard }], guard := some (3, true) }) (v := ?_) rfl (by kernel_rfl) (by kernel_rfl) (by kernel_rfl) (fun _ _ _ h => h) (Or.inl ⟨by rfl, ?_⟩) (by assumption) ?_
              rotate_left
              · intro w hSw; (try dsimp only at hSw); go_simp <;> first | with_reducible rfl | (rw [if_neg (by first | omega | (simp only [ByteArray.size_append] at *; omega))])
              simp only [Act.put, List.setIfInBounds_toArray, List.set_cons_zero, List.set_cons_succ]
              refine wpAnyH_take (i := 6) (oi := { dst := some 163, op := Go.Op.pick (Go.Operand.tmp 160) (Go.Operand.tmp 162) (Go.Operand.const (Go.Value.bool false)), type := 4, pos := _, after := #[{ on := 3, ground := Go.Ground.data }, { on := 5, ground := Go.Ground.data }], guard := none }) (v := ?_) rfl (by kernel_rfl) (by kernel_rfl) (by kernel_rfl) (fun _ _ _ h => h) (Or.inl ⟨by rfl, ?_⟩) (by assumption) ?_
              rotate_left
              · intro w hSw; (try dsimp only at hSw); go_simp <;> first | with_reducible rfl | (rw [if_neg (by first | omega | (simp only [ByteArray.size_append] at *; omega))])
              simp only [Act.put, List.setIfInBounds_toArray, List.set_cons_zero, List.set_cons_succ]
              refine wpAnyH_take (i := 7) (oi := { dst := some 164, op := Go.Op.move (Go.Operand.tmp 163), type := 4, pos := _, after := #[{ on := 6, ground := Go.Ground.data }, { on := 3, ground := Go.Ground.chain }], guard := none }) (v := ?_) rfl (by kernel_rfl) (by kernel_rfl) (by kernel_rfl) (fun _ _ _ h => h) (Or.inl ⟨by rfl, ?_⟩) (by assumption) ?_
              rotate_left
              · intro w hSw; (try dsimp only at hSw); go_simp <;> first | with_reducible rfl | (rw [if_neg (by first | omega | (simp only [ByteArray.size_append] at *; omega))])
              simp only [Act.put, List.setIfInBounds_toArray, List.set_cons_zero, List.set_cons_succ]
              refine wpAnyH_take (i := 8) (oi := { dst := some 165, op := Go.Op.move (Go.Operand.tmp 7), type := 45, pos := _, after := #[{ on := 7, ground := Go.Ground.guard }], guard := some (7, true) }) (v := ?_) rfl (by kernel_rfl) (by kernel_rfl) (by kernel_rfl) (fun _ _ _ h => h) (Or.inl ⟨by rfl, ?_⟩) (by assumption) ?_
              rotate_left
              · intro w hSw; (try dsimp only at hSw); go_simp <;> first | with_reducible rfl | (rw [if_neg (by first | omega | (simp only [ByteArray.size_append] at *; omega))])
              simp only [Act.put, List.setIfInBounds_toArray, List.set_cons_zero, List.set_cons_succ]
              refine wpAnyH_take (i := 9) (oi := { dst := some 166, op := Go.Op.indexAddr 45 (Go.Operand.tmp 165) (Go.Operand.const (Go.Value.int Go.IntKind.i64 0)), type := 0, pos := _, after := #[{ on := 8, ground := Go.Ground.data }, { on := 7, ground := Go.Ground.guard }], guard := some (7, true) }) (v := ?_) rfl (by kernel_rfl) (by kernel_rfl) (by kernel_rfl) (fun _ _ _ h => h) (Or.inl ⟨by rfl, ?_⟩) (by assumption) ?_
              rotate_left
              · intro w hSw; (try dsimp only at hSw); go_simp <;> first | with_reducible rfl | (rw [if_neg (by first | omega | (simp only [ByteArray.size_append] at *; omega))])
              simp only [Act.put, List.setIfInBounds_toArray, List.set_cons_zero, List.set_cons_succ]
              refine wpAnyH_take (i := 10) (oi := { dst := some 167, op := Go.Op.load 35 (Go.Operand.tmp 166), type := 35, pos := _, after := #[{ on := 9, ground := Go.Ground.data }, { on := 7, ground := Go.Ground.guard }], guard := some (7, true) }) (v := ?_) rfl (by kernel_rfl) (by kernel_rfl) (by kernel_rfl) (fun _ _ _ h => h) (Or.inl ⟨by rfl, ?_⟩) (by assumption) ?_
              rotate_left
              · intro w hSw; (try dsimp only at hSw); go_simp <;> first | with_reducible rfl | (rw [if_neg (by first | omega | (simp only [ByteArray.size_append] at *; omega))])
              simp only [Act.put, List.setIfInBounds_toArray, List.set_cons_zero, List.set_cons_succ]
              refine wpAnyH_take (i := 11) (oi := { dst := some 168, op := Go.Op.move (Go.Operand.tmp 7), type := 45, pos := _, after := #[{ on := 7, ground := Go.Ground.guard }], guard := some (7, true) }) (v := ?_) rfl (by kernel_rfl) (by kernel_rfl) (by kernel_rfl) (fun _ _ _ h => h) (Or.inl ⟨by rfl, ?_⟩) (by assumption) ?_
              rotate_left
              · intro w hSw; (try dsimp only at hSw); go_simp <;> first | with_reducible rfl | (rw [if_neg (by first | omega | (simp only [ByteArray.size_append] at *; omega))])
              simp only [Act.put, List.setIfInBounds_toArray, List.set_cons_zero, List.set_cons_succ]
              refine wpAnyH_take (i := 12) (oi := { dst := some 169, op := Go.Op.indexAddr 45 (Go.Operand.tmp 168) (Go.Operand.const (Go.Value.int Go.IntKind.i64 1)), type := 0, pos := _, after := #[{ on := 11, ground := Go.Ground.data }, { on := 7, ground := Go.Ground.guard }], guard := some (7, true) }) (v := ?_) rfl (by kernel_rfl) (by kernel_rfl) (by kernel_rfl) (fun _ _ _ h => h) (Or.inl ⟨by rfl, ?_⟩) (by assumption) ?_
              rotate_left
              · intro w hSw; (try dsimp only at hSw); go_simp <;> first | with_reducible rfl | (rw [if_neg (by first | omega | (simp only [ByteArray.size_append] at *; omega))])
              simp only [Act.put, List.setIfInBounds_toArray, List.set_cons_zero, List.set_cons_succ]
              refine wpAnyH_take (i := 13) (oi := { dst := some 170, op := Go.Op.load 35 (Go.Operand.tmp 169), type := 35, pos := _, after := #[{ on := 12, ground := Go.Ground.data }, { on := 7, ground := Go.Ground.guard }], guard := some (7, true) }) (v := ?_) rfl (by kernel_rfl) (by kernel_rfl) (by kernel_rfl) (fun _ _ _ h => h) (Or.inl ⟨by rfl, ?_⟩) (by assumption) ?_
              rotate_left
              · intro w hSw; (try dsimp only at hSw); go_simp <;> first | with_reducible rfl | (rw [if_neg (by first | omega | (simp only [ByteArray.size_append] at *; omega))])
              simp only [Act.put, List.setIfInBounds_toArray, List.set_cons_zero, List.set_cons_succ]
              refine wpAnyH_take (i := 14) (oi := { dst := some 171, op := Go.Op.binOp Go.BinOp.eql 35 (Go.Operand.tmp 167) (Go.Operand.tmp 170) 35, type := 4, pos := _, after := #[{ on := 10, ground := Go.Ground.data }, { on := 13, ground := Go.Ground.data }, { on := 7, ground := Go.Ground.guard }], guard := some (7, true) }) (v := ?_) rfl (by kernel_rfl) (by kernel_rfl) (by kernel_rfl) (fun _ _ _ h => h) (Or.inl ⟨by rfl, ?_⟩) (by assumption) ?_
              rotate_left
              · intro w hSw; (try dsimp only at hSw); go_simp <;> first | with_reducible rfl | (rw [if_neg (by first | omega | (simp only [ByteArray.size_append] at *; omega))])
              simp only [Act.put, List.setIfInBounds_toArray, List.set_cons_zero, List.set_cons_succ]
              refine wpAnyH_take (i := 15) (oi := { dst := some 172, op := Go.Op.pick (Go.Operand.tmp 164) (Go.Operand.tmp 171) (Go.Operand.const (Go.Value.bool false)), type := 4, pos := _, after := #[{ on := 7, ground := Go.Ground.data }, { on := 14, ground := Go.Ground.data }], guard := none }) (v := ?_) rfl (by kernel_rfl) (by kernel_rfl) (by kernel_rfl) (fun _ _ _ h => h) (Or.inl ⟨by rfl, ?_⟩) (by assumption) ?_
              rotate_left
              · intro w hSw; (try dsimp only at hSw); go_simp <;> first | with_reducible rfl | (rw [if_neg (by first | omega | (simp only [ByteArray.size_append] at *; omega))])
              simp only [Act.put, List.setIfInBounds_toArray, List.set_cons_zero, List.set_cons_succ]
              refine wpAnyH_take (i := 16) (oi := { dst := some 4, op := Go.Op.assign (Go.Operand.tmp 172), type := 4, pos := _, after := #[{ on := 15, ground := Go.Ground.data }, { on := 7, ground := Go.Ground.chain }, { on := 0, ground := Go.Ground.phase }, { on := 1, ground := Go.Ground.phase }, { on := 2, ground := Go.Ground.phase }, { on := 3, ground := Go.Ground.phase }, { on := 4, ground := Go.Ground.phase }, { on := 5, ground := Go.Ground.phase }, { on := 6, ground := Go.Ground.phase }, { on := 7, ground := Go.Ground.phase }, { on := 8, ground := Go.Ground.phase }, { on := 9, ground := Go.Ground.phase }, { on := 10, ground := Go.Ground.phase }, { on := 11, ground := Go.Ground.phase }, { on := 12, ground := Go.Ground.phase }, { on := 13, ground := Go.Ground.phase }, { on := 14, ground := Go.Ground.phase }, { on := 15, ground := Go.Ground.phase }], guard := none }) (v := ?_) rfl (by kernel_rfl) (by kernel_rfl) (by kernel_rfl) (fun _ _ _ h => h) (Or.inl ⟨by rfl, ?_⟩) (by assumption) ?_
              rotate_left
              · intro w hSw; (try dsimp only at hSw); go_simp <;> first | with_reducible rfl | (rw [if_neg (by first | omega | (simp only [ByteArray.size_append] at *; omega))])
              simp only [Act.put, List.setIfInBounds_toArray, List.set_cons_zero, List.set_cons_succ]
              refine wpAnyH_done (by kernel_rfl) ?_ _
              go_wp2_with (fail)
              go_ret
              exact ⟨rfl, below_drewN HBW.out _⟩
            · have q0 := (XK.out.xcs).1
              rw [hop'] at q0
              have HBW := hid XK.out.below
              have hl3 : x.args.length = 2 := (len_parts HCK.out (by omega) (by omega) (by omega)).trans (parts_two (by omega))
              obtain ⟨ha, tc, hb⟩ := ty_eq (p := p) (x := x) (by rw [HTY.out]; exact HT0.out) (by omega)
              rw [HTS.out] at hb
              rw [HTY.out] at ha
              subst ha
              have hts : ts.length = 2 := HTL.out.trans hl3
              obtain ⟨t0, t1, rfl⟩ : ∃ t0 t1, ts = [t0, t1] := by
                match ts, hts with
                | [a, b], _ => exact ⟨a, b, rfl⟩
              obtain rfl : t0 = tc := hb t0 (by simp)
              obtain rfl : t1 = t0 := hb t1 (by simp)
              obtain ⟨g, gc, rfl, _, hty⟩ := HY.out.at (by simp)
              have z0 := hty 0 (by simp)
              have z1 := hty 1 (by simp)
              simp only [List.getElem_cons_zero, List.getElem_cons_succ, Nat.zero_add] at z0 z1
              have e1 : ((t1 : Int) == (t1 : Int)) = true := by simp
              clear hty hts hl3 hb
              go_wp2_with (fail)
              refine wp_region_held_drew (S := fun W => W.cell? ⟨g, 0, none⟩ = some (.int .u8 (t1 : Int)) ∧ W.cell? ⟨g, 1, none⟩ = some (.int .u8 (t1 : Int))) (by kernel_rfl) ?_ (fun hHeld => ?_)
              · exact ⟨z0, z1⟩
              refine wpAnyH_take (i := 0) (oi := { dst := some 157, op := Go.Op.move (Go.Operand.tmp 7), type := 45, pos := _, after := #[], guard := none }) (v := ?_) rfl (by kernel_rfl) (by kernel_rfl) (by kernel_rfl) (fun _ _ _ h => h) (Or.inl ⟨by rfl, ?_⟩) (by assumption) ?_
              rotate_left
              · intro w hSw; (try dsimp only at hSw); go_simp <;> first | with_reducible rfl | (rw [if_neg (by first | omega | (simp only [ByteArray.size_append] at *; omega))])
              simp only [Act.put, List.setIfInBounds_toArray, List.set_cons_zero, List.set_cons_succ]
              refine wpAnyH_take (i := 1) (oi := { dst := some 158, op := Go.Op.call { callee := Go.Callee.builtin Go.Builtin.len, args := #[Go.Operand.tmp 157], argTypes := #[45] }, type := 3, pos := _, after := #[{ on := 0, ground := Go.Ground.data }], guard := none }) (v := ?_) rfl (by kernel_rfl) (by kernel_rfl) (by kernel_rfl) (fun _ _ _ h => h) (Or.inl ⟨by rfl, ?_⟩) (by assumption) ?_
              rotate_left
              · intro w hSw; (try dsimp only at hSw); go_simp <;> first | with_reducible rfl | (rw [if_neg (by first | omega | (simp only [ByteArray.size_append] at *; omega))])
              simp only [Act.put, List.setIfInBounds_toArray, List.set_cons_zero, List.set_cons_succ]
              refine wpAnyH_take (i := 2) (oi := { dst := some 159, op := Go.Op.binOp Go.BinOp.eql 3 (Go.Operand.tmp 158) (Go.Operand.const (Go.Value.int Go.IntKind.i64 2)) 3, type := 4, pos := _, after := #[{ on := 1, ground := Go.Ground.data }], guard := none }) (v := ?_) rfl (by kernel_rfl) (by kernel_rfl) (by kernel_rfl) (fun _ _ _ h => h) (Or.inl ⟨by rfl, ?_⟩) (by assumption) ?_
              rotate_left
              · intro w hSw; (try dsimp only at hSw); go_simp <;> first | with_reducible rfl | (rw [if_neg (by first | omega | (simp only [ByteArray.size_append] at *; omega))])
              simp only [Act.put, List.setIfInBounds_toArray, List.set_cons_zero, List.set_cons_succ]
              refine wpAnyH_take (i := 3) (oi := { dst := some 160, op := Go.Op.move (Go.Operand.tmp 159), type := 4, pos := _, after := #[{ on := 2, ground := Go.Ground.data }], guard := none }) (v := ?_) rfl (by kernel_rfl) (by kernel_rfl) (by kernel_rfl) (fun _ _ _ h => h) (Or.inl ⟨by rfl, ?_⟩) (by assumption) ?_
              rotate_left
              · intro w hSw; (try dsimp only at hSw); go_simp <;> first | with_reducible rfl | (rw [if_neg (by first | omega | (simp only [ByteArray.size_append] at *; omega))])
              simp only [Act.put, List.setIfInBounds_toArray, List.set_cons_zero, List.set_cons_succ]
              refine wpAnyH_take (i := 4) (oi := { dst := some 161, op := Go.Op.move (Go.Operand.tmp 5), type := 35, pos := _, after := #[{ on := 3, ground := Go.Ground.guard }], guard := some (3, true) }) (v := ?_) rfl (by kernel_rfl) (by kernel_rfl) (by kernel_rfl) (fun _ _ _ h => h) (Or.inl ⟨by rfl, ?_⟩) (by assumption) ?_
              rotate_left
              · intro w hSw; (try dsimp only at hSw); go_simp <;> first | with_reducible rfl | (rw [if_neg (by first | omega | (simp only [ByteArray.size_append] at *; omega))])
              simp only [Act.put, List.setIfInBounds_toArray, List.set_cons_zero, List.set_cons_succ]
              refine wpAnyH_take (i := 5) (oi := { dst := some 162, op := Go.Op.binOp Go.BinOp.eql 35 (Go.Operand.tmp 161) (Go.Operand.const (Go.Value.int Go.IntKind.u8 2)) 35, type := 4, pos := _, after := #[{ on := 4, ground := Go.Ground.data }, { on := 3, ground := Go.Ground.guard }], guard := some (3, true) }) (v := ?_) rfl (by kernel_rfl) (by kernel_rfl) (by kernel_rfl) (fun _ _ _ h => h) (Or.inl ⟨by rfl, ?_⟩) (by assumption) ?_
              rotate_left
              · intro w hSw; (try dsimp only at hSw); go_simp <;> first | with_reducible rfl | (rw [if_neg (by first | omega | (simp only [ByteArray.size_append] at *; omega))])
              simp only [Act.put, List.setIfInBounds_toArray, List.set_cons_zero, List.set_cons_succ]
              refine wpAnyH_take (i := 6) (oi := { dst := some 163, op := Go.Op.pick (Go.Operand.tmp 160) (Go.Operand.tmp 162) (Go.Operand.const (Go.Value.bool false)), type := 4, pos := _, after := #[{ on := 3, ground := Go.Ground.data }, { on := 5, ground := Go.Ground.data }], guard := none }) (v := ?_) rfl (by kernel_rfl) (by kernel_rfl) (by kernel_rfl) (fun _ _ _ h => h) (Or.inl ⟨by rfl, ?_⟩) (by assumption) ?_
              rotate_left
              · intro w hSw; (try dsimp only at hSw); go_simp <;> first | with_reducible rfl | (rw [if_neg (by first | omega | (simp only [ByteArray.size_append] at *; omega))])
              simp only [Act.put, List.setIfInBounds_toArray, List.set_cons_zero, List.set_cons_succ]
              refine wpAnyH_take (i := 7) (oi := { dst := some 164, op := Go.Op.move (Go.Operand.tmp 163), type := 4, pos := _, after := #[{ on := 6, ground := Go.Ground.data }, { on := 3, ground := Go.Ground.chain }], guard := none }) (v := ?_) rfl (by kernel_rfl) (by kernel_rfl) (by kernel_rfl) (fun _ _ _ h => h) (Or.inl ⟨by rfl, ?_⟩) (by assumption) ?_
              rotate_left
              · intro w hSw; (try dsimp only at hSw); go_simp <;> first | with_reducible rfl | (rw [if_neg (by first | omega | (simp only [ByteArray.size_append] at *; omega))])
              simp only [Act.put, List.setIfInBounds_toArray, List.set_cons_zero, List.set_cons_succ]
              refine wpAnyH_take (i := 8) (oi := { dst := some 165, op := Go.Op.move (Go.Operand.tmp 7), type := 45, pos := _, after := #[{ on := 7, ground := Go.Ground.guard }], guard := some (7, true) }) (v := ?_) rfl (by kernel_rfl) (by kernel_rfl) (by kernel_rfl) (fun _ _ _ h => h) (Or.inl ⟨by rfl, ?_⟩) (by assumption) ?_
              rotate_left
              · intro w hSw; (try dsimp only at hSw); go_simp <;> first | with_reducible rfl | (rw [if_neg (by first | omega | (simp only [ByteArray.size_append] at *; omega))])
              simp only [Act.put, List.setIfInBounds_toArray, List.set_cons_zero, List.set_cons_succ]
              refine wpAnyH_take (i := 9) (oi := { dst := some 166, op := Go.Op.indexAddr 45 (Go.Operand.tmp 165) (Go.Operand.const (Go.Value.int Go.IntKind.i64 0)), type := 0, pos := _, after := #[{ on := 8, ground := Go.Ground.data }, { on := 7, ground := Go.Ground.guard }], guard := some (7, true) }) (v := ?_) rfl (by kernel_rfl) (by kernel_rfl) (by kernel_rfl) (fun _ _ _ h => h) (Or.inl ⟨by rfl, ?_⟩) (by assumption) ?_
              rotate_left
              · intro w hSw; (try dsimp only at hSw); go_simp <;> first | with_reducible rfl | (rw [if_neg (by first | omega | (simp only [ByteArray.size_append] at *; omega))])
              simp only [Act.put, List.setIfInBounds_toArray, List.set_cons_zero, List.set_cons_succ]
              refine wpAnyH_take (i := 10) (oi := { dst := some 167, op := Go.Op.load 35 (Go.Operand.tmp 166), type := 35, pos := _, after := #[{ on := 9, ground := Go.Ground.data }, { on := 7, ground := Go.Ground.guard }], guard := some (7, true) }) (v := ?_) rfl (by kernel_rfl) (by kernel_rfl) (by kernel_rfl) (fun _ _ _ h => h) (Or.inl ⟨by rfl, ?_⟩) (by assumption) ?_
              rotate_left
              · intro w hSw; (try dsimp only at hSw); go_simp <;> first | with_reducible rfl | (rw [if_neg (by first | omega | (simp only [ByteArray.size_append] at *; omega))])
              simp only [Act.put, List.setIfInBounds_toArray, List.set_cons_zero, List.set_cons_succ]
              refine wpAnyH_take (i := 11) (oi := { dst := some 168, op := Go.Op.move (Go.Operand.tmp 7), type := 45, pos := _, after := #[{ on := 7, ground := Go.Ground.guard }], guard := some (7, true) }) (v := ?_) rfl (by kernel_rfl) (by kernel_rfl) (by kernel_rfl) (fun _ _ _ h => h) (Or.inl ⟨by rfl, ?_⟩) (by assumption) ?_
              rotate_left
              · intro w hSw; (try dsimp only at hSw); go_simp <;> first | with_reducible rfl | (rw [if_neg (by first | omega | (simp only [ByteArray.size_append] at *; omega))])
              simp only [Act.put, List.setIfInBounds_toArray, List.set_cons_zero, List.set_cons_succ]
              refine wpAnyH_take (i := 12) (oi := { dst := some 169, op := Go.Op.indexAddr 45 (Go.Operand.tmp 168) (Go.Operand.const (Go.Value.int Go.IntKind.i64 1)), type := 0, pos := _, after := #[{ on := 11, ground := Go.Ground.data }, { on := 7, ground := Go.Ground.guard }], guard := some (7, true) }) (v := ?_) rfl (by kernel_rfl) (by kernel_rfl) (by kernel_rfl) (fun _ _ _ h => h) (Or.inl ⟨by rfl, ?_⟩) (by assumption) ?_
              rotate_left
              · intro w hSw; (try dsimp only at hSw); go_simp <;> first | with_reducible rfl | (rw [if_neg (by first | omega | (simp only [ByteArray.size_append] at *; omega))])
              simp only [Act.put, List.setIfInBounds_toArray, List.set_cons_zero, List.set_cons_succ]
              refine wpAnyH_take (i := 13) (oi := { dst := some 170, op := Go.Op.load 35 (Go.Operand.tmp 169), type := 35, pos := _, after := #[{ on := 12, ground := Go.Ground.data }, { on := 7, ground := Go.Ground.guard }], guard := some (7, true) }) (v := ?_) rfl (by kernel_rfl) (by kernel_rfl) (by kernel_rfl) (fun _ _ _ h => h) (Or.inl ⟨by rfl, ?_⟩) (by assumption) ?_
              rotate_left
              · intro w hSw; (try dsimp only at hSw); go_simp <;> first | with_reducible rfl | (rw [if_neg (by first | omega | (simp only [ByteArray.size_append] at *; omega))])
              simp only [Act.put, List.setIfInBounds_toArray, List.set_cons_zero, List.set_cons_succ]
              refine wpAnyH_take (i := 14) (oi := { dst := some 171, op := Go.Op.binOp Go.BinOp.eql 35 (Go.Operand.tmp 167) (Go.Operand.tmp 170) 35, type := 4, pos := _, after := #[{ on := 10, ground := Go.Ground.data }, { on := 13, ground := Go.Ground.data }, { on := 7, ground := Go.Ground.guard }], guard := some (7, true) }) (v := ?_) rfl (by kernel_rfl) (by kernel_rfl) (by kernel_rfl) (fun _ _ _ h => h) (Or.inl ⟨by rfl, ?_⟩) (by assumption) ?_
              rotate_left
              · intro w hSw; (try dsimp only at hSw); go_simp <;> first | with_reducible rfl | (rw [if_neg (by first | omega | (simp only [ByteArray.size_append] at *; omega))])
              simp only [Act.put, List.setIfInBounds_toArray, List.set_cons_zero, List.set_cons_succ]
              refine wpAnyH_take (i := 15) (oi := { dst := some 172, op := Go.Op.pick (Go.Operand.tmp 164) (Go.Operand.tmp 171) (Go.Operand.const (Go.Value.bool false)), type := 4, pos := _, after := #[{ on := 7, ground := Go.Ground.data }, { on := 14, ground := Go.Ground.data }], guard := none }) (v := ?_) rfl (by kernel_rfl) (by kernel_rfl) (by kernel_rfl) (fun _ _ _ h => h) (Or.inl ⟨by rfl, ?_⟩) (by assumption) ?_
              rotate_left
              · intro w hSw; (try dsimp only at hSw); go_simp <;> first | with_reducible rfl | (rw [if_neg (by first | omega | (simp only [ByteArray.size_append] at *; omega))])
              simp only [Act.put, List.setIfInBounds_toArray, List.set_cons_zero, List.set_cons_succ]
              refine wpAnyH_take (i := 16) (oi := { dst := some 4, op := Go.Op.assign (Go.Operand.tmp 172), type := 4, pos := _, after := #[{ on := 15, ground := Go.Ground.data }, { on := 7, ground := Go.Ground.chain }, { on := 0, ground := Go.Ground.phase }, { on := 1, ground := Go.Ground.phase }, { on := 2, ground := Go.Ground.phase }, { on := 3, ground := Go.Ground.phase }, { on := 4, ground := Go.Ground.phase }, { on := 5, ground := Go.Ground.phase }, { on := 6, ground := Go.Ground.phase }, { on := 7, ground := Go.Ground.phase }, { on := 8, ground := Go.Ground.phase }, { on := 9, ground := Go.Ground.phase }, { on := 10, ground := Go.Ground.phase }, { on := 11, ground := Go.Ground.phase }, { on := 12, ground := Go.Ground.phase }, { on := 13, ground := Go.Ground.phase }, { on := 14, ground := Go.Ground.phase }, { on := 15, ground := Go.Ground.phase }], guard := none }) (v := ?_) rfl (by kernel_rfl) (by kernel_rfl) (by kernel_rfl) (fun _ _ _ h => h) (Or.inl ⟨by rfl, ?_⟩) (by assumption) ?_
              rotate_left
              · intro w hSw; (try dsimp only at hSw); go_simp <;> first | with_reducible rfl | (rw [if_neg (by first | omega | (simp only [ByteArray.size_append] at *; omega))])
              simp only [Act.put, List.setIfInBounds_toArray, List.set_cons_zero, List.set_cons_succ]
              refine wpAnyH_done (by kernel_rfl) ?_ _
              go_wp2_with (fail)
              go_ret
              exact ⟨rfl, below_drewN HBW.out _⟩
            · have q0 := (XK.out.xcs).1
              rw [hop'] at q0
              have HBW := hid XK.out.below
              obtain ⟨ha, hb⟩ := ty_less (p := p) (x := x) (by rw [HTY.out]; exact HT0.out) (by omega)
              rw [HTS.out] at hb
              rw [HTY.out] at ha
              subst ha
              have HA := hid hb
              clear hb
              have HLL : ts.length ≤ 2513169434843 := by rw [HTL.out]; exact HLN.out
              have HL0 : 0 < ts.length := by rw [HTL.out]; exact (ok_parts (fields_len HCK.out) (by omega) (by omega) (by omega)).2.2.1
              obtain ⟨g, gc, rfl, _, hty⟩ := HY.out.at HL0
              have HTA := hid hty
              clear hty
              go_wp2_with (fail)
              go_loopw [17] (fun i wr' => ∃ k : Nat, k ≤ ts.length ∧ i = .int .i64 (k : Int) ∧ wr' = wr) (fun i _ => ts.length - (intOf i).toNat)
              case atStart => exact ⟨0, Nat.zero_le _, rfl, rfl⟩
              case round =>
                obtain ⟨k, hk, rfl, rfl⟩ := hrel
                by_cases hlt : k < ts.length
                · have hlt' : (k : Int) < (ts.length : Int) := by omega
                  have hk0 : (0 : Int) ≤ (k : Int) := by omega
                  have zk := HTA.out k hlt
                  rw [Nat.zero_add, HA.out _ (List.getElem_mem hlt)] at zk
                  go_wp2_with (fail)
                  go_roundw
                  case rel => exact ⟨k + 1, by omega, by go_num, by first | rfl | trivial⟩
                  case measure => simp [intOf]; omega
                · have hlt' : ¬ (k : Int) < (ts.length : Int) := by omega
                  obtain rfl : k = ts.length := by omega
                  go_wp2_with (fail)
                  go_ret
                  exact ⟨rfl, HBW.out⟩
            · have q0 := (XK.out.xcs).1
              rw [hop'] at q0
              have HBW := hid XK.out.below
              obtain ⟨ha, hb⟩ := ty_less (p := p) (x := x) (by rw [HTY.out]; exact HT0.out) (by omega)
              rw [HTS.out] at hb
              rw [HTY.out] at ha
              subst ha
              have HA := hid hb
              clear hb
              have HLL : ts.length ≤ 2513169434843 := by rw [HTL.out]; exact HLN.out
              have HL0 : 0 < ts.length := by rw [HTL.out]; exact (ok_parts (fields_len HCK.out) (by omega) (by omega) (by omega)).2.2.1
              obtain ⟨g, gc, rfl, _, hty⟩ := HY.out.at HL0
              have HTA := hid hty
              clear hty
              go_wp2_with (fail)
              go_loopw [17] (fun i wr' => ∃ k : Nat, k ≤ ts.length ∧ i = .int .i64 (k : Int) ∧ wr' = wr) (fun i _ => ts.length - (intOf i).toNat)
              case atStart => exact ⟨0, Nat.zero_le _, rfl, rfl⟩
              case round =>
                obtain ⟨k, hk, rfl, rfl⟩ := hrel
                by_cases hlt : k < ts.length
                · have hlt' : (k : Int) < (ts.length : Int) := by omega
                  have hk0 : (0 : Int) ≤ (k : Int) := by omega
                  have zk := HTA.out k hlt
                  rw [Nat.zero_add, HA.out _ (List.getElem_mem hlt)] at zk
                  go_wp2_with (fail)
                  go_roundw
                  case rel => exact ⟨k + 1, by omega, by go_num, by first | rfl | trivial⟩
                  case measure => simp [intOf]; omega
                · have hlt' : ¬ (k : Int) < (ts.length : Int) := by omega
                  obtain rfl : k = ts.length := by omega
                  go_wp2_with (fail)
                  go_ret
                  exact ⟨rfl, HBW.out⟩
            · have q0 := (XK.out.xcs).1
              rw [hop'] at q0
              have HBW := hid XK.out.below
              obtain ⟨ha, hb⟩ := ty_log (p := p) (x := x) (by rw [HTY.out]; exact HT0.out) (by omega)
              rw [HTS.out] at hb
              rw [HTY.out] at ha
              subst ha
              have HA := hid hb
              clear hb
              have HLL : ts.length ≤ 2513169434843 := by rw [HTL.out]; exact HLN.out
              have HL0 : 0 < ts.length := by rw [HTL.out]; exact (ok_parts (fields_len HCK.out) (by omega) (by omega) (by omega)).2.2.1
              obtain ⟨g, gc, rfl, _, hty⟩ := HY.out.at HL0
              have HTA := hid hty
              clear hty
              go_wp2_with (fail)
              go_loopw [17] (fun i wr' => ∃ k : Nat, k ≤ ts.length ∧ i = .int .i64 (k : Int) ∧ wr' = wr) (fun i _ => ts.length - (intOf i).toNat)
              case atStart => exact ⟨0, Nat.zero_le _, rfl, rfl⟩
              case round =>
                obtain ⟨k, hk, rfl, rfl⟩ := hrel
                by_cases hlt : k < ts.length
                · have hlt' : (k : Int) < (ts.length : Int) := by omega
                  have hk0 : (0 : Int) ≤ (k : Int) := by omega
                  have zk := HTA.out k hlt
                  rw [Nat.zero_add, HA.out _ (List.getElem_mem hlt)] at zk
                  go_wp2_with (fail)
                  go_roundw
                  case rel => exact ⟨k + 1, by omega, by go_num, by first | rfl | trivial⟩
                  case measure => simp [intOf]; omega
                · have hlt' : ¬ (k : Int) < (ts.length : Int) := by omega
                  obtain rfl : k = ts.length := by omega
                  go_wp2_with (fail)
                  go_ret
                  exact ⟨rfl, HBW.out⟩
            · have q0 := (XK.out.xcs).1
              rw [hop'] at q0
              have HBW := hid XK.out.below
              obtain ⟨ha, hb⟩ := ty_log (p := p) (x := x) (by rw [HTY.out]; exact HT0.out) (by omega)
              rw [HTS.out] at hb
              rw [HTY.out] at ha
              subst ha
              have HA := hid hb
              clear hb
              have HLL : ts.length ≤ 2513169434843 := by rw [HTL.out]; exact HLN.out
              have HL0 : 0 < ts.length := by rw [HTL.out]; exact (ok_parts (fields_len HCK.out) (by omega) (by omega) (by omega)).2.2.1
              obtain ⟨g, gc, rfl, _, hty⟩ := HY.out.at HL0
              have HTA := hid hty
              clear hty
              go_wp2_with (fail)
              go_loopw [17] (fun i wr' => ∃ k : Nat, k ≤ ts.length ∧ i = .int .i64 (k : Int) ∧ wr' = wr) (fun i _ => ts.length - (intOf i).toNat)
              case atStart => exact ⟨0, Nat.zero_le _, rfl, rfl⟩
              case round =>
                obtain ⟨k, hk, rfl, rfl⟩ := hrel
                by_cases hlt : k < ts.length
                · have hlt' : (k : Int) < (ts.length : Int) := by omega
                  have hk0 : (0 : Int) ≤ (k : Int) := by omega
                  have zk := HTA.out k hlt
                  rw [Nat.zero_add, HA.out _ (List.getElem_mem hlt)] at zk
                  go_wp2_with (fail)
                  go_roundw
                  case rel => exact ⟨k + 1, by omega, by go_num, by first | rfl | trivial⟩
                  case measure => simp [intOf]; omega
                · have hlt' : ¬ (k : Int) < (ts.length : Int) := by omega
                  obtain rfl : k = ts.length := by omega
                  go_wp2_with (fail)
                  go_ret
                  exact ⟨rfl, HBW.out⟩
            · have q0 := (XK.out.xcs).1
              rw [hop'] at q0
              have HBW := hid XK.out.below
              have hl3 : x.args.length = 3 := (ok_parts (fields_len HCK.out) (by omega) (by omega) (by omega)).2.2.2.2 hop'
              obtain ⟨ha, hb⟩ := ty_if (p := p) (x := x) (by rw [HTY.out]; exact HT0.out) hop'
              rw [HTS.out] at ha hb
              rw [HTY.out] at hb
              have hts : ts.length = 3 := HTL.out.trans hl3
              obtain ⟨t0, t1, t2, rfl⟩ : ∃ t0 t1 t2, ts = [t0, t1, t2] := by
                match ts, hts with
                | [a, b, c], _ => exact ⟨a, b, c, rfl⟩
              obtain rfl : t0 = 2 := ha
              obtain rfl : t1 = ty := hb t1 (by simp)
              obtain rfl : t2 = t1 := hb t2 (by simp)
              obtain ⟨g, gc, rfl, _, hty⟩ := HY.out.at (by simp)
              have z0 := hty 0 (by simp)
              have z1 := hty 1 (by simp)
              have z2 := hty 2 (by simp)
              simp only [List.getElem_cons_zero, List.getElem_cons_succ, Nat.zero_add] at z0 z1 z2
              have e1 : ((t2 : Int) == (t2 : Int)) = true := by simp
              clear hty hts hl3 hb
              go_wp2_with (fail)
              go_ret
              exact ⟨rfl, HBW.out⟩
            · have q0 := (XK.out.xcs).1
              rw [hop'] at q0
              have HBW := hid XK.out.below
              have hl3 : x.args.length = 2 := (len_parts HCK.out (by omega) (by omega) (by omega)).trans (parts_two (by omega))
              have hb := ty_same (p := p) (x := x) (by rw [HTY.out]; exact HT0.out) (.inl hop')
              rw [HTS.out, HTY.out] at hb
              have hts : ts.length = 2 := HTL.out.trans hl3
              obtain ⟨t0, t1, rfl⟩ : ∃ t0 t1, ts = [t0, t1] := by
                match ts, hts with
                | [a, b], _ => exact ⟨a, b, rfl⟩
              obtain rfl : t0 = ty := hb t0 (by simp)
              obtain rfl : t1 = t0 := hb t1 (by simp)
              obtain ⟨g, gc, rfl, _, hty⟩ := HY.out.at (by simp)
              have z0 := hty 0 (by simp)
              have z1 := hty 1 (by simp)
              simp only [List.getElem_cons_zero, List.getElem_cons_succ, Nat.zero_add] at z0 z1
              have e1 : ((t1 : Int) == (t1 : Int)) = true := by simp
              clear hty hts hl3 hb
              go_wp2_with (fail)
              go_ret
              exact ⟨rfl, HBW.out⟩
            · have q0 := (XK.out.xcs).1
              rw [hop'] at q0
              have HBW := hid XK.out.below
              have hl3 : x.args.length = 1 := (len_parts HCK.out (by omega) (by omega) (by omega)).trans (by rw [hop']; exact parts_one)
              have hb := ty_same (p := p) (x := x) (by rw [HTY.out]; exact HT0.out) (.inr hop')
              rw [HTS.out, HTY.out] at hb
              have hts : ts.length = 1 := HTL.out.trans hl3
              obtain ⟨t0, rfl⟩ : ∃ t0, ts = [t0] := by
                match ts, hts with
                | [a], _ => exact ⟨a, rfl⟩
              obtain rfl : t0 = ty := hb t0 (by simp)
              obtain ⟨g, gc, rfl, _, hty⟩ := HY.out.at (by simp)
              have z0 := hty 0 (by simp)
              simp only [List.getElem_cons_zero, Nat.zero_add] at z0
              have e1 : ((t0 : Int) == (t0 : Int)) = true := by simp
              clear hty hts hl3 hb
              go_wp2_with (fail)
              go_ret
              exact ⟨rfl, HBW.out⟩
      · obtain ⟨h1, h2⟩ := of_not hz
        have hz' : ((ofV p x).2 != 0) = true := by simpa using hz
        have c13 := of_ p x _ _ _ _ _ X3.out.P X3.out.S X3.out.R X3.out.J
        rw [h1] at c13
        have H2 := hid h2
        clear hz h1 h2
        generalize (ofV p x).2 = er at *
        have HE : Hid (((er == 1) == !chk x) = true) := hid (by have := H2.out; rw [show (er == 1) = decide (er = 1) from by by_cases h : er = 1 <;> simp [h], this]; simp)
        clear H2
        go_wp2_with (fail)
        refine c13.mono ?_
        rintro e w5 ⟨rfl, hb5⟩
        have X5 := hid (X3.out.keep hb5)
        clear hb5 X3 p0 p1 p2 p3 q0 q1 q2 q3 c13
        obtain ⟨q0, q1, q2, q3⟩ := X5.out.xcs
        go_wp2_with (fail)
        refine (check x _ _ X5.out.S X5.out.R X5.out.J).mono ?_
        rintro e w6 ⟨rfl, hb6⟩
        have hB := bstep X5.out.below hb6
        have hee := HE.out
        generalize chk x = cx at *
        cases cx with
        | true =>
          have he1 : (er == 1) = false := by simpa using hee
          clear hee HE
          go_wp2_with (fail)
          go_ret
          exact ⟨rfl, hB⟩
        | false =>
          have he1 : (er == 1) = true := by simpa using hee
          clear hee HE
          go_wp2_with (fail)
          go_ret
          exact ⟨rfl, hB⟩
end Go.Proofs.YtakjkhfglihggaaDoor.Lex
