/-
  It hangs on no more of a program than that the names are there: the walk of the law, where what came in is not too great.
  A byte that came in, as a number.
-/
import Derived.Test.YtejacmgppnafcabDoorU7
import Derived.Test.YtejacmgppnafcabDoorU8
import Derived.Test.YtejacmgppnafcabDoorU6
import Derived.Test.YtejacmgppnafcabDoorU5
import Derived.Deep.AppendLies
import Derived.Test.YtejacmgppnafcabDoorU1
namespace Go.Proofs.YtejacmgppnafcabDoor.Lex
open Go.ChangeShapes Go.WideShapes Go.ChangeAt Go.RowKit Go.Joins
theorem wp_append_at {P : Program} {w : World} {o : Oper} {a : Act} {K : Act → World → Prop} {Q : Exit → Act → World → Prop} (s x : Operand) (t : TypeId)
    (ho : o.op = .call { callee := .builtin .append, args := #[s, x], argTypes := #[t, t] })
    (base : Nat) (e : TypeId) (i : TypeInfo) (z : Value) (size bytes : Nat) (ht : P.underlying t = some (.slice e)) (hi : P.info? e = some i) (hz : i.zero = some z)
    (hsize : i.size = size) (hby : i.bytes = bytes) (hzs : z.cells.size = size) (hsz : 0 < size)
    (v : Value) (n : Nat) (xs : List Value) (hs : a.eval s = v) (hown : w.ownsRow base e size v n xs)
    (ad : Addr) (m c : Nat) (news : List Value) (hx : a.eval x = .slice (some ad) m c) (hl : news.length = m * size) (hnews : ∀ j u, news[j]? = some u → w.cell? (ad.add j) = some u) (h1 : ∀ u ∈ news, u.oneCell' = true)
    (h63 : n + m ≤ maxLen) (hbytes : (n + m) * bytes ≤ 140737488355328) (hbase : base ≤ w.heap.size)
    (h : ∀ v' w', w'.ownsRow base e size v' (n + m) (xs ++ news) → w.grownBy w' v.ownBlock → (v' = .slice none 0 0 ↔ v = .slice none 0 0 ∧ m = 0) → (v'.ownBlock = v.ownBlock ∨ v'.ownBlock = some w.heap.size) → K (a.put o.dst v') w') : o.wp P a w K Q := by
  obtain ⟨v', w', hr, h2, h3, h4, h5⟩ := run_append_own_at (P := P) w base t o.type e i z size bytes ht hi hz hsize hby hzs hsz v n xs hown ad m c news hl hnews h1 h63 hbytes hbase
  unfold Oper.wp execOp
  simp only [ho, resolve, invoke, builtin, Sem.run_bind, Sem.run_pure, Result.andThen_ok, List.map_toArray, List.map_cons, List.map_nil, hs, hx, hr]
  exact h v' w' h2 h3 h4 h5
theorem inf40 : (Tryd.prog.info? 40).map (fun i => (i.zero, i.size, i.bytes)) = some (some (.agg #[.string ByteArray.empty, .int .u8 0, .int .i64 0, .int .i64 0, .int .u8 0, .int .i64 0, .string ByteArray.empty, .slice none 0 0]), 8, 96) := by kernel_rfl
set_option maxRecDepth 100000 in
set_option maxHeartbeats 4000000 in
theorem walk3 (p : Pg) (x : Ex) (w : World) (s a b c : Value) (hP : PgAt w p a b c) (hS : St w x s) (hz : esz x ≤ 1048576) (hR : TabR w) (hJ : TabJ w) : Calls Tryd.prog 3 #[pgV p a b c, exV x s] w fun e w' => e = .returned (.bool true) ∧ Below w.heap.size w w' := by
  obtain ⟨a0, a1, rfl, _⟩ := hP.ins
  obtain ⟨b0, b1, _, rfl, _⟩ := hP.flows
  obtain ⟨c0, c1, rfl, _⟩ := hP.outs
  obtain ⟨ao, cap, _, rfl, _⟩ := hS.out
  have B2 := bstep ((Below.refl w.heap.size w).alloc (Nat.le_refl _) (.cells (pgC p (.slice a0 p.ins.length a1) (.slice b0 p.flows.length b1) (.slice c0 p.outs.length c1)) 26)) ((Below.refl _ _).alloc (Nat.le_refl _) (.cells #[.int .u8 (x.op : Int), .int .i64 x.n, .string x.name, .slice ao x.args.length cap] 30))
  have X0 := hid (OX.mk (w := w) (ao := ao) (cap := cap) (W := ((w.alloc (.cells (pgC p (.slice a0 p.ins.length a1) (.slice b0 p.flows.length b1) (.slice c0 p.outs.length c1)) 26)).alloc (.cells #[.int .u8 (x.op : Int), .int .i64 x.n, .string x.name, .slice ao x.args.length cap] 30))) (push_old (push_new _ _ _ rfl)) (push_new _ _ _ (by simp)) (hP.keep B2) (hS.keep B2) (hR.below B2) (hJ.below B2) B2)
  have HZ := hid hz
  clear B2 hP hS hR hJ hz
  go_enter Tryd.func3, Tryd.ntmps3
  go_wp2_with (fail)
  refine (alive _ X0.out.R X0.out.J).mono ?_
  rintro e w1 ⟨rfl, hb1⟩
  have X1 := hid (X0.out.keep hb1)
  clear hb1
  obtain ⟨p0, p1, p2, p3⟩ := X1.out.pcs
  go_wp2_with (fail)
  refine (great p _ _ _ _ X1.out.P).mono ?_
  rintro e w2 ⟨⟨g, rfl, hg⟩, hb2⟩
  have X2 := hid (X1.out.keep hb2)
  clear hb2 X1 X0 p0 p1 p2 p3
  cases g with
  | true =>
    clear hg
    go_wp2_with (fail)
    refine (alive _ X2.out.R X2.out.J).mono ?_
    rintro e w3 ⟨rfl, hb3⟩
    have X3 := hid (X2.out.keep hb3)
    clear hb3
    have hB := X3.out.below
    go_wp2_with (fail)
    go_ret
    exact ⟨rfl, hB⟩
  | false =>
    have HG := hid hg
    clear hg
    obtain ⟨q0, q1, q2, q3⟩ := X2.out.xcs
    go_wp2_with (fail)
    refine (size_all _ x (Nat.le_refl _) _ _ X2.out.S HZ.out).mono ?_
    rintro e w3 ⟨rfl, hb3⟩
    have X3 := hid (X2.out.keep hb3)
    clear hb3 X2 q0 q1 q2 q3
    by_cases hm : (20000 : Int) < (esz x : Int)
    · go_wp2_with (fail)
      refine (alive _ X3.out.R X3.out.J).mono ?_
      rintro e w4 ⟨rfl, hb4⟩
      have X4 := hid (X3.out.keep hb4)
      clear hb4
      have hB := X4.out.below
      go_wp2_with (fail)
      go_ret
      exact ⟨rfl, hB⟩
    · obtain ⟨p0, p1, p2, p3⟩ := X3.out.pcs
      obtain ⟨q0, q1, q2, q3⟩ := X3.out.xcs
      have hez : esz x ≤ 20000 := by omega
      have HEZ := hid hez
      clear hez
      have HNM := hid (esz_nm 20000 x HEZ.out (by omega))
      have HCN : Hid (cnt 20000 x ≤ 20000) := hid (Nat.le_trans (esz_cnt 20000 x) HEZ.out)
      have HLL : Hid ((gat 20000 x 0 []).length ≤ 20000) := hid (by have h1 := gat_len 20000 x 0 []; have h2 := HCN.out; simp at h1; omega)
      have HSM : Hid (∀ r ∈ gat 20000 x 0 [], r.1.size ≤ 65536) := hid (gat_small 20000 x 0 [] HNM.out (fun r hr => by cases hr))
      have HOA := hid (fun h => of_any (x := x) h)
      have HTA := hid (fun h => there_asks p (x := x) h)
      go_wp2_with (fail)
      refine (refs 20000 x _ _ X3.out.S HNM.out (by omega) (by have := HCN.out; omega)).mono ?_
      rintro e w6 ⟨v, rfl, hrow6, hb6⟩
      obtain ⟨ra, rc, rfl, hrf⟩ := RfAt.of_own hrow6
      have HRF := hid hrf
      have X6 := hid (X3.out.keep hb6)
      clear hrow6 hrf hb6 q0 q1 q2 q3 p0 p1 p2 p3 X3 hm
      have hLl := HLL.out
      have Q0 : Hid (QF w6 w6.heap.size [] (.slice none 0 0) (w6.alloc (.cells #[.int .i64 0, .slice none 0 0, .slice none 0 0, .slice none 0 0] 26))) := hid ⟨(Below.refl _ _).alloc (Nat.le_refl _) _, heap_alloc_new w6 _, World.ownsRow_nil _ _ _ _, (by intro e; cases e), Nat.le_refl _⟩
      obtain ⟨i0, hi, hz0, hz1, hz2⟩ := info_parts inf40
      generalize hG : gat 20000 x 0 [] = G at *
      have HGG := hid hG
      clear hG
      go_wp2_with (fail)
      generalize w6.alloc (.cells #[.int .i64 0, .slice none 0 0, .slice none 0 0, .slice none 0 0] 26) = W6 at *
      have HQB : Hid (∃ qb, qb = w6.heap.size) := hid ⟨_, rfl⟩
      generalize hqb : w6.heap.size = qb at Q0 ⊢
      clear hqb HQB
      go_loopw [7, 8] (fun t i wr => ∃ r : Nat, r ≤ G.length ∧ t = .bool ((G.take r).all fun z => (findT (thingsL p) z.1).isSome) ∧ i = .int .i64 (r : Int) ∧ Hid (∃ v, QF w6 qb ((G.take r).map (·.1)) v wr)) (fun _ i _ => G.length - (intOf i).toNat)
      case atStart => exact ⟨0, Nat.zero_le _, rfl, rfl, hid ⟨_, Q0.out⟩⟩
      case round =>
        obtain ⟨r, hr, rfl, rfl, HQV⟩ := hrel
        obtain ⟨v, hq⟩ := HQV.out
        have HQ := hid hq
        have XK := hid (X6.out.keep HQ.out.below)
        clear hq HQV Q0
        by_cases hrl : r < G.length
        · have hrl' : (r : Int) < (G.length : Int) := by omega
          have hr0 : (0 : Int) ≤ (r : Int) := by omega
          obtain ⟨gb, rfl, hcc⟩ := HRF.out.resolve_left (by omega)
          have hcc0 := hid (hcc r hrl).1
          have HTK := hid (List.take_succ_eq_append_getElem hrl)
          have HTK2 : Hid ((G.take (r + 1)).map (·.1) = (G.take r).map (·.1) ++ [G[r].1]) := hid (by rw [HTK.out, List.map_append]; rfl)
          have hll : ((G.take r).map (·.1)).length ≤ 20000 := by simp; omega
          have hmx : ((G.take r).map (·.1)).length + 1 ≤ maxLen := by unfold maxLen; omega
          clear hcc
          generalize G[r] = z at *
          generalize (G.take r).map (·.1) = L at HQ HTK2 hll hmx
          obtain ⟨th, hth⟩ : ∃ th, ((G.take r).all fun z => (findT (thingsL p) z.1).isSome) = th := ⟨_, rfl⟩
          rw [hth]
          have HTH := hid hth
          clear hth
          have y0 := cell_kept hcc0.out HQ.out.below
          have HBA := hid ((Below.refl wr.heap.size wr).drew.trans (((Below.refl wr.drew.heap.size wr.drew).alloc (Nat.le_refl _) (.cells #[.string z.1, .int .u8 0, .int .i64 0, .int .i64 0, .int .u8 0, .int .i64 0, .string ⟨#[]⟩, .slice none 0 0] 40)).mono (by simp)))
          have x1 := (cell_of_row wr qb 2 _ 26 (0, 0) HQ.out.row).trans (show _ = some v from rfl)
          have x1a := cell_kept x1 HBA.out
          have y0a := cell_kept y0 HBA.out
          have hqlt := (Array.getElem?_eq_some_iff.1 HQ.out.row).1
          have HB6 := hid (Below.refl w6.heap.size w6)
          go_wp2_with (fail)
          refine wp_region_held_drew (S := fun W => W.cell? ⟨gb, r * 2, none⟩ = some (.string z.1)) (by kernel_rfl) ?_ (fun hHeld => ?_)
          · exact y0
          refine wpAnyH_take (i := 0) (oi := { dst := some 38, op := Go.Op.fieldAddr 26 (Go.Operand.tmp 6) 2, type := 0, pos := _, after := #[], guard := none }) (v := ?_) rfl (by kernel_rfl) (by kernel_rfl) (by kernel_rfl) (fun _ _ _ h => h) (Or.inl ⟨by rfl, ?_⟩) (by assumption) ?_
          rotate_left
          · intro w hSw; (try dsimp only at hSw); go_simp <;> first | with_reducible rfl | (rw [if_neg (by first | omega | (simp only [ByteArray.size_append] at *; omega))])
          simp only [Act.put, List.setIfInBounds_toArray, List.set_cons_zero, List.set_cons_succ]
          refine wpAnyH_take (i := 2) (oi := { dst := some 40, op := Go.Op.move (Go.Operand.tmp 5), type := 34, pos := _, after := #[], guard := none }) (v := ?_) rfl (by kernel_rfl) (by kernel_rfl) (by kernel_rfl) (fun _ _ _ h => h) (Or.inl ⟨by rfl, ?_⟩) (by assumption) ?_
          rotate_left
          · intro w hSw; (try dsimp only at hSw); go_simp <;> first | with_reducible rfl | (rw [if_neg (by first | omega | (simp only [ByteArray.size_append] at *; omega))])
          simp only [Act.put, List.setIfInBounds_toArray, List.set_cons_zero, List.set_cons_succ]
          refine wpAnyH_take (i := 3) (oi := { dst := some 41, op := Go.Op.move (Go.Operand.tmp 8), type := 3, pos := _, after := #[], guard := none }) (v := ?_) rfl (by kernel_rfl) (by kernel_rfl) (by kernel_rfl) (fun _ _ _ h => h) (Or.inl ⟨by rfl, ?_⟩) (by assumption) ?_
          rotate_left
          · intro w hSw; (try dsimp only at hSw); go_simp <;> first | with_reducible rfl | (rw [if_neg (by first | omega | (simp only [ByteArray.size_append] at *; omega))])
          simp only [Act.put, List.setIfInBounds_toArray, List.set_cons_zero, List.set_cons_succ]
          refine wpAnyH_take (i := 4) (oi := { dst := some 42, op := Go.Op.indexAddr 34 (Go.Operand.tmp 40) (Go.Operand.tmp 41), type := 0, pos := _, after := #[{ on := 2, ground := Go.Ground.data }, { on := 3, ground := Go.Ground.data }], guard := none }) (v := ?_) rfl (by kernel_rfl) (by kernel_rfl) (by kernel_rfl) (fun _ _ _ h => h) (Or.inl ⟨by rfl, ?_⟩) (by assumption) ?_
          rotate_left
          · intro w hSw; (try dsimp only at hSw); go_simp <;> first | with_reducible rfl | (rw [if_neg (by first | omega | (simp only [ByteArray.size_append] at *; omega))])
          simp only [Act.put, List.setIfInBounds_toArray, List.set_cons_zero, List.set_cons_succ]
          refine wpAnyH_take (i := 5) (oi := { dst := some 43, op := Go.Op.fieldAddr 37 (Go.Operand.tmp 42) 0, type := 0, pos := _, after := #[{ on := 4, ground := Go.Ground.data }], guard := none }) (v := ?_) rfl (by kernel_rfl) (by kernel_rfl) (by kernel_rfl) (fun _ _ _ h => h) (Or.inl ⟨by rfl, ?_⟩) (by assumption) ?_
          rotate_left
          · intro w hSw; (try dsimp only at hSw); go_simp <;> first | with_reducible rfl | (rw [if_neg (by first | omega | (simp only [ByteArray.size_append] at *; omega))])
          simp only [Act.put, List.setIfInBounds_toArray, List.set_cons_zero, List.set_cons_succ]
          refine wpAnyH_take (i := 6) (oi := { dst := some 44, op := Go.Op.load 9 (Go.Operand.tmp 43), type := 9, pos := _, after := #[{ on := 5, ground := Go.Ground.data }], guard := none }) (v := ?_) rfl (by kernel_rfl) (by kernel_rfl) (by kernel_rfl) (fun _ _ _ h => h) (Or.inl ⟨by rfl, ?_⟩) (by assumption) ?_
          rotate_left
          · intro w hSw; (try dsimp only at hSw); go_simp <;> first | with_reducible rfl | (rw [if_neg (by first | omega | (simp only [ByteArray.size_append] at *; omega))])
          simp only [Act.put, List.setIfInBounds_toArray, List.set_cons_zero, List.set_cons_succ]
          refine wpAnyH_take (i := 7) (oi := { dst := some 45, op := Go.Op.build 40 #[(0, Go.Operand.tmp 44)], type := 40, pos := _, after := #[{ on := 6, ground := Go.Ground.data }], guard := none }) (v := ?_) rfl (by kernel_rfl) (by kernel_rfl) (by kernel_rfl) (fun _ _ _ h => h) (Or.inl ⟨by rfl, ?_⟩) (by assumption) ?_
          rotate_left
          · intro w hSw; (try dsimp only at hSw); go_simp <;> first | with_reducible rfl | (rw [if_neg (by first | omega | (simp only [ByteArray.size_append] at *; omega))])
          simp only [Act.put, List.setIfInBounds_toArray, List.set_cons_zero, List.set_cons_succ]
          refine wpAnyH_ready (rs := [1, 8]) (by kernel_rfl) (by simp) ?_
          refine AllReadyH.cons (o := { dst := some 39, op := Go.Op.load 23 (Go.Operand.tmp 38), type := 23, pos := _, after := #[{ on := 0, ground := Go.Ground.data }], guard := none }) rfl (fun K hK => ?_) (AllReadyH.cons (o := { dst := some 46, op := Go.Op.buildSlice 23 1 #[(0, Go.Operand.tmp 45)], type := 23, pos := _, after := #[{ on := 7, ground := Go.Ground.data }], guard := none }) rfl (fun K hK => ?_) AllReadyH.nil)
          · go_simp
            go_wp2_with fail
            refine hK.out _ _ ?_ (fun hHeld1 => ?_)
            · exact y0
            clear hK K
            refine wpAnyH_ready (rs := [8]) (by kernel_rfl) (by simp) ?_
            refine AllReadyH.cons (o := { dst := some 46, op := Go.Op.buildSlice 23 1 #[(0, Go.Operand.tmp 45)], type := 23, pos := _, after := #[{ on := 7, ground := Go.Ground.data }], guard := none }) rfl (fun K hK => ?_) AllReadyH.nil
            go_simp
            go_wp2_with fail
            refine hK.out _ _ ?_ (fun hHeld2 => ?_)
            · exact y0a
            clear hK K
            refine wpAnyH_ready (rs := [9]) (by kernel_rfl) (by simp) ?_
            refine AllReadyH.cons (o := { dst := some 47, op := Go.Op.call { callee := Go.Callee.builtin Go.Builtin.append, args := #[Go.Operand.tmp 39, Go.Operand.tmp 46], argTypes := #[23, 23] }, type := 23, pos := _, after := #[{ on := 1, ground := Go.Ground.data }, { on := 8, ground := Go.Ground.data }], guard := none }) rfl (fun K hK => ?_) AllReadyH.nil
            refine if_take (by rfl) ?_
            refine wp_append_at (.tmp 39) (.tmp 46) 23 rfl w6.heap.size 40 i0 _ 8 96 Tryd.underlying23 hi hz0 hz1 hz2 rfl (by decide) v _ _ rfl ((HQ.out.own.drew).alloc _) ⟨wr.drew.heap.size, 0, none⟩ 1 1 (fl8 z.1) rfl rfl (World.news_of_block (cs := #[.string z.1, .int .u8 0, .int .i64 0, .int .i64 0, .int .u8 0, .int .i64 0, .string ⟨#[]⟩, .slice none 0 0]) (t := 40) (fr := (0, 0)) (heap_alloc_new wr.drew _)) (by simp [Value.oneCell', fl8]) hmx (by omega) (by have := HQ.out.below.size; simp; omega) ?_
            intro v8 W8 hown8 hgrow8 _ hat8
            obtain ⟨gg, cap9, rfl⟩ := row_pos hown8 (by omega)
            have hrow8 := HQ.out.rows HBA.out hgrow8
            have c8 := (cell_of_row W8 qb 2 _ 26 (0, 0) hrow8).trans (show _ = some v from rfl)
            have f8 := frozen_of_row W8 qb 2 _ 26 hrow8
            have TA := hid (HQ.out.grow (x := z.1) HBA.out hown8 hgrow8 hat8)
            have yw : W8.cell? ⟨gb, r * 2, none⟩ = some (.string z.1) := cell_kept (hcc0.out) (HB6.out.trans (Below.refl _ _) |>.trans ((HQ.out.below.trans (HBA.out.mono HQ.out.below.size)).grown hgrow8 ((HQ.out.below.trans (HBA.out.mono HQ.out.below.size)).size) (fun j hj => (HQ.out.own.lt j hj).1)))
            refine hK.out _ _ ?_ (fun hHeld3 => ?_)
            · exact yw
            clear hK K
            refine wpAnyH_take (i := 10) (oi := { dst := some 48, op := Go.Op.fieldAddr 26 (Go.Operand.tmp 6) 2, type := 0, pos := _, after := #[{ on := 0, ground := Go.Ground.phase }, { on := 1, ground := Go.Ground.phase }, { on := 2, ground := Go.Ground.phase }, { on := 3, ground := Go.Ground.phase }, { on := 4, ground := Go.Ground.phase }, { on := 5, ground := Go.Ground.phase }, { on := 6, ground := Go.Ground.phase }, { on := 7, ground := Go.Ground.phase }, { on := 8, ground := Go.Ground.phase }, { on := 9, ground := Go.Ground.phase }], guard := none }) (v := ?_) rfl (by kernel_rfl) (by kernel_rfl) (by kernel_rfl) (fun _ _ _ h => h) (Or.inl ⟨by rfl, ?_⟩) (by assumption) ?_
            rotate_left
            · intro w hSw; (try dsimp only at hSw); go_simp <;> first | with_reducible rfl | (rw [if_neg (by first | omega | (simp only [ByteArray.size_append] at *; omega))])
            simp only [Act.put, List.setIfInBounds_toArray, List.set_cons_zero, List.set_cons_succ]
            refine wpAnyH_ready (rs := [11]) (by kernel_rfl) (by simp) ?_
            refine AllReadyH.cons (o := { dst := none, op := Go.Op.store 23 (Go.Operand.tmp 48) (Go.Operand.tmp 47), type := 0, pos := _, after := #[{ on := 10, ground := Go.Ground.data }, { on := 9, ground := Go.Ground.data }, { on := 9, ground := Go.Ground.chain }, { on := 0, ground := Go.Ground.phase }, { on := 1, ground := Go.Ground.phase }, { on := 2, ground := Go.Ground.phase }, { on := 3, ground := Go.Ground.phase }, { on := 4, ground := Go.Ground.phase }, { on := 5, ground := Go.Ground.phase }, { on := 6, ground := Go.Ground.phase }, { on := 7, ground := Go.Ground.phase }, { on := 8, ground := Go.Ground.phase }, { on := 9, ground := Go.Ground.phase }], guard := none }) rfl (fun K hK => ?_) AllReadyH.nil
            go_simp
            go_wp2_with fail
            have yv := cell_kept hcc0.out TA.out.below
            refine hK.out _ _ ?_ (fun hHeld4 => ?_)
            · exact yv
            clear hK K
            refine wpAnyH_done (by kernel_rfl) ?_ _
            clear c8 f8 hrow8 hown8 hgrow8 hat8 yw
            generalize W8.setCell ⟨qb, 2, none⟩ (.slice (some ⟨gg, 0, none⟩) (L.length + 1) cap9) = V at *
            have XV := hid (X6.out.keep TA.out.below)
            obtain ⟨s0, s1, s2, s3⟩ := XV.out.pcs
            have c21 := find p z.1 V.drew _ _ _ (XV.out.P.keep (Below.refl _ _).drew)
            obtain ⟨v1, v2, v3, hfo⟩ := foV_some (findT (thingsL p) z.1)
            rw [hfo] at c21
            have HTH2 : Hid (((G.take (r + 1)).all fun z => (findT (thingsL p) z.1).isSome) = (th && (findT (thingsL p) z.1).isSome)) := hid (by rw [HTK.out, List.all_append, HTH.out]; simp)
            generalize (findT (thingsL p) z.1).isSome = bo at *
            clear hfo
            go_wp2_with (fail)
            refine wp_region_held_drew (S := fun W => W.cell? ⟨w.heap.size, 0, none⟩ = some (.int .i64 p.st) ∧ W.cell? ⟨w.heap.size, 1, none⟩ = some ((.slice a0 p.ins.length a1)) ∧ W.cell? ⟨w.heap.size, 2, none⟩ = some ((.slice b0 p.flows.length b1)) ∧ W.cell? ⟨w.heap.size, 3, none⟩ = some ((.slice c0 p.outs.length c1)) ∧ W.cell? ⟨gb, r * 2, none⟩ = some (.string z.1)) (by kernel_rfl) ?_ (fun hHeld => ?_)
            · exact ⟨s0, s1, s2, s3, yv⟩
            refine wpAnyH_take (i := 0) (oi := { dst := some 50, op := Go.Op.load 26 (Go.Operand.tmp 2), type := 26, pos := _, after := #[], guard := none }) (v := ?_) rfl (by kernel_rfl) (by kernel_rfl) (by kernel_rfl) (fun _ _ _ h => h) (Or.inl ⟨by rfl, ?_⟩) (by assumption) ?_
            rotate_left
            · intro w hSw; (try dsimp only at hSw); go_simp <;> first | with_reducible rfl | (rw [if_neg (by first | omega | (simp only [ByteArray.size_append] at *; omega))])
            simp only [Act.put, List.setIfInBounds_toArray, List.set_cons_zero, List.set_cons_succ]
            refine wpAnyH_take (i := 1) (oi := { dst := some 51, op := Go.Op.move (Go.Operand.tmp 5), type := 34, pos := _, after := #[], guard := none }) (v := ?_) rfl (by kernel_rfl) (by kernel_rfl) (by kernel_rfl) (fun _ _ _ h => h) (Or.inl ⟨by rfl, ?_⟩) (by assumption) ?_
            rotate_left
            · intro w hSw; (try dsimp only at hSw); go_simp <;> first | with_reducible rfl | (rw [if_neg (by first | omega | (simp only [ByteArray.size_append] at *; omega))])
            simp only [Act.put, List.setIfInBounds_toArray, List.set_cons_zero, List.set_cons_succ]
            refine wpAnyH_take (i := 2) (oi := { dst := some 52, op := Go.Op.move (Go.Operand.tmp 8), type := 3, pos := _, after := #[], guard := none }) (v := ?_) rfl (by kernel_rfl) (by kernel_rfl) (by kernel_rfl) (fun _ _ _ h => h) (Or.inl ⟨by rfl, ?_⟩) (by assumption) ?_
            rotate_left
            · intro w hSw; (try dsimp only at hSw); go_simp <;> first | with_reducible rfl | (rw [if_neg (by first | omega | (simp only [ByteArray.size_append] at *; omega))])
            simp only [Act.put, List.setIfInBounds_toArray, List.set_cons_zero, List.set_cons_succ]
            refine wpAnyH_take (i := 3) (oi := { dst := some 53, op := Go.Op.indexAddr 34 (Go.Operand.tmp 51) (Go.Operand.tmp 52), type := 0, pos := _, after := #[{ on := 1, ground := Go.Ground.data }, { on := 2, ground := Go.Ground.data }], guard := none }) (v := ?_) rfl (by kernel_rfl) (by kernel_rfl) (by kernel_rfl) (fun _ _ _ h => h) (Or.inl ⟨by rfl, ?_⟩) (by assumption) ?_
            rotate_left
            · intro w hSw; (try dsimp only at hSw); go_simp <;> first | with_reducible rfl | (rw [if_neg (by first | omega | (simp only [ByteArray.size_append] at *; omega))])
            simp only [Act.put, List.setIfInBounds_toArray, List.set_cons_zero, List.set_cons_succ]
            refine wpAnyH_take (i := 4) (oi := { dst := some 54, op := Go.Op.fieldAddr 37 (Go.Operand.tmp 53) 0, type := 0, pos := _, after := #[{ on := 3, ground := Go.Ground.data }], guard := none }) (v := ?_) rfl (by kernel_rfl) (by kernel_rfl) (by kernel_rfl) (fun _ _ _ h => h) (Or.inl ⟨by rfl, ?_⟩) (by assumption) ?_
            rotate_left
            · intro w hSw; (try dsimp only at hSw); go_simp <;> first | with_reducible rfl | (rw [if_neg (by first | omega | (simp only [ByteArray.size_append] at *; omega))])
            simp only [Act.put, List.setIfInBounds_toArray, List.set_cons_zero, List.set_cons_succ]
            refine wpAnyH_take (i := 5) (oi := { dst := some 55, op := Go.Op.load 9 (Go.Operand.tmp 54), type := 9, pos := _, after := #[{ on := 4, ground := Go.Ground.data }], guard := none }) (v := ?_) rfl (by kernel_rfl) (by kernel_rfl) (by kernel_rfl) (fun _ _ _ h => h) (Or.inl ⟨by rfl, ?_⟩) (by assumption) ?_
            rotate_left
            · intro w hSw; (try dsimp only at hSw); go_simp <;> first | with_reducible rfl | (rw [if_neg (by first | omega | (simp only [ByteArray.size_append] at *; omega))])
            simp only [Act.put, List.setIfInBounds_toArray, List.set_cons_zero, List.set_cons_succ]
            refine wpAnyH_ready (rs := [6]) (by kernel_rfl) (by simp) ?_
            refine AllReadyH.cons (o := { dst := some 56, op := Go.Op.call { callee := Go.Callee.value (Go.Operand.func 8), args := #[Go.Operand.tmp 50, Go.Operand.tmp 55], argTypes := #[26, 9] }, type := 41, pos := _, after := #[{ on := 0, ground := Go.Ground.data }, { on := 5, ground := Go.Ground.data }], guard := none }) rfl (fun K hK => ?_) AllReadyH.nil
            go_simp
            refine c21.mono ?_
            rintro e w7 ⟨rfl, hb7'⟩
            have hb7 : Below V.heap.size V w7 := (Below.refl _ _).drew.trans (hb7'.mono (by simp))
            have Q7 := hid (TA.out.keep hb7)
            have XX := hid (XV.out.keep hb7)
            obtain ⟨t0, t1, t2, t3⟩ := XX.out.pcs
            have z0 := cell_kept yv hb7
            go_wp2_with fail
            refine hK.out _ _ ?_ (fun hHeld1 => ?_)
            · exact ⟨t0, t1, t2, t3, z0⟩
            clear hK K
            refine wpAnyH_take (i := 7) (oi := { dst := some 49, op := Go.Op.move (Go.Operand.tmp 56), type := 41, pos := _, after := #[{ on := 6, ground := Go.Ground.data }], guard := none }) (v := ?_) rfl (by kernel_rfl) (by kernel_rfl) (by kernel_rfl) (fun _ _ _ h => h) (Or.inl ⟨by rfl, ?_⟩) (by assumption) ?_
            rotate_left
            · intro w hSw; (try dsimp only at hSw); go_simp <;> first | with_reducible rfl | (rw [if_neg (by first | omega | (simp only [ByteArray.size_append] at *; omega))])
            simp only [Act.put, List.setIfInBounds_toArray, List.set_cons_zero, List.set_cons_succ]
            refine wpAnyH_take (i := 8) (oi := { dst := some 57, op := Go.Op.extract (Go.Operand.tmp 49) 0, type := 3, pos := _, after := #[{ on := 7, ground := Go.Ground.data }], guard := none }) (v := ?_) rfl (by kernel_rfl) (by kernel_rfl) (by kernel_rfl) (fun _ _ _ h => h) (Or.inl ⟨by rfl, ?_⟩) (by assumption) ?_
            rotate_left
            · intro w hSw; (try dsimp only at hSw); go_simp <;> first | with_reducible rfl | (rw [if_neg (by first | omega | (simp only [ByteArray.size_append] at *; omega))])
            simp only [Act.put, List.setIfInBounds_toArray, List.set_cons_zero, List.set_cons_succ]
            refine wpAnyH_take (i := 9) (oi := { dst := some 58, op := Go.Op.extract (Go.Operand.tmp 49) 1, type := 38, pos := _, after := #[{ on := 7, ground := Go.Ground.data }, { on := 12, ground := Go.Ground.gcOnly Go.Departure.lateStores }], guard := none }) (v := ?_) rfl (by kernel_rfl) (by kernel_rfl) (by kernel_rfl) (fun _ _ _ h => h) (Or.inl ⟨by rfl, ?_⟩) (by assumption) ?_
            rotate_left
            · intro w hSw; (try dsimp only at hSw); go_simp <;> first | with_reducible rfl | (rw [if_neg (by first | omega | (simp only [ByteArray.size_append] at *; omega))])
            simp only [Act.put, List.setIfInBounds_toArray, List.set_cons_zero, List.set_cons_succ]
            refine wpAnyH_take (i := 10) (oi := { dst := some 59, op := Go.Op.extract (Go.Operand.tmp 49) 2, type := 3, pos := _, after := #[{ on := 7, ground := Go.Ground.data }, { on := 13, ground := Go.Ground.gcOnly Go.Departure.lateStores }], guard := none }) (v := ?_) rfl (by kernel_rfl) (by kernel_rfl) (by kernel_rfl) (fun _ _ _ h => h) (Or.inl ⟨by rfl, ?_⟩) (by assumption) ?_
            rotate_left
            · intro w hSw; (try dsimp only at hSw); go_simp <;> first | with_reducible rfl | (rw [if_neg (by first | omega | (simp only [ByteArray.size_append] at *; omega))])
            simp only [Act.put, List.setIfInBounds_toArray, List.set_cons_zero, List.set_cons_succ]
            refine wpAnyH_take (i := 11) (oi := { dst := some 60, op := Go.Op.extract (Go.Operand.tmp 49) 3, type := 4, pos := _, after := #[{ on := 7, ground := Go.Ground.data }, { on := 14, ground := Go.Ground.gcOnly Go.Departure.lateStores }], guard := none }) (v := ?_) rfl (by kernel_rfl) (by kernel_rfl) (by kernel_rfl) (fun _ _ _ h => h) (Or.inl ⟨by rfl, ?_⟩) (by assumption) ?_
            rotate_left
            · intro w hSw; (try dsimp only at hSw); go_simp <;> first | with_reducible rfl | (rw [if_neg (by first | omega | (simp only [ByteArray.size_append] at *; omega))])
            simp only [Act.put, List.setIfInBounds_toArray, List.set_cons_zero, List.set_cons_succ]
            refine wpAnyH_take (i := 12) (oi := { dst := some 9, op := Go.Op.assign (Go.Operand.tmp 57), type := 3, pos := _, after := #[{ on := 8, ground := Go.Ground.data }, { on := 6, ground := Go.Ground.chain }, { on := 0, ground := Go.Ground.phase }, { on := 1, ground := Go.Ground.phase }, { on := 2, ground := Go.Ground.phase }, { on := 3, ground := Go.Ground.phase }, { on := 4, ground := Go.Ground.phase }, { on := 5, ground := Go.Ground.phase }, { on := 6, ground := Go.Ground.phase }, { on := 7, ground := Go.Ground.phase }, { on := 8, ground := Go.Ground.phase }, { on := 9, ground := Go.Ground.textOnly Go.Departure.lateStores }, { on := 10, ground := Go.Ground.textOnly Go.Departure.lateStores }, { on := 11, ground := Go.Ground.textOnly Go.Departure.lateStores }], guard := none }) (v := ?_) rfl (by kernel_rfl) (by kernel_rfl) (by kernel_rfl) (fun _ _ _ h => h) (Or.inl ⟨by rfl, ?_⟩) (by assumption) ?_
            rotate_left
            · intro w hSw; (try dsimp only at hSw); go_simp <;> first | with_reducible rfl | (rw [if_neg (by first | omega | (simp only [ByteArray.size_append] at *; omega))])
            simp only [Act.put, List.setIfInBounds_toArray, List.set_cons_zero, List.set_cons_succ]
            refine wpAnyH_take (i := 13) (oi := { dst := some 10, op := Go.Op.assign (Go.Operand.tmp 58), type := 38, pos := _, after := #[{ on := 9, ground := Go.Ground.data }, { on := 12, ground := Go.Ground.chain }, { on := 0, ground := Go.Ground.phase }, { on := 1, ground := Go.Ground.phase }, { on := 2, ground := Go.Ground.phase }, { on := 3, ground := Go.Ground.phase }, { on := 4, ground := Go.Ground.phase }, { on := 5, ground := Go.Ground.phase }, { on := 6, ground := Go.Ground.phase }, { on := 7, ground := Go.Ground.phase }, { on := 8, ground := Go.Ground.phase }, { on := 9, ground := Go.Ground.phase }, { on := 10, ground := Go.Ground.textOnly Go.Departure.lateStores }, { on := 11, ground := Go.Ground.textOnly Go.Departure.lateStores }, { on := 12, ground := Go.Ground.phase }], guard := none }) (v := ?_) rfl (by kernel_rfl) (by kernel_rfl) (by kernel_rfl) (fun _ _ _ h => h) (Or.inl ⟨by rfl, ?_⟩) (by assumption) ?_
            rotate_left
            · intro w hSw; (try dsimp only at hSw); go_simp <;> first | with_reducible rfl | (rw [if_neg (by first | omega | (simp only [ByteArray.size_append] at *; omega))])
            simp only [Act.put, List.setIfInBounds_toArray, List.set_cons_zero, List.set_cons_succ]
            refine wpAnyH_take (i := 14) (oi := { dst := some 11, op := Go.Op.assign (Go.Operand.tmp 59), type := 3, pos := _, after := #[{ on := 10, ground := Go.Ground.data }, { on := 13, ground := Go.Ground.chain }, { on := 0, ground := Go.Ground.phase }, { on := 1, ground := Go.Ground.phase }, { on := 2, ground := Go.Ground.phase }, { on := 3, ground := Go.Ground.phase }, { on := 4, ground := Go.Ground.phase }, { on := 5, ground := Go.Ground.phase }, { on := 6, ground := Go.Ground.phase }, { on := 7, ground := Go.Ground.phase }, { on := 8, ground := Go.Ground.phase }, { on := 9, ground := Go.Ground.phase }, { on := 10, ground := Go.Ground.phase }, { on := 11, ground := Go.Ground.textOnly Go.Departure.lateStores }, { on := 12, ground := Go.Ground.phase }, { on := 13, ground := Go.Ground.phase }], guard := none }) (v := ?_) rfl (by kernel_rfl) (by kernel_rfl) (by kernel_rfl) (fun _ _ _ h => h) (Or.inl ⟨by rfl, ?_⟩) (by assumption) ?_
            rotate_left
            · intro w hSw; (try dsimp only at hSw); go_simp <;> first | with_reducible rfl | (rw [if_neg (by first | omega | (simp only [ByteArray.size_append] at *; omega))])
            simp only [Act.put, List.setIfInBounds_toArray, List.set_cons_zero, List.set_cons_succ]
            refine wpAnyH_take (i := 15) (oi := { dst := some 12, op := Go.Op.assign (Go.Operand.tmp 60), type := 4, pos := _, after := #[{ on := 11, ground := Go.Ground.data }, { on := 14, ground := Go.Ground.chain }, { on := 0, ground := Go.Ground.phase }, { on := 1, ground := Go.Ground.phase }, { on := 2, ground := Go.Ground.phase }, { on := 3, ground := Go.Ground.phase }, { on := 4, ground := Go.Ground.phase }, { on := 5, ground := Go.Ground.phase }, { on := 6, ground := Go.Ground.phase }, { on := 7, ground := Go.Ground.phase }, { on := 8, ground := Go.Ground.phase }, { on := 9, ground := Go.Ground.phase }, { on := 10, ground := Go.Ground.phase }, { on := 11, ground := Go.Ground.phase }, { on := 12, ground := Go.Ground.phase }, { on := 13, ground := Go.Ground.phase }, { on := 14, ground := Go.Ground.phase }], guard := none }) (v := ?_) rfl (by kernel_rfl) (by kernel_rfl) (by kernel_rfl) (fun _ _ _ h => h) (Or.inl ⟨by rfl, ?_⟩) (by assumption) ?_
            rotate_left
            · intro w hSw; (try dsimp only at hSw); go_simp <;> first | with_reducible rfl | (rw [if_neg (by first | omega | (simp only [ByteArray.size_append] at *; omega))])
            simp only [Act.put, List.setIfInBounds_toArray, List.set_cons_zero, List.set_cons_succ]
            refine wpAnyH_done (by kernel_rfl) ?_ _
            clear s0 s1 s2 s3 t0 t1 t2 t3 yv z0 c21 hb7 hb7'
            cases th with
            | true =>
              go_wp2_with (fail)
              go_roundw
              case rel => exact ⟨r + 1, by omega, by rw [HTH2.out]; rfl, by go_num, hid ⟨_, by rw [HTK2.out]; exact Q7.out⟩⟩
              case measure => simp [intOf]; omega
            | false =>
              go_wp2_with (fail)
              go_roundw
              case rel => exact ⟨r + 1, by omega, by rw [HTH2.out]; rfl, by go_num, hid ⟨_, by rw [HTK2.out]; exact Q7.out⟩⟩
              case measure => simp [intOf]; omega
          · go_simp
            go_wp2_with fail
            refine hK.out _ _ ?_ (fun hHeld1 => ?_)
            · exact y0a
            clear hK K
            refine wpAnyH_ready (rs := [1]) (by kernel_rfl) (by simp) ?_
            refine AllReadyH.cons (o := { dst := some 39, op := Go.Op.load 23 (Go.Operand.tmp 38), type := 23, pos := _, after := #[{ on := 0, ground := Go.Ground.data }], guard := none }) rfl (fun K hK => ?_) AllReadyH.nil
            go_simp
            go_wp2_with fail
            refine hK.out _ _ ?_ (fun hHeld2 => ?_)
            · exact y0a
            clear hK K
            refine wpAnyH_ready (rs := [9]) (by kernel_rfl) (by simp) ?_
            refine AllReadyH.cons (o := { dst := some 47, op := Go.Op.call { callee := Go.Callee.builtin Go.Builtin.append, args := #[Go.Operand.tmp 39, Go.Operand.tmp 46], argTypes := #[23, 23] }, type := 23, pos := _, after := #[{ on := 1, ground := Go.Ground.data }, { on := 8, ground := Go.Ground.data }], guard := none }) rfl (fun K hK => ?_) AllReadyH.nil
            refine if_take (by rfl) ?_
            refine wp_append_at (.tmp 39) (.tmp 46) 23 rfl w6.heap.size 40 i0 _ 8 96 Tryd.underlying23 hi hz0 hz1 hz2 rfl (by decide) v _ _ rfl ((HQ.out.own.drew).alloc _) ⟨wr.drew.heap.size, 0, none⟩ 1 1 (fl8 z.1) rfl rfl (World.news_of_block (cs := #[.string z.1, .int .u8 0, .int .i64 0, .int .i64 0, .int .u8 0, .int .i64 0, .string ⟨#[]⟩, .slice none 0 0]) (t := 40) (fr := (0, 0)) (heap_alloc_new wr.drew _)) (by simp [Value.oneCell', fl8]) hmx (by omega) (by have := HQ.out.below.size; simp; omega) ?_
            intro v8 W8 hown8 hgrow8 _ hat8
            obtain ⟨gg, cap9, rfl⟩ := row_pos hown8 (by omega)
            have hrow8 := HQ.out.rows HBA.out hgrow8
            have c8 := (cell_of_row W8 qb 2 _ 26 (0, 0) hrow8).trans (show _ = some v from rfl)
            have f8 := frozen_of_row W8 qb 2 _ 26 hrow8
            have TA := hid (HQ.out.grow (x := z.1) HBA.out hown8 hgrow8 hat8)
            have yw : W8.cell? ⟨gb, r * 2, none⟩ = some (.string z.1) := cell_kept (hcc0.out) (HB6.out.trans (Below.refl _ _) |>.trans ((HQ.out.below.trans (HBA.out.mono HQ.out.below.size)).grown hgrow8 ((HQ.out.below.trans (HBA.out.mono HQ.out.below.size)).size) (fun j hj => (HQ.out.own.lt j hj).1)))
            refine hK.out _ _ ?_ (fun hHeld3 => ?_)
            · exact yw
            clear hK K
            refine wpAnyH_take (i := 10) (oi := { dst := some 48, op := Go.Op.fieldAddr 26 (Go.Operand.tmp 6) 2, type := 0, pos := _, after := #[{ on := 0, ground := Go.Ground.phase }, { on := 1, ground := Go.Ground.phase }, { on := 2, ground := Go.Ground.phase }, { on := 3, ground := Go.Ground.phase }, { on := 4, ground := Go.Ground.phase }, { on := 5, ground := Go.Ground.phase }, { on := 6, ground := Go.Ground.phase }, { on := 7, ground := Go.Ground.phase }, { on := 8, ground := Go.Ground.phase }, { on := 9, ground := Go.Ground.phase }], guard := none }) (v := ?_) rfl (by kernel_rfl) (by kernel_rfl) (by kernel_rfl) (fun _ _ _ h => h) (Or.inl ⟨by rfl, ?_⟩) (by assumption) ?_
            rotate_left
            · intro w hSw; (try dsimp only at hSw); go_simp <;> first | with_reducible rfl | (rw [if_neg (by first | omega | (simp only [ByteArray.size_append] at *; omega))])
            simp only [Act.put, List.setIfInBounds_toArray, List.set_cons_zero, List.set_cons_succ]
            refine wpAnyH_ready (rs := [11]) (by kernel_rfl) (by simp) ?_
            refine AllReadyH.cons (o := { dst := none, op := Go.Op.store 23 (Go.Operand.tmp 48) (Go.Operand.tmp 47), type := 0, pos := _, after := #[{ on := 10, ground := Go.Ground.data }, { on := 9, ground := Go.Ground.data }, { on := 9, ground := Go.Ground.chain }, { on := 0, ground := Go.Ground.phase }, { on := 1, ground := Go.Ground.phase }, { on := 2, ground := Go.Ground.phase }, { on := 3, ground := Go.Ground.phase }, { on := 4, ground := Go.Ground.phase }, { on := 5, ground := Go.Ground.phase }, { on := 6, ground := Go.Ground.phase }, { on := 7, ground := Go.Ground.phase }, { on := 8, ground := Go.Ground.phase }, { on := 9, ground := Go.Ground.phase }], guard := none }) rfl (fun K hK => ?_) AllReadyH.nil
            go_simp
            go_wp2_with fail
            have yv := cell_kept hcc0.out TA.out.below
            refine hK.out _ _ ?_ (fun hHeld4 => ?_)
            · exact yv
            clear hK K
            refine wpAnyH_done (by kernel_rfl) ?_ _
            clear c8 f8 hrow8 hown8 hgrow8 hat8 yw
            generalize W8.setCell ⟨qb, 2, none⟩ (.slice (some ⟨gg, 0, none⟩) (L.length + 1) cap9) = V at *
            have XV := hid (X6.out.keep TA.out.below)
            obtain ⟨s0, s1, s2, s3⟩ := XV.out.pcs
            have c21 := find p z.1 V.drew _ _ _ (XV.out.P.keep (Below.refl _ _).drew)
            obtain ⟨v1, v2, v3, hfo⟩ := foV_some (findT (thingsL p) z.1)
            rw [hfo] at c21
            have HTH2 : Hid (((G.take (r + 1)).all fun z => (findT (thingsL p) z.1).isSome) = (th && (findT (thingsL p) z.1).isSome)) := hid (by rw [HTK.out, List.all_append, HTH.out]; simp)
            generalize (findT (thingsL p) z.1).isSome = bo at *
            clear hfo
            go_wp2_with (fail)
            refine wp_region_held_drew (S := fun W => W.cell? ⟨w.heap.size, 0, none⟩ = some (.int .i64 p.st) ∧ W.cell? ⟨w.heap.size, 1, none⟩ = some ((.slice a0 p.ins.length a1)) ∧ W.cell? ⟨w.heap.size, 2, none⟩ = some ((.slice b0 p.flows.length b1)) ∧ W.cell? ⟨w.heap.size, 3, none⟩ = some ((.slice c0 p.outs.length c1)) ∧ W.cell? ⟨gb, r * 2, none⟩ = some (.string z.1)) (by kernel_rfl) ?_ (fun hHeld => ?_)
            · exact ⟨s0, s1, s2, s3, yv⟩
            refine wpAnyH_take (i := 0) (oi := { dst := some 50, op := Go.Op.load 26 (Go.Operand.tmp 2), type := 26, pos := _, after := #[], guard := none }) (v := ?_) rfl (by kernel_rfl) (by kernel_rfl) (by kernel_rfl) (fun _ _ _ h => h) (Or.inl ⟨by rfl, ?_⟩) (by assumption) ?_
            rotate_left
            · intro w hSw; (try dsimp only at hSw); go_simp <;> first | with_reducible rfl | (rw [if_neg (by first | omega | (simp only [ByteArray.size_append] at *; omega))])
            simp only [Act.put, List.setIfInBounds_toArray, List.set_cons_zero, List.set_cons_succ]
            refine wpAnyH_take (i := 1) (oi := { dst := some 51, op := Go.Op.move (Go.Operand.tmp 5), type := 34, pos := _, after := #[], guard := none }) (v := ?_) rfl (by kernel_rfl) (by kernel_rfl) (by kernel_rfl) (fun _ _ _ h => h) (Or.inl ⟨by rfl, ?_⟩) (by assumption) ?_
            rotate_left
            · intro w hSw; (try dsimp only at hSw); go_simp <;> first | with_reducible rfl | (rw [if_neg (by first | omega | (simp only [ByteArray.size_append] at *; omega))])
            simp only [Act.put, List.setIfInBounds_toArray, List.set_cons_zero, List.set_cons_succ]
            refine wpAnyH_take (i := 2) (oi := { dst := some 52, op := Go.Op.move (Go.Operand.tmp 8), type := 3, pos := _, after := #[], guard := none }) (v := ?_) rfl (by kernel_rfl) (by kernel_rfl) (by kernel_rfl) (fun _ _ _ h => h) (Or.inl ⟨by rfl, ?_⟩) (by assumption) ?_
            rotate_left
            · intro w hSw; (try dsimp only at hSw); go_simp <;> first | with_reducible rfl | (rw [if_neg (by first | omega | (simp only [ByteArray.size_append] at *; omega))])
            simp only [Act.put, List.setIfInBounds_toArray, List.set_cons_zero, List.set_cons_succ]
            refine wpAnyH_take (i := 3) (oi := { dst := some 53, op := Go.Op.indexAddr 34 (Go.Operand.tmp 51) (Go.Operand.tmp 52), type := 0, pos := _, after := #[{ on := 1, ground := Go.Ground.data }, { on := 2, ground := Go.Ground.data }], guard := none }) (v := ?_) rfl (by kernel_rfl) (by kernel_rfl) (by kernel_rfl) (fun _ _ _ h => h) (Or.inl ⟨by rfl, ?_⟩) (by assumption) ?_
            rotate_left
            · intro w hSw; (try dsimp only at hSw); go_simp <;> first | with_reducible rfl | (rw [if_neg (by first | omega | (simp only [ByteArray.size_append] at *; omega))])
            simp only [Act.put, List.setIfInBounds_toArray, List.set_cons_zero, List.set_cons_succ]
            refine wpAnyH_take (i := 4) (oi := { dst := some 54, op := Go.Op.fieldAddr 37 (Go.Operand.tmp 53) 0, type := 0, pos := _, after := #[{ on := 3, ground := Go.Ground.data }], guard := none }) (v := ?_) rfl (by kernel_rfl) (by kernel_rfl) (by kernel_rfl) (fun _ _ _ h => h) (Or.inl ⟨by rfl, ?_⟩) (by assumption) ?_
            rotate_left
            · intro w hSw; (try dsimp only at hSw); go_simp <;> first | with_reducible rfl | (rw [if_neg (by first | omega | (simp only [ByteArray.size_append] at *; omega))])
            simp only [Act.put, List.setIfInBounds_toArray, List.set_cons_zero, List.set_cons_succ]
            refine wpAnyH_take (i := 5) (oi := { dst := some 55, op := Go.Op.load 9 (Go.Operand.tmp 54), type := 9, pos := _, after := #[{ on := 4, ground := Go.Ground.data }], guard := none }) (v := ?_) rfl (by kernel_rfl) (by kernel_rfl) (by kernel_rfl) (fun _ _ _ h => h) (Or.inl ⟨by rfl, ?_⟩) (by assumption) ?_
            rotate_left
            · intro w hSw; (try dsimp only at hSw); go_simp <;> first | with_reducible rfl | (rw [if_neg (by first | omega | (simp only [ByteArray.size_append] at *; omega))])
            simp only [Act.put, List.setIfInBounds_toArray, List.set_cons_zero, List.set_cons_succ]
            refine wpAnyH_ready (rs := [6]) (by kernel_rfl) (by simp) ?_
            refine AllReadyH.cons (o := { dst := some 56, op := Go.Op.call { callee := Go.Callee.value (Go.Operand.func 8), args := #[Go.Operand.tmp 50, Go.Operand.tmp 55], argTypes := #[26, 9] }, type := 41, pos := _, after := #[{ on := 0, ground := Go.Ground.data }, { on := 5, ground := Go.Ground.data }], guard := none }) rfl (fun K hK => ?_) AllReadyH.nil
            go_simp
            refine c21.mono ?_
            rintro e w7 ⟨rfl, hb7'⟩
            have hb7 : Below V.heap.size V w7 := (Below.refl _ _).drew.trans (hb7'.mono (by simp))
            have Q7 := hid (TA.out.keep hb7)
            have XX := hid (XV.out.keep hb7)
            obtain ⟨t0, t1, t2, t3⟩ := XX.out.pcs
            have z0 := cell_kept yv hb7
            go_wp2_with fail
            refine hK.out _ _ ?_ (fun hHeld1 => ?_)
            · exact ⟨t0, t1, t2, t3, z0⟩
            clear hK K
            refine wpAnyH_take (i := 7) (oi := { dst := some 49, op := Go.Op.move (Go.Operand.tmp 56), type := 41, pos := _, after := #[{ on := 6, ground := Go.Ground.data }], guard := none }) (v := ?_) rfl (by kernel_rfl) (by kernel_rfl) (by kernel_rfl) (fun _ _ _ h => h) (Or.inl ⟨by rfl, ?_⟩) (by assumption) ?_
            rotate_left
            · intro w hSw; (try dsimp only at hSw); go_simp <;> first | with_reducible rfl | (rw [if_neg (by first | omega | (simp only [ByteArray.size_append] at *; omega))])
            simp only [Act.put, List.setIfInBounds_toArray, List.set_cons_zero, List.set_cons_succ]
            refine wpAnyH_take (i := 8) (oi := { dst := some 57, op := Go.Op.extract (Go.Operand.tmp 49) 0, type := 3, pos := _, after := #[{ on := 7, ground := Go.Ground.data }], guard := none }) (v := ?_) rfl (by kernel_rfl) (by kernel_rfl) (by kernel_rfl) (fun _ _ _ h => h) (Or.inl ⟨by rfl, ?_⟩) (by assumption) ?_
            rotate_left
            · intro w hSw; (try dsimp only at hSw); go_simp <;> first | with_reducible rfl | (rw [if_neg (by first | omega | (simp only [ByteArray.size_append] at *; omega))])
            simp only [Act.put, List.setIfInBounds_toArray, List.set_cons_zero, List.set_cons_succ]
            refine wpAnyH_take (i := 9) (oi := { dst := some 58, op := Go.Op.extract (Go.Operand.tmp 49) 1, type := 38, pos := _, after := #[{ on := 7, ground := Go.Ground.data }, { on := 12, ground := Go.Ground.gcOnly Go.Departure.lateStores }], guard := none }) (v := ?_) rfl (by kernel_rfl) (by kernel_rfl) (by kernel_rfl) (fun _ _ _ h => h) (Or.inl ⟨by rfl, ?_⟩) (by assumption) ?_
            rotate_left
            · intro w hSw; (try dsimp only at hSw); go_simp <;> first | with_reducible rfl | (rw [if_neg (by first | omega | (simp only [ByteArray.size_append] at *; omega))])
            simp only [Act.put, List.setIfInBounds_toArray, List.set_cons_zero, List.set_cons_succ]
            refine wpAnyH_take (i := 10) (oi := { dst := some 59, op := Go.Op.extract (Go.Operand.tmp 49) 2, type := 3, pos := _, after := #[{ on := 7, ground := Go.Ground.data }, { on := 13, ground := Go.Ground.gcOnly Go.Departure.lateStores }], guard := none }) (v := ?_) rfl (by kernel_rfl) (by kernel_rfl) (by kernel_rfl) (fun _ _ _ h => h) (Or.inl ⟨by rfl, ?_⟩) (by assumption) ?_
            rotate_left
            · intro w hSw; (try dsimp only at hSw); go_simp <;> first | with_reducible rfl | (rw [if_neg (by first | omega | (simp only [ByteArray.size_append] at *; omega))])
            simp only [Act.put, List.setIfInBounds_toArray, List.set_cons_zero, List.set_cons_succ]
            refine wpAnyH_take (i := 11) (oi := { dst := some 60, op := Go.Op.extract (Go.Operand.tmp 49) 3, type := 4, pos := _, after := #[{ on := 7, ground := Go.Ground.data }, { on := 14, ground := Go.Ground.gcOnly Go.Departure.lateStores }], guard := none }) (v := ?_) rfl (by kernel_rfl) (by kernel_rfl) (by kernel_rfl) (fun _ _ _ h => h) (Or.inl ⟨by rfl, ?_⟩) (by assumption) ?_
            rotate_left
            · intro w hSw; (try dsimp only at hSw); go_simp <;> first | with_reducible rfl | (rw [if_neg (by first | omega | (simp only [ByteArray.size_append] at *; omega))])
            simp only [Act.put, List.setIfInBounds_toArray, List.set_cons_zero, List.set_cons_succ]
            refine wpAnyH_take (i := 12) (oi := { dst := some 9, op := Go.Op.assign (Go.Operand.tmp 57), type := 3, pos := _, after := #[{ on := 8, ground := Go.Ground.data }, { on := 6, ground := Go.Ground.chain }, { on := 0, ground := Go.Ground.phase }, { on := 1, ground := Go.Ground.phase }, { on := 2, ground := Go.Ground.phase }, { on := 3, ground := Go.Ground.phase }, { on := 4, ground := Go.Ground.phase }, { on := 5, ground := Go.Ground.phase }, { on := 6, ground := Go.Ground.phase }, { on := 7, ground := Go.Ground.phase }, { on := 8, ground := Go.Ground.phase }, { on := 9, ground := Go.Ground.textOnly Go.Departure.lateStores }, { on := 10, ground := Go.Ground.textOnly Go.Departure.lateStores }, { on := 11, ground := Go.Ground.textOnly Go.Departure.lateStores }], guard := none }) (v := ?_) rfl (by kernel_rfl) (by kernel_rfl) (by kernel_rfl) (fun _ _ _ h => h) (Or.inl ⟨by rfl, ?_⟩) (by assumption) ?_
            rotate_left
            · intro w hSw; (try dsimp only at hSw); go_simp <;> first | with_reducible rfl | (rw [if_neg (by first | omega | (simp only [ByteArray.size_append] at *; omega))])
            simp only [Act.put, List.setIfInBounds_toArray, List.set_cons_zero, List.set_cons_succ]
            refine wpAnyH_take (i := 13) (oi := { dst := some 10, op := Go.Op.assign (Go.Operand.tmp 58), type := 38, pos := _, after := #[{ on := 9, ground := Go.Ground.data }, { on := 12, ground := Go.Ground.chain }, { on := 0, ground := Go.Ground.phase }, { on := 1, ground := Go.Ground.phase }, { on := 2, ground := Go.Ground.phase }, { on := 3, ground := Go.Ground.phase }, { on := 4, ground := Go.Ground.phase }, { on := 5, ground := Go.Ground.phase }, { on := 6, ground := Go.Ground.phase }, { on := 7, ground := Go.Ground.phase }, { on := 8, ground := Go.Ground.phase }, { on := 9, ground := Go.Ground.phase }, { on := 10, ground := Go.Ground.textOnly Go.Departure.lateStores }, { on := 11, ground := Go.Ground.textOnly Go.Departure.lateStores }, { on := 12, ground := Go.Ground.phase }], guard := none }) (v := ?_) rfl (by kernel_rfl) (by kernel_rfl) (by kernel_rfl) (fun _ _ _ h => h) (Or.inl ⟨by rfl, ?_⟩) (by assumption) ?_
            rotate_left
            · intro w hSw; (try dsimp only at hSw); go_simp <;> first | with_reducible rfl | (rw [if_neg (by first | omega | (simp only [ByteArray.size_append] at *; omega))])
            simp only [Act.put, List.setIfInBounds_toArray, List.set_cons_zero, List.set_cons_succ]
            refine wpAnyH_take (i := 14) (oi := { dst := some 11, op := Go.Op.assign (Go.Operand.tmp 59), type := 3, pos := _, after := #[{ on := 10, ground := Go.Ground.data }, { on := 13, ground := Go.Ground.chain }, { on := 0, ground := Go.Ground.phase }, { on := 1, ground := Go.Ground.phase }, { on := 2, ground := Go.Ground.phase }, { on := 3, ground := Go.Ground.phase }, { on := 4, ground := Go.Ground.phase }, { on := 5, ground := Go.Ground.phase }, { on := 6, ground := Go.Ground.phase }, { on := 7, ground := Go.Ground.phase }, { on := 8, ground := Go.Ground.phase }, { on := 9, ground := Go.Ground.phase }, { on := 10, ground := Go.Ground.phase }, { on := 11, ground := Go.Ground.textOnly Go.Departure.lateStores }, { on := 12, ground := Go.Ground.phase }, { on := 13, ground := Go.Ground.phase }], guard := none }) (v := ?_) rfl (by kernel_rfl) (by kernel_rfl) (by kernel_rfl) (fun _ _ _ h => h) (Or.inl ⟨by rfl, ?_⟩) (by assumption) ?_
            rotate_left
            · intro w hSw; (try dsimp only at hSw); go_simp <;> first | with_reducible rfl | (rw [if_neg (by first | omega | (simp only [ByteArray.size_append] at *; omega))])
            simp only [Act.put, List.setIfInBounds_toArray, List.set_cons_zero, List.set_cons_succ]
            refine wpAnyH_take (i := 15) (oi := { dst := some 12, op := Go.Op.assign (Go.Operand.tmp 60), type := 4, pos := _, after := #[{ on := 11, ground := Go.Ground.data }, { on := 14, ground := Go.Ground.chain }, { on := 0, ground := Go.Ground.phase }, { on := 1, ground := Go.Ground.phase }, { on := 2, ground := Go.Ground.phase }, { on := 3, ground := Go.Ground.phase }, { on := 4, ground := Go.Ground.phase }, { on := 5, ground := Go.Ground.phase }, { on := 6, ground := Go.Ground.phase }, { on := 7, ground := Go.Ground.phase }, { on := 8, ground := Go.Ground.phase }, { on := 9, ground := Go.Ground.phase }, { on := 10, ground := Go.Ground.phase }, { on := 11, ground := Go.Ground.phase }, { on := 12, ground := Go.Ground.phase }, { on := 13, ground := Go.Ground.phase }, { on := 14, ground := Go.Ground.phase }], guard := none }) (v := ?_) rfl (by kernel_rfl) (by kernel_rfl) (by kernel_rfl) (fun _ _ _ h => h) (Or.inl ⟨by rfl, ?_⟩) (by assumption) ?_
            rotate_left
            · intro w hSw; (try dsimp only at hSw); go_simp <;> first | with_reducible rfl | (rw [if_neg (by first | omega | (simp only [ByteArray.size_append] at *; omega))])
            simp only [Act.put, List.setIfInBounds_toArray, List.set_cons_zero, List.set_cons_succ]
            refine wpAnyH_done (by kernel_rfl) ?_ _
            clear s0 s1 s2 s3 t0 t1 t2 t3 yv z0 c21 hb7 hb7'
            cases th with
            | true =>
              go_wp2_with (fail)
              go_roundw
              case rel => exact ⟨r + 1, by omega, by rw [HTH2.out]; rfl, by go_num, hid ⟨_, by rw [HTK2.out]; exact Q7.out⟩⟩
              case measure => simp [intOf]; omega
            | false =>
              go_wp2_with (fail)
              go_roundw
              case rel => exact ⟨r + 1, by omega, by rw [HTH2.out]; rfl, by go_num, hid ⟨_, by rw [HTK2.out]; exact Q7.out⟩⟩
              case measure => simp [intOf]; omega
        · have hrl' : ¬ (r : Int) < (G.length : Int) := by omega
          obtain rfl : r = G.length := by omega
          have hq := HQ.out
          rw [List.take_length] at hq
          rw [List.take_length]
          have HPG := hid (hq.pg (fun s hs => by obtain ⟨r, hr, rfl⟩ := List.mem_map.1 hs; exact HSM.out r hr) (by simp; omega))
          obtain ⟨p0, p1, p2, p3⟩ := XK.out.pcs
          obtain ⟨q0, q1, q2, q3⟩ := XK.out.xcs
          have HQR := hid hq.row
          clear hq HQ
          have c9 := of_ p x _ _ _ _ _ XK.out.P XK.out.S XK.out.R XK.out.J
          generalize hth : (G.all fun z => (findT (thingsL p) z.1).isSome) = th at *
          have HTH := hid hth
          clear hth
          go_wp2_with (fail)
          refine c9.mono ?_
          rintro e w9 ⟨rfl, hb9⟩
          have X9 := hid (XK.out.keep hb9)
          have HP9 := hid (HPG.out.keep hb9)
          have R9 := keep_row HQR.out hb9
          clear hb9 XK HPG HQR p0 p1 p2 p3 q0 q1 q2 q3 c9
          obtain ⟨u0, u1, u2, u3⟩ := row4 R9
          obtain ⟨q0, q1, q2, q3⟩ := X9.out.xcs
          have c9 := of_ (anyP (G.map (·.1))) x _ _ _ _ _ HP9.out X9.out.S X9.out.R X9.out.J
          cases hck : chk x with
          | false =>
            rw [of_bad _ hck] at c9
            have HOB := hid (of_bad p hck)
            rw [HOB.out]
            have HCK := hid hck
            clear hck
            go_wp2_with (fail)
            refine c9.mono ?_
            rintro e w10 ⟨rfl, hb10⟩
            have X10 := hid (X9.out.keep hb10)
            clear hb10 q0 q1 q2 q3 u0 u1 u2 u3
            obtain ⟨q0, q1, q2, q3⟩ := X10.out.xcs
            go_wp2_with (fail)
            refine (check x _ _ X10.out.S X10.out.R X10.out.J).mono ?_
            rintro e w11 ⟨rfl, hb11⟩
            rw [HCK.out]
            have hB := bstep X10.out.below hb11
            go_wp2_with (fail)
            go_ret
            exact ⟨rfl, hB⟩
          | true =>
            rw [HOA.out hck] at c9
            have HAA := hid (HTA.out hck)
            have HCK := hid hck
            have e1 : ((stE x : Int) == (stE x : Int)) = true := by simp
            cases th with
            | true =>
              have HOB := hid (of_ok (p := p) hck HAA.out.symm)
              rw [HOB.out]
              generalize stE x = ty at *
              clear hck
              go_wp2_with (fail)
              refine c9.mono ?_
              rintro e w10 ⟨rfl, hb10⟩
              have X10 := hid (X9.out.keep hb10)
              clear hb10 q0 q1 q2 q3 u0 u1 u2 u3
              obtain ⟨q0, q1, q2, q3⟩ := X10.out.xcs
              go_wp2_with (fail)
              refine (check x _ _ X10.out.S X10.out.R X10.out.J).mono ?_
              rintro e w11 ⟨rfl, hb11⟩
              rw [HCK.out]
              have hB := bstep X10.out.below hb11
              go_wp2_with (fail)
              go_ret
              exact ⟨rfl, hB⟩
            | false =>
              have HOB : Hid (ofV p x = (0, 6)) := hid (by unfold ofV; rw [if_neg (by rw [hck]; simp), if_pos HAA.out.symm])
              rw [HOB.out]
              generalize stE x = ty at *
              clear hck
              go_wp2_with (fail)
              refine c9.mono ?_
              rintro e w10 ⟨rfl, hb10⟩
              have X10 := hid (X9.out.keep hb10)
              clear hb10 q0 q1 q2 q3 u0 u1 u2 u3
              obtain ⟨q0, q1, q2, q3⟩ := X10.out.xcs
              go_wp2_with (fail)
              refine (check x _ _ X10.out.S X10.out.R X10.out.J).mono ?_
              rintro e w11 ⟨rfl, hb11⟩
              rw [HCK.out]
              have hB := bstep X10.out.below hb11
              go_wp2_with (fail)
              go_ret
              exact ⟨rfl, hB⟩
end Go.Proofs.YtejacmgppnafcabDoor.Lex
namespace Go.Proofs.YtejacmgppnafcabDoor.Lex
theorem nat_c {n : Int} (h : (Lit.int .u8 n).wf = true) : ∃ k : Nat, k < 256 ∧ n = (k : Int) := by
  simp [Lit.wf, IntKind.min, IntKind.max, IntKind.signed, IntKind.bits] at h
  exact ⟨n.toNat, by omega, by omega⟩
end Go.Proofs.YtejacmgppnafcabDoor.Lex
