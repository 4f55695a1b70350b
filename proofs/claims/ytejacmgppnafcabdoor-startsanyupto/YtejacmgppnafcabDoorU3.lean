/-
  Whether a program may be: the contract of progs.Check.
  What a name is: the contract of names.Find.
  A map of tallies: how many things have a name, and how many outs tell it.
  A map of functions: when each operator begins.
  The map of when operators begin: the contract of rules.
-/
import Derived.Test.YtejacmgppnafcabDoorU2
import Derived.BigRegionIn
import Derived.Maps.OwnIn
import Derived.Maps.OwnSet
import Derived.Maps.Views
import Derived.StringKeys
import Derived.Test.YtejacmgppnafcabDoorU1
import Derived.Maps.Keyed
namespace Go.Proofs.YtejacmgppnafcabDoor.Lex
open Go.ChangeShapes Go.WideShapes Go.ChangeAt Go.RowKit Go.Joins
theorem all_take_succ {α : Type} {l : List α} {f : α → Bool} {k : Nat} (h : k < l.length) (ha : (l.take k).all f = true) (hk : f l[k] = true) : (l.take (k + 1)).all f = true := by
  rw [List.take_succ_eq_append_getElem h, List.all_append, ha]
  simp [hk]
theorem all_no {α : Type} {l : List α} {f : α → Bool} {k : Nat} (h : k < l.length) (hk : f l[k] = false) : l.all f = false := by
  rw [List.all_eq_false]
  exact ⟨l[k], List.getElem_mem h, by simp [hk]⟩
set_option maxRecDepth 100000 in
set_option maxHeartbeats 1000000 in
theorem prog_check (p : Pg) (w : World) (a b c : Value) (hP : PgAt w p a b c) (hR : TabR w) (hJ : TabJ w) : Calls Tryd.prog 35 #[pgV p a b c] w fun e w' => e = .returned (.bool (pgOk p)) ∧ Below w.heap.size w w' := by
  obtain ⟨a0, a1, rfl, hl1, _, _, hc1⟩ := hP.ins
  obtain ⟨b0, b1, sl, rfl, hl2, _, _, hc2, hs2⟩ := hP.flows
  obtain ⟨c0, c1, rfl, hl3, _, _, hc3⟩ := hP.outs
  have HC1 := hid hc1
  have HC2 := hid hc2
  have HC3 := hid hc3
  have HS2 := hid hs2
  have HR := hid hR
  have HJ := hid hJ
  have B0 := hid ((Below.refl w.heap.size w).alloc (Nat.le_refl _) (.cells (pgC p (.slice a0 p.ins.length a1) (.slice b0 p.flows.length b1) (.slice c0 p.outs.length c1)) 26))
  have P0 := hid (hP.keep B0.out)
  have X := hid (fun j v => box_at w (pgC p (.slice a0 p.ins.length a1) (.slice b0 p.flows.length b1) (.slice c0 p.outs.length c1)) 26 j v)
  have x0 := X.out 0 (.int .i64 p.st) rfl
  have x1 := X.out 1 (.slice a0 p.ins.length a1) rfl
  have x2 := X.out 2 (.slice b0 p.flows.length b1) rfl
  have x3 := X.out 3 (.slice c0 p.outs.length c1) rfl
  clear hc1 hc2 hc3 hs2 hP hR hJ
  have c39 := hid fun W => in_range p.st 8 W
  have c40 := hid fun W a b c h => has_room p W a b c h
  cases h1 : inR p.st 8 with
  | false =>
    have hno : Hid (false = pgOk p) := by unfold Hid pgOk; rw [h1]; rfl
    rw [h1] at c39
    go_enter Tryd.func35, Tryd.ntmps35
    go_wp2_with (go_at_call 41; refine (c39.out _).mono ?_; rintro e w1 ⟨rfl, rfl⟩)
    go_ret
    exact ⟨by rw [← hno.out]; rfl, B0.out⟩
  | true =>
    rw [h1] at c39
    cases h2 : roomOk p with
    | false =>
      have hno : Hid (false = pgOk p) := by unfold Hid pgOk; rw [h1, h2]; rfl
      rw [h2] at c40
      go_enter Tryd.func35, Tryd.ntmps35
      go_wp2_with (first
        | (go_at_call 41; refine (c39.out _).mono ?_; rintro e w1 ⟨rfl, rfl⟩)
        | (go_at_call 42; refine (c40.out _ _ _ _ P0.out).mono ?_; rintro e w2 ⟨rfl, hb2⟩; have B2 := hid (bstep B0.out hb2); clear hb2 P0))
      go_ret
      exact ⟨by rw [← hno.out]; rfl, B2.out⟩
    | true =>
      rw [h2] at c40
      have hyes : Hid ((p.ins.all (fun x => hdOk x p.st) && (p.flows.all (fun x => flOk x p.st) && p.outs.all isName)) = pgOk p) := by unfold Hid pgOk; rw [h1, h2]; rfl
      go_enter Tryd.func35, Tryd.ntmps35
      go_wp2_with (first
        | (go_at_call 41; refine (c39.out _).mono ?_; rintro e w1 ⟨rfl, rfl⟩)
        | (go_at_call 42; refine (c40.out _ _ _ _ P0.out).mono ?_; rintro e w2 ⟨rfl, hb2⟩; have y0 := cell_kept x0 hb2; have y1 := cell_kept x1 hb2; have y2 := cell_kept x2 hb2; have y3 := cell_kept x3 hb2; have B2 := hid (bstep B0.out hb2); clear hb2 P0 x0 x1 x2 x3))
      have Y0 := hid y0
      have Y2 := hid y2
      have Y3 := hid y3
      go_loopw [21] (fun i wr => ∃ k : Nat, k ≤ p.ins.length ∧ i = .int .i64 (k : Int) ∧ Hid ((p.ins.take k).all (fun x => hdOk x p.st) = true) ∧ Hid (Below w2.heap.size w2 wr)) (fun i _ => p.ins.length - (intOf i).toNat)
      case atStart => exact ⟨0, Nat.zero_le _, rfl, hid (by simp), Below.refl _ _⟩
      case round =>
        obtain ⟨k, hk, rfl, hA, hB⟩ := hrel
        by_cases hlt : k < p.ins.length
        · have hlt' : (k : Int) < (p.ins.length : Int) := by omega
          have hk0 : (0 : Int) ≤ (k : Int) := by omega
          obtain ⟨bb, o, rfl, hcc⟩ := HC1.out.resolve_left (by omega)
          obtain ⟨v0, v1, v2⟩ := (hcc k hlt).keep (bstep B2.out hB.out)
          have BA := hid (bstep (bstep B2.out hB.out) ((Below.refl wr.heap.size wr).alloc (Nat.le_refl _) (.cells #[.string p.ins[k].name, .int .u8 (p.ins[k].ty : Int), .int .i64 p.ins[k].st] 63)))
          have z0 := cell_kept Y0.out (bstep hB.out ((Below.refl wr.heap.size wr).alloc (Nat.le_refl _) (.cells #[.string p.ins[k].name, .int .u8 (p.ins[k].ty : Int), .int .i64 p.ins[k].st] 63)))
          have cm := may_stand p.ins[k] p.st _ (HR.out.below BA.out)
          have HY := hid (fun h => all_take_succ (f := fun x => hdOk x p.st) hlt hA.out h)
          have HN := hid (fun h => all_no (f := fun x => hdOk x p.st) hlt h)
          clear hcc
          generalize p.ins[k] = y at *
          cases hh : hdOk y p.st with
          | true =>
            rw [hh] at cm
            go_wp2_with (go_at_call 43; refine cm.mono ?_; rintro e w4 ⟨rfl, hb4⟩)
            go_roundw
            case rel => exact ⟨k + 1, by omega, by go_num, hid (HY.out hh), bstep (bstep hB.out ((Below.refl wr.heap.size wr).alloc (Nat.le_refl _) _)) hb4⟩
            case measure => simp [intOf]; omega
          | false =>
            rw [hh] at cm
            go_wp2_with (go_at_call 43; refine cm.mono ?_; rintro e w4 ⟨rfl, hb4⟩)
            go_ret
            exact ⟨by rw [← hyes.out, HN.out hh]; rfl, bstep BA.out hb4⟩
        · have hlt' : ¬ (k : Int) < (p.ins.length : Int) := by omega
          have hI : Hid (p.ins.all (fun x => hdOk x p.st) = true) := by rw [List.take_of_length_le (by omega)] at hA; exact hA
          have z2 := cell_kept Y2.out hB.out
          go_wp2
          go_loopw [34] (fun i wr => ∃ k : Nat, k ≤ p.flows.length ∧ i = .int .i64 (k : Int) ∧ Hid ((p.flows.take k).all (fun x => flOk x p.st) = true) ∧ Hid (Below w2.heap.size w2 wr)) (fun i _ => p.flows.length - (intOf i).toNat)
          case atStart => exact ⟨0, Nat.zero_le _, rfl, hid (by simp), hB⟩
          case round =>
            obtain ⟨j, hj, rfl, hA2, hB2⟩ := hrel
            by_cases hjl : j < p.flows.length
            · have hjl' : (j : Int) < (p.flows.length : Int) := by omega
              have hj0 : (0 : Int) ≤ (j : Int) := by omega
              obtain ⟨bb, o, rfl, hcc⟩ := HC2.out.resolve_left (by omega)
              have V := (hcc j hjl).keep (bstep B2.out hB2.out)
              have HSt0 := HS2.out j hjl
              have HY := hid (fun h => all_take_succ (f := fun x => flOk x p.st) hjl hA2.out h)
              have HN := hid (fun h => all_no (f := fun x => flOk x p.st) hjl h)
              clear hcc
              generalize p.flows[j] = y at *
              obtain ⟨a3, c3, _, e3, _⟩ := HSt0.out
              rw [e3] at V HSt0
              have HSt := hid HSt0
              obtain ⟨v0, v1, v2, v3, v4, v5, v6, v7⟩ := V
              have ba := (Below.refl wr.heap.size wr).alloc (Nat.le_refl _) (.cells #[.string y.name, .int .u8 (y.ty : Int), .int .i64 y.st, .int .i64 y.df, .int .u8 (y.body.op : Int), .int .i64 y.body.n, .string y.body.name, .slice a3 y.body.args.length c3] 40)
              have BW0 := hid (bstep (bstep B2.out hB2.out) ba)
              have BL := hid (bstep hB2.out ba)
              have s0 := cell_kept Y0.out BL.out
              have bx := fun j v => box_at wr #[.string y.name, .int .u8 (y.ty : Int), .int .i64 y.st, .int .i64 y.df, .int .u8 (y.body.op : Int), .int .i64 y.body.n, .string y.body.name, .slice a3 y.body.args.length c3] 40 j v
              have s1 := bx 0 (.string y.name) rfl
              have s2 := bx 1 (.int .u8 (y.ty : Int)) rfl
              have s3 := bx 2 (.int .i64 y.st) rfl
              have s4 := bx 3 (.int .i64 y.df) rfl
              have s5 := bx 4 (.int .u8 (y.body.op : Int)) rfl
              have s6 := bx 5 (.int .i64 y.body.n) rfl
              have s7 := bx 6 (.string y.body.name) rfl
              have s8 := bx 7 (.slice a3 y.body.args.length c3) rfl
              clear bx ba e3 HSt0
              have BW := hid BW0.out.drew
              have cms := hid fun W h => may_stand y.hd p.st W h
              have cck := hid fun W h r j => check y.body W (.slice a3 y.body.args.length c3) h r j
              cases hh : hdOk y.hd p.st with
              | false =>
                rw [hh] at cms
                have hf : Hid (flOk y p.st = false) := by unfold Hid flOk; rw [hh]; rfl
                clear hh
                go_wp2
                refine wp_region_held_drew (S := fun W => W.cell? ⟨w.heap.size, 0, none⟩ = some (.int .i64 p.st) ∧ W.cell? ⟨wr.heap.size, 0, none⟩ = some (.string y.name) ∧ W.cell? ⟨wr.heap.size, 1, none⟩ = some (.int .u8 (y.ty : Int)) ∧ W.cell? ⟨wr.heap.size, 2, none⟩ = some (.int .i64 y.st) ∧ W.cell? ⟨wr.heap.size, 3, none⟩ = some (.int .i64 y.df) ∧ W.cell? ⟨wr.heap.size, 4, none⟩ = some (.int .u8 (y.body.op : Int)) ∧ W.cell? ⟨wr.heap.size, 5, none⟩ = some (.int .i64 y.body.n) ∧ W.cell? ⟨wr.heap.size, 6, none⟩ = some (.string y.body.name) ∧ W.cell? ⟨wr.heap.size, 7, none⟩ = some (.slice a3 y.body.args.length c3)) (by kernel_rfl) ?_ (fun hHeld => ?_)
                · exact ⟨s0, s1, s2, s3, s4, s5, s6, s7, s8⟩
                refine wpAnyH_take (i := 0) (oi := { dst := some 38, op := Go.Op.load 40 (Go.Operand.tmp 6), type := 40, pos := _, after := #[], guard := none }) (v := ?_) rfl (by kernel_rfl) (by kernel_rfl) (by kernel_rfl) (fun _ _ _ h => h) (Or.inl ⟨by rfl, ?_⟩) (by assumption) ?_
                rotate_left
                · intro w hSw; (try dsimp only at hSw); go_simp <;> first | with_reducible rfl | (rw [if_neg (by first | omega | (simp only [ByteArray.size_append] at *; omega))])
                simp only [Act.put, List.setIfInBounds_toArray, List.set_cons_zero, List.set_cons_succ]
                refine wpAnyH_take (i := 2) (oi := { dst := some 40, op := Go.Op.fieldAddr 26 (Go.Operand.tmp 1) 0, type := 0, pos := _, after := #[], guard := none }) (v := ?_) rfl (by kernel_rfl) (by kernel_rfl) (by kernel_rfl) (fun _ _ _ h => h) (Or.inl ⟨by rfl, ?_⟩) (by assumption) ?_
                rotate_left
                · intro w hSw; (try dsimp only at hSw); go_simp <;> first | with_reducible rfl | (rw [if_neg (by first | omega | (simp only [ByteArray.size_append] at *; omega))])
                simp only [Act.put, List.setIfInBounds_toArray, List.set_cons_zero, List.set_cons_succ]
                refine wpAnyH_take (i := 3) (oi := { dst := some 41, op := Go.Op.load 3 (Go.Operand.tmp 40), type := 3, pos := _, after := #[{ on := 2, ground := Go.Ground.data }], guard := none }) (v := ?_) rfl (by kernel_rfl) (by kernel_rfl) (by kernel_rfl) (fun _ _ _ h => h) (Or.inl ⟨by rfl, ?_⟩) (by assumption) ?_
                rotate_left
                · intro w hSw; (try dsimp only at hSw); go_simp <;> first | with_reducible rfl | (rw [if_neg (by first | omega | (simp only [ByteArray.size_append] at *; omega))])
                simp only [Act.put, List.setIfInBounds_toArray, List.set_cons_zero, List.set_cons_succ]
                refine wpAnyH_ready (rs := [1]) (by kernel_rfl) (by simp) ?_
                refine AllReadyH.cons (o := { dst := some 39, op := Go.Op.call { callee := Go.Callee.value (Go.Operand.func 44), args := #[Go.Operand.tmp 38], argTypes := #[40] }, type := 63, pos := _, after := #[{ on := 0, ground := Go.Ground.data }], guard := none }) rfl (fun K hK => ?_) AllReadyH.nil
                go_simp
                refine (head_of y _ _ ⟨_, _, _, rfl⟩).mono ?_
                rintro e w4 ⟨rfl, hb4⟩
                have t0 := cell_kept (w := (wr.alloc (.cells #[.string y.name, .int .u8 (y.ty : Int), .int .i64 y.st, .int .i64 y.df, .int .u8 (y.body.op : Int), .int .i64 y.body.n, .string y.body.name, .slice a3 y.body.args.length c3] 40)).drew) s0 hb4
                have t1 := cell_kept (w := (wr.alloc (.cells #[.string y.name, .int .u8 (y.ty : Int), .int .i64 y.st, .int .i64 y.df, .int .u8 (y.body.op : Int), .int .i64 y.body.n, .string y.body.name, .slice a3 y.body.args.length c3] 40)).drew) s1 hb4
                have t2 := cell_kept (w := (wr.alloc (.cells #[.string y.name, .int .u8 (y.ty : Int), .int .i64 y.st, .int .i64 y.df, .int .u8 (y.body.op : Int), .int .i64 y.body.n, .string y.body.name, .slice a3 y.body.args.length c3] 40)).drew) s2 hb4
                have t3 := cell_kept (w := (wr.alloc (.cells #[.string y.name, .int .u8 (y.ty : Int), .int .i64 y.st, .int .i64 y.df, .int .u8 (y.body.op : Int), .int .i64 y.body.n, .string y.body.name, .slice a3 y.body.args.length c3] 40)).drew) s3 hb4
                have t4 := cell_kept (w := (wr.alloc (.cells #[.string y.name, .int .u8 (y.ty : Int), .int .i64 y.st, .int .i64 y.df, .int .u8 (y.body.op : Int), .int .i64 y.body.n, .string y.body.name, .slice a3 y.body.args.length c3] 40)).drew) s4 hb4
                have t5 := cell_kept (w := (wr.alloc (.cells #[.string y.name, .int .u8 (y.ty : Int), .int .i64 y.st, .int .i64 y.df, .int .u8 (y.body.op : Int), .int .i64 y.body.n, .string y.body.name, .slice a3 y.body.args.length c3] 40)).drew) s5 hb4
                have t6 := cell_kept (w := (wr.alloc (.cells #[.string y.name, .int .u8 (y.ty : Int), .int .i64 y.st, .int .i64 y.df, .int .u8 (y.body.op : Int), .int .i64 y.body.n, .string y.body.name, .slice a3 y.body.args.length c3] 40)).drew) s6 hb4
                have t7 := cell_kept (w := (wr.alloc (.cells #[.string y.name, .int .u8 (y.ty : Int), .int .i64 y.st, .int .i64 y.df, .int .u8 (y.body.op : Int), .int .i64 y.body.n, .string y.body.name, .slice a3 y.body.args.length c3] 40)).drew) s7 hb4
                have t8 := cell_kept (w := (wr.alloc (.cells #[.string y.name, .int .u8 (y.ty : Int), .int .i64 y.st, .int .i64 y.df, .int .u8 (y.body.op : Int), .int .i64 y.body.n, .string y.body.name, .slice a3 y.body.args.length c3] 40)).drew) s8 hb4
                have B4 := hid (bstep BW.out hb4)
                go_wp2_with fail
                refine hK.out _ _ ?_ (fun hHeld1 => ?_)
                · exact ⟨t0, t1, t2, t3, t4, t5, t6, t7, t8⟩
                clear hK K
                refine wpAnyH_ready (rs := [4]) (by kernel_rfl) (by simp) ?_
                refine AllReadyH.cons (o := { dst := some 42, op := Go.Op.call { callee := Go.Callee.value (Go.Operand.func 43), args := #[Go.Operand.tmp 39, Go.Operand.tmp 41], argTypes := #[63, 3] }, type := 4, pos := _, after := #[{ on := 1, ground := Go.Ground.data }, { on := 3, ground := Go.Ground.data }, { on := 1, ground := Go.Ground.chain }], guard := none }) rfl (fun K hK => ?_) AllReadyH.nil
                go_simp
                refine (cms.out _ (HR.out.below B4.out)).mono ?_
                rintro e w5 ⟨rfl, hb5⟩
                have u0 := cell_kept t0 hb5
                have u1 := cell_kept t1 hb5
                have u2 := cell_kept t2 hb5
                have u3 := cell_kept t3 hb5
                have u4 := cell_kept t4 hb5
                have u5 := cell_kept t5 hb5
                have u6 := cell_kept t6 hb5
                have u7 := cell_kept t7 hb5
                have u8 := cell_kept t8 hb5
                have B5 := hid (bstep B4.out hb5)
                go_wp2_with fail
                refine hK.out _ _ ?_ (fun hHeld2 => ?_)
                · exact ⟨u0, u1, u2, u3, u4, u5, u6, u7, u8⟩
                clear hK K
                refine wpAnyH_take (i := 5) (oi := { dst := some 43, op := Go.Op.unOp Go.UnOp.not 4 (Go.Operand.tmp 42), type := 4, pos := _, after := #[{ on := 4, ground := Go.Ground.data }], guard := none }) (v := ?_) rfl (by kernel_rfl) (by kernel_rfl) (by kernel_rfl) (fun _ _ _ h => h) (Or.inl ⟨by rfl, ?_⟩) (by assumption) ?_
                rotate_left
                · intro w hSw; (try dsimp only at hSw); go_simp <;> first | with_reducible rfl | (rw [if_neg (by first | omega | (simp only [ByteArray.size_append] at *; omega))])
                simp only [Act.put, List.setIfInBounds_toArray, List.set_cons_zero, List.set_cons_succ]
                refine wpAnyH_take (i := 6) (oi := { dst := some 44, op := Go.Op.move (Go.Operand.tmp 43), type := 4, pos := _, after := #[{ on := 5, ground := Go.Ground.data }, { on := 4, ground := Go.Ground.chain }], guard := none }) (v := ?_) rfl (by kernel_rfl) (by kernel_rfl) (by kernel_rfl) (fun _ _ _ h => h) (Or.inl ⟨by rfl, ?_⟩) (by assumption) ?_
                rotate_left
                · intro w hSw; (try dsimp only at hSw); go_simp <;> first | with_reducible rfl | (rw [if_neg (by first | omega | (simp only [ByteArray.size_append] at *; omega))])
                simp only [Act.put, List.setIfInBounds_toArray, List.set_cons_zero, List.set_cons_succ]
                refine wpAnyH_take (i := 7) (oi := { dst := some 45, op := Go.Op.fieldAddr 40 (Go.Operand.tmp 6) 3, type := 0, pos := _, after := #[{ on := 6, ground := Go.Ground.guard }], guard := some (6, false) }) (v := undef) rfl (by kernel_rfl) (by kernel_rfl) (by kernel_rfl) (fun _ _ _ h => h) (Or.inr ⟨by rfl, rfl⟩) (by assumption) ?_
                simp only [Act.put, List.setIfInBounds_toArray, List.set_cons_zero, List.set_cons_succ]
                refine wpAnyH_take (i := 8) (oi := { dst := some 46, op := Go.Op.load 2 (Go.Operand.tmp 45), type := 2, pos := _, after := #[{ on := 7, ground := Go.Ground.data }, { on := 6, ground := Go.Ground.guard }], guard := some (6, false) }) (v := undef) rfl (by kernel_rfl) (by kernel_rfl) (by kernel_rfl) (fun _ _ _ h => h) (Or.inr ⟨by rfl, rfl⟩) (by assumption) ?_
                simp only [Act.put, List.setIfInBounds_toArray, List.set_cons_zero, List.set_cons_succ]
                refine wpAnyH_take (i := 9) (oi := { dst := some 47, op := Go.Op.binOp Go.BinOp.eql 2 (Go.Operand.tmp 46) (Go.Operand.const (Go.Value.int Go.IntKind.i64 (-9223372036854775808))) 2, type := 4, pos := _, after := #[{ on := 8, ground := Go.Ground.data }, { on := 6, ground := Go.Ground.guard }], guard := some (6, false) }) (v := undef) rfl (by kernel_rfl) (by kernel_rfl) (by kernel_rfl) (fun _ _ _ h => h) (Or.inr ⟨by rfl, rfl⟩) (by assumption) ?_
                simp only [Act.put, List.setIfInBounds_toArray, List.set_cons_zero, List.set_cons_succ]
                refine wpAnyH_take (i := 10) (oi := { dst := some 48, op := Go.Op.pick (Go.Operand.tmp 44) (Go.Operand.const (Go.Value.bool true)) (Go.Operand.tmp 47), type := 4, pos := _, after := #[{ on := 6, ground := Go.Ground.data }, { on := 9, ground := Go.Ground.data }], guard := none }) (v := ?_) rfl (by kernel_rfl) (by kernel_rfl) (by kernel_rfl) (fun _ _ _ h => h) (Or.inl ⟨by rfl, ?_⟩) (by assumption) ?_
                rotate_left
                · intro w hSw; (try dsimp only at hSw); go_simp <;> first | with_reducible rfl | (rw [if_neg (by first | omega | (simp only [ByteArray.size_append] at *; omega))])
                simp only [Act.put, List.setIfInBounds_toArray, List.set_cons_zero, List.set_cons_succ]
                refine wpAnyH_take (i := 11) (oi := { dst := some 49, op := Go.Op.move (Go.Operand.tmp 48), type := 4, pos := _, after := #[{ on := 10, ground := Go.Ground.data }, { on := 6, ground := Go.Ground.chain }], guard := none }) (v := ?_) rfl (by kernel_rfl) (by kernel_rfl) (by kernel_rfl) (fun _ _ _ h => h) (Or.inl ⟨by rfl, ?_⟩) (by assumption) ?_
                rotate_left
                · intro w hSw; (try dsimp only at hSw); go_simp <;> first | with_reducible rfl | (rw [if_neg (by first | omega | (simp only [ByteArray.size_append] at *; omega))])
                simp only [Act.put, List.setIfInBounds_toArray, List.set_cons_zero, List.set_cons_succ]
                refine wpAnyH_take (i := 12) (oi := { dst := some 50, op := Go.Op.fieldAddr 40 (Go.Operand.tmp 6) 4, type := 0, pos := _, after := #[{ on := 11, ground := Go.Ground.guard }], guard := some (11, false) }) (v := undef) rfl (by kernel_rfl) (by kernel_rfl) (by kernel_rfl) (fun _ _ _ h => h) (Or.inr ⟨by rfl, rfl⟩) (by assumption) ?_
                simp only [Act.put, List.setIfInBounds_toArray, List.set_cons_zero, List.set_cons_succ]
                refine wpAnyH_take (i := 13) (oi := { dst := some 51, op := Go.Op.load 30 (Go.Operand.tmp 50), type := 30, pos := _, after := #[{ on := 12, ground := Go.Ground.data }, { on := 11, ground := Go.Ground.guard }], guard := some (11, false) }) (v := undef) rfl (by kernel_rfl) (by kernel_rfl) (by kernel_rfl) (fun _ _ _ h => h) (Or.inr ⟨by rfl, rfl⟩) (by assumption) ?_
                simp only [Act.put, List.setIfInBounds_toArray, List.set_cons_zero, List.set_cons_succ]
                refine wpAnyH_take (i := 14) (oi := { dst := some 52, op := Go.Op.call { callee := Go.Callee.value (Go.Operand.func 10), args := #[Go.Operand.tmp 51], argTypes := #[30] }, type := 4, pos := _, after := #[{ on := 13, ground := Go.Ground.data }, { on := 11, ground := Go.Ground.chain }, { on := 11, ground := Go.Ground.guard }], guard := some (11, false) }) (v := undef) rfl (by kernel_rfl) (by kernel_rfl) (by kernel_rfl) (fun _ _ _ h => h) (Or.inr ⟨by rfl, rfl⟩) (by assumption) ?_
                simp only [Act.put, List.setIfInBounds_toArray, List.set_cons_zero, List.set_cons_succ]
                refine wpAnyH_take (i := 15) (oi := { dst := some 53, op := Go.Op.unOp Go.UnOp.not 4 (Go.Operand.tmp 52), type := 4, pos := _, after := #[{ on := 14, ground := Go.Ground.data }, { on := 11, ground := Go.Ground.guard }], guard := some (11, false) }) (v := undef) rfl (by kernel_rfl) (by kernel_rfl) (by kernel_rfl) (fun _ _ _ h => h) (Or.inr ⟨by rfl, rfl⟩) (by assumption) ?_
                simp only [Act.put, List.setIfInBounds_toArray, List.set_cons_zero, List.set_cons_succ]
                refine wpAnyH_take (i := 16) (oi := { dst := some 54, op := Go.Op.pick (Go.Operand.tmp 49) (Go.Operand.const (Go.Value.bool true)) (Go.Operand.tmp 53), type := 4, pos := _, after := #[{ on := 11, ground := Go.Ground.data }, { on := 15, ground := Go.Ground.data }], guard := none }) (v := ?_) rfl (by kernel_rfl) (by kernel_rfl) (by kernel_rfl) (fun _ _ _ h => h) (Or.inl ⟨by rfl, ?_⟩) (by assumption) ?_
                rotate_left
                · intro w hSw; (try dsimp only at hSw); go_simp <;> first | with_reducible rfl | (rw [if_neg (by first | omega | (simp only [ByteArray.size_append] at *; omega))])
                simp only [Act.put, List.setIfInBounds_toArray, List.set_cons_zero, List.set_cons_succ]
                refine wpAnyH_done (by kernel_rfl) ?_ _
                go_wp2
                go_ret
                exact ⟨by rw [← hyes.out, hI.out, HN.out hf.out]; rfl, B5.out⟩
              | true =>
                rw [hh] at cms
                by_cases hd : y.df = -9223372036854775808
                · have hdb : (y.df == -9223372036854775808) = true := by simp [hd]
                  have hf : Hid (flOk y p.st = false) := by unfold Hid flOk; rw [hh, hdb]; rfl
                  clear hh hd
                  go_wp2
                  refine wp_region_held_drew (S := fun W => W.cell? ⟨w.heap.size, 0, none⟩ = some (.int .i64 p.st) ∧ W.cell? ⟨wr.heap.size, 0, none⟩ = some (.string y.name) ∧ W.cell? ⟨wr.heap.size, 1, none⟩ = some (.int .u8 (y.ty : Int)) ∧ W.cell? ⟨wr.heap.size, 2, none⟩ = some (.int .i64 y.st) ∧ W.cell? ⟨wr.heap.size, 3, none⟩ = some (.int .i64 y.df) ∧ W.cell? ⟨wr.heap.size, 4, none⟩ = some (.int .u8 (y.body.op : Int)) ∧ W.cell? ⟨wr.heap.size, 5, none⟩ = some (.int .i64 y.body.n) ∧ W.cell? ⟨wr.heap.size, 6, none⟩ = some (.string y.body.name) ∧ W.cell? ⟨wr.heap.size, 7, none⟩ = some (.slice a3 y.body.args.length c3)) (by kernel_rfl) ?_ (fun hHeld => ?_)
                  · exact ⟨s0, s1, s2, s3, s4, s5, s6, s7, s8⟩
                  refine wpAnyH_take (i := 0) (oi := { dst := some 38, op := Go.Op.load 40 (Go.Operand.tmp 6), type := 40, pos := _, after := #[], guard := none }) (v := ?_) rfl (by kernel_rfl) (by kernel_rfl) (by kernel_rfl) (fun _ _ _ h => h) (Or.inl ⟨by rfl, ?_⟩) (by assumption) ?_
                  rotate_left
                  · intro w hSw; (try dsimp only at hSw); go_simp <;> first | with_reducible rfl | (rw [if_neg (by first | omega | (simp only [ByteArray.size_append] at *; omega))])
                  simp only [Act.put, List.setIfInBounds_toArray, List.set_cons_zero, List.set_cons_succ]
                  refine wpAnyH_take (i := 2) (oi := { dst := some 40, op := Go.Op.fieldAddr 26 (Go.Operand.tmp 1) 0, type := 0, pos := _, after := #[], guard := none }) (v := ?_) rfl (by kernel_rfl) (by kernel_rfl) (by kernel_rfl) (fun _ _ _ h => h) (Or.inl ⟨by rfl, ?_⟩) (by assumption) ?_
                  rotate_left
                  · intro w hSw; (try dsimp only at hSw); go_simp <;> first | with_reducible rfl | (rw [if_neg (by first | omega | (simp only [ByteArray.size_append] at *; omega))])
                  simp only [Act.put, List.setIfInBounds_toArray, List.set_cons_zero, List.set_cons_succ]
                  refine wpAnyH_take (i := 3) (oi := { dst := some 41, op := Go.Op.load 3 (Go.Operand.tmp 40), type := 3, pos := _, after := #[{ on := 2, ground := Go.Ground.data }], guard := none }) (v := ?_) rfl (by kernel_rfl) (by kernel_rfl) (by kernel_rfl) (fun _ _ _ h => h) (Or.inl ⟨by rfl, ?_⟩) (by assumption) ?_
                  rotate_left
                  · intro w hSw; (try dsimp only at hSw); go_simp <;> first | with_reducible rfl | (rw [if_neg (by first | omega | (simp only [ByteArray.size_append] at *; omega))])
                  simp only [Act.put, List.setIfInBounds_toArray, List.set_cons_zero, List.set_cons_succ]
                  refine wpAnyH_ready (rs := [1]) (by kernel_rfl) (by simp) ?_
                  refine AllReadyH.cons (o := { dst := some 39, op := Go.Op.call { callee := Go.Callee.value (Go.Operand.func 44), args := #[Go.Operand.tmp 38], argTypes := #[40] }, type := 63, pos := _, after := #[{ on := 0, ground := Go.Ground.data }], guard := none }) rfl (fun K hK => ?_) AllReadyH.nil
                  go_simp
                  refine (head_of y _ _ ⟨_, _, _, rfl⟩).mono ?_
                  rintro e w4 ⟨rfl, hb4⟩
                  have t0 := cell_kept (w := (wr.alloc (.cells #[.string y.name, .int .u8 (y.ty : Int), .int .i64 y.st, .int .i64 y.df, .int .u8 (y.body.op : Int), .int .i64 y.body.n, .string y.body.name, .slice a3 y.body.args.length c3] 40)).drew) s0 hb4
                  have t1 := cell_kept (w := (wr.alloc (.cells #[.string y.name, .int .u8 (y.ty : Int), .int .i64 y.st, .int .i64 y.df, .int .u8 (y.body.op : Int), .int .i64 y.body.n, .string y.body.name, .slice a3 y.body.args.length c3] 40)).drew) s1 hb4
                  have t2 := cell_kept (w := (wr.alloc (.cells #[.string y.name, .int .u8 (y.ty : Int), .int .i64 y.st, .int .i64 y.df, .int .u8 (y.body.op : Int), .int .i64 y.body.n, .string y.body.name, .slice a3 y.body.args.length c3] 40)).drew) s2 hb4
                  have t3 := cell_kept (w := (wr.alloc (.cells #[.string y.name, .int .u8 (y.ty : Int), .int .i64 y.st, .int .i64 y.df, .int .u8 (y.body.op : Int), .int .i64 y.body.n, .string y.body.name, .slice a3 y.body.args.length c3] 40)).drew) s3 hb4
                  have t4 := cell_kept (w := (wr.alloc (.cells #[.string y.name, .int .u8 (y.ty : Int), .int .i64 y.st, .int .i64 y.df, .int .u8 (y.body.op : Int), .int .i64 y.body.n, .string y.body.name, .slice a3 y.body.args.length c3] 40)).drew) s4 hb4
                  have t5 := cell_kept (w := (wr.alloc (.cells #[.string y.name, .int .u8 (y.ty : Int), .int .i64 y.st, .int .i64 y.df, .int .u8 (y.body.op : Int), .int .i64 y.body.n, .string y.body.name, .slice a3 y.body.args.length c3] 40)).drew) s5 hb4
                  have t6 := cell_kept (w := (wr.alloc (.cells #[.string y.name, .int .u8 (y.ty : Int), .int .i64 y.st, .int .i64 y.df, .int .u8 (y.body.op : Int), .int .i64 y.body.n, .string y.body.name, .slice a3 y.body.args.length c3] 40)).drew) s6 hb4
                  have t7 := cell_kept (w := (wr.alloc (.cells #[.string y.name, .int .u8 (y.ty : Int), .int .i64 y.st, .int .i64 y.df, .int .u8 (y.body.op : Int), .int .i64 y.body.n, .string y.body.name, .slice a3 y.body.args.length c3] 40)).drew) s7 hb4
                  have t8 := cell_kept (w := (wr.alloc (.cells #[.string y.name, .int .u8 (y.ty : Int), .int .i64 y.st, .int .i64 y.df, .int .u8 (y.body.op : Int), .int .i64 y.body.n, .string y.body.name, .slice a3 y.body.args.length c3] 40)).drew) s8 hb4
                  have B4 := hid (bstep BW.out hb4)
                  go_wp2_with fail
                  refine hK.out _ _ ?_ (fun hHeld1 => ?_)
                  · exact ⟨t0, t1, t2, t3, t4, t5, t6, t7, t8⟩
                  clear hK K
                  refine wpAnyH_ready (rs := [4]) (by kernel_rfl) (by simp) ?_
                  refine AllReadyH.cons (o := { dst := some 42, op := Go.Op.call { callee := Go.Callee.value (Go.Operand.func 43), args := #[Go.Operand.tmp 39, Go.Operand.tmp 41], argTypes := #[63, 3] }, type := 4, pos := _, after := #[{ on := 1, ground := Go.Ground.data }, { on := 3, ground := Go.Ground.data }, { on := 1, ground := Go.Ground.chain }], guard := none }) rfl (fun K hK => ?_) AllReadyH.nil
                  go_simp
                  refine (cms.out _ (HR.out.below B4.out)).mono ?_
                  rintro e w5 ⟨rfl, hb5⟩
                  have u0 := cell_kept t0 hb5
                  have u1 := cell_kept t1 hb5
                  have u2 := cell_kept t2 hb5
                  have u3 := cell_kept t3 hb5
                  have u4 := cell_kept t4 hb5
                  have u5 := cell_kept t5 hb5
                  have u6 := cell_kept t6 hb5
                  have u7 := cell_kept t7 hb5
                  have u8 := cell_kept t8 hb5
                  have B5 := hid (bstep B4.out hb5)
                  go_wp2_with fail
                  refine hK.out _ _ ?_ (fun hHeld2 => ?_)
                  · exact ⟨u0, u1, u2, u3, u4, u5, u6, u7, u8⟩
                  clear hK K
                  refine wpAnyH_take (i := 5) (oi := { dst := some 43, op := Go.Op.unOp Go.UnOp.not 4 (Go.Operand.tmp 42), type := 4, pos := _, after := #[{ on := 4, ground := Go.Ground.data }], guard := none }) (v := ?_) rfl (by kernel_rfl) (by kernel_rfl) (by kernel_rfl) (fun _ _ _ h => h) (Or.inl ⟨by rfl, ?_⟩) (by assumption) ?_
                  rotate_left
                  · intro w hSw; (try dsimp only at hSw); go_simp <;> first | with_reducible rfl | (rw [if_neg (by first | omega | (simp only [ByteArray.size_append] at *; omega))])
                  simp only [Act.put, List.setIfInBounds_toArray, List.set_cons_zero, List.set_cons_succ]
                  refine wpAnyH_take (i := 6) (oi := { dst := some 44, op := Go.Op.move (Go.Operand.tmp 43), type := 4, pos := _, after := #[{ on := 5, ground := Go.Ground.data }, { on := 4, ground := Go.Ground.chain }], guard := none }) (v := ?_) rfl (by kernel_rfl) (by kernel_rfl) (by kernel_rfl) (fun _ _ _ h => h) (Or.inl ⟨by rfl, ?_⟩) (by assumption) ?_
                  rotate_left
                  · intro w hSw; (try dsimp only at hSw); go_simp <;> first | with_reducible rfl | (rw [if_neg (by first | omega | (simp only [ByteArray.size_append] at *; omega))])
                  simp only [Act.put, List.setIfInBounds_toArray, List.set_cons_zero, List.set_cons_succ]
                  refine wpAnyH_take (i := 7) (oi := { dst := some 45, op := Go.Op.fieldAddr 40 (Go.Operand.tmp 6) 3, type := 0, pos := _, after := #[{ on := 6, ground := Go.Ground.guard }], guard := some (6, false) }) (v := ?_) rfl (by kernel_rfl) (by kernel_rfl) (by kernel_rfl) (fun _ _ _ h => h) (Or.inl ⟨by rfl, ?_⟩) (by assumption) ?_
                  rotate_left
                  · intro w hSw; (try dsimp only at hSw); go_simp <;> first | with_reducible rfl | (rw [if_neg (by first | omega | (simp only [ByteArray.size_append] at *; omega))])
                  simp only [Act.put, List.setIfInBounds_toArray, List.set_cons_zero, List.set_cons_succ]
                  refine wpAnyH_take (i := 8) (oi := { dst := some 46, op := Go.Op.load 2 (Go.Operand.tmp 45), type := 2, pos := _, after := #[{ on := 7, ground := Go.Ground.data }, { on := 6, ground := Go.Ground.guard }], guard := some (6, false) }) (v := ?_) rfl (by kernel_rfl) (by kernel_rfl) (by kernel_rfl) (fun _ _ _ h => h) (Or.inl ⟨by rfl, ?_⟩) (by assumption) ?_
                  rotate_left
                  · intro w hSw; (try dsimp only at hSw); go_simp <;> first | with_reducible rfl | (rw [if_neg (by first | omega | (simp only [ByteArray.size_append] at *; omega))])
                  simp only [Act.put, List.setIfInBounds_toArray, List.set_cons_zero, List.set_cons_succ]
                  refine wpAnyH_take (i := 9) (oi := { dst := some 47, op := Go.Op.binOp Go.BinOp.eql 2 (Go.Operand.tmp 46) (Go.Operand.const (Go.Value.int Go.IntKind.i64 (-9223372036854775808))) 2, type := 4, pos := _, after := #[{ on := 8, ground := Go.Ground.data }, { on := 6, ground := Go.Ground.guard }], guard := some (6, false) }) (v := ?_) rfl (by kernel_rfl) (by kernel_rfl) (by kernel_rfl) (fun _ _ _ h => h) (Or.inl ⟨by rfl, ?_⟩) (by assumption) ?_
                  rotate_left
                  · intro w hSw; (try dsimp only at hSw); go_simp <;> first | with_reducible rfl | (rw [if_neg (by first | omega | (simp only [ByteArray.size_append] at *; omega))])
                  simp only [Act.put, List.setIfInBounds_toArray, List.set_cons_zero, List.set_cons_succ]
                  refine wpAnyH_take (i := 10) (oi := { dst := some 48, op := Go.Op.pick (Go.Operand.tmp 44) (Go.Operand.const (Go.Value.bool true)) (Go.Operand.tmp 47), type := 4, pos := _, after := #[{ on := 6, ground := Go.Ground.data }, { on := 9, ground := Go.Ground.data }], guard := none }) (v := ?_) rfl (by kernel_rfl) (by kernel_rfl) (by kernel_rfl) (fun _ _ _ h => h) (Or.inl ⟨by rfl, ?_⟩) (by assumption) ?_
                  rotate_left
                  · intro w hSw; (try dsimp only at hSw); go_simp <;> first | with_reducible rfl | (rw [if_neg (by first | omega | (simp only [ByteArray.size_append] at *; omega))])
                  simp only [Act.put, List.setIfInBounds_toArray, List.set_cons_zero, List.set_cons_succ]
                  refine wpAnyH_take (i := 11) (oi := { dst := some 49, op := Go.Op.move (Go.Operand.tmp 48), type := 4, pos := _, after := #[{ on := 10, ground := Go.Ground.data }, { on := 6, ground := Go.Ground.chain }], guard := none }) (v := ?_) rfl (by kernel_rfl) (by kernel_rfl) (by kernel_rfl) (fun _ _ _ h => h) (Or.inl ⟨by rfl, ?_⟩) (by assumption) ?_
                  rotate_left
                  · intro w hSw; (try dsimp only at hSw); go_simp <;> first | with_reducible rfl | (rw [if_neg (by first | omega | (simp only [ByteArray.size_append] at *; omega))])
                  simp only [Act.put, List.setIfInBounds_toArray, List.set_cons_zero, List.set_cons_succ]
                  refine wpAnyH_take (i := 12) (oi := { dst := some 50, op := Go.Op.fieldAddr 40 (Go.Operand.tmp 6) 4, type := 0, pos := _, after := #[{ on := 11, ground := Go.Ground.guard }], guard := some (11, false) }) (v := undef) rfl (by kernel_rfl) (by kernel_rfl) (by kernel_rfl) (fun _ _ _ h => h) (Or.inr ⟨by rfl, rfl⟩) (by assumption) ?_
                  simp only [Act.put, List.setIfInBounds_toArray, List.set_cons_zero, List.set_cons_succ]
                  refine wpAnyH_take (i := 13) (oi := { dst := some 51, op := Go.Op.load 30 (Go.Operand.tmp 50), type := 30, pos := _, after := #[{ on := 12, ground := Go.Ground.data }, { on := 11, ground := Go.Ground.guard }], guard := some (11, false) }) (v := undef) rfl (by kernel_rfl) (by kernel_rfl) (by kernel_rfl) (fun _ _ _ h => h) (Or.inr ⟨by rfl, rfl⟩) (by assumption) ?_
                  simp only [Act.put, List.setIfInBounds_toArray, List.set_cons_zero, List.set_cons_succ]
                  refine wpAnyH_take (i := 14) (oi := { dst := some 52, op := Go.Op.call { callee := Go.Callee.value (Go.Operand.func 10), args := #[Go.Operand.tmp 51], argTypes := #[30] }, type := 4, pos := _, after := #[{ on := 13, ground := Go.Ground.data }, { on := 11, ground := Go.Ground.chain }, { on := 11, ground := Go.Ground.guard }], guard := some (11, false) }) (v := undef) rfl (by kernel_rfl) (by kernel_rfl) (by kernel_rfl) (fun _ _ _ h => h) (Or.inr ⟨by rfl, rfl⟩) (by assumption) ?_
                  simp only [Act.put, List.setIfInBounds_toArray, List.set_cons_zero, List.set_cons_succ]
                  refine wpAnyH_take (i := 15) (oi := { dst := some 53, op := Go.Op.unOp Go.UnOp.not 4 (Go.Operand.tmp 52), type := 4, pos := _, after := #[{ on := 14, ground := Go.Ground.data }, { on := 11, ground := Go.Ground.guard }], guard := some (11, false) }) (v := undef) rfl (by kernel_rfl) (by kernel_rfl) (by kernel_rfl) (fun _ _ _ h => h) (Or.inr ⟨by rfl, rfl⟩) (by assumption) ?_
                  simp only [Act.put, List.setIfInBounds_toArray, List.set_cons_zero, List.set_cons_succ]
                  refine wpAnyH_take (i := 16) (oi := { dst := some 54, op := Go.Op.pick (Go.Operand.tmp 49) (Go.Operand.const (Go.Value.bool true)) (Go.Operand.tmp 53), type := 4, pos := _, after := #[{ on := 11, ground := Go.Ground.data }, { on := 15, ground := Go.Ground.data }], guard := none }) (v := ?_) rfl (by kernel_rfl) (by kernel_rfl) (by kernel_rfl) (fun _ _ _ h => h) (Or.inl ⟨by rfl, ?_⟩) (by assumption) ?_
                  rotate_left
                  · intro w hSw; (try dsimp only at hSw); go_simp <;> first | with_reducible rfl | (rw [if_neg (by first | omega | (simp only [ByteArray.size_append] at *; omega))])
                  simp only [Act.put, List.setIfInBounds_toArray, List.set_cons_zero, List.set_cons_succ]
                  refine wpAnyH_done (by kernel_rfl) ?_ _
                  go_wp2
                  go_ret
                  exact ⟨by rw [← hyes.out, hI.out, HN.out hf.out]; rfl, B5.out⟩
                · have hdb : (y.df == -9223372036854775808) = false := by simp [hd]
                  cases hchk : chk y.body with
                  | false =>
                    rw [hchk] at cck
                    have hf : Hid (flOk y p.st = false) := by unfold Hid flOk; rw [hh, hdb, hchk]; rfl
                    clear hh hd hchk
                    go_wp2
                    refine wp_region_held_drew (S := fun W => W.cell? ⟨w.heap.size, 0, none⟩ = some (.int .i64 p.st) ∧ W.cell? ⟨wr.heap.size, 0, none⟩ = some (.string y.name) ∧ W.cell? ⟨wr.heap.size, 1, none⟩ = some (.int .u8 (y.ty : Int)) ∧ W.cell? ⟨wr.heap.size, 2, none⟩ = some (.int .i64 y.st) ∧ W.cell? ⟨wr.heap.size, 3, none⟩ = some (.int .i64 y.df) ∧ W.cell? ⟨wr.heap.size, 4, none⟩ = some (.int .u8 (y.body.op : Int)) ∧ W.cell? ⟨wr.heap.size, 5, none⟩ = some (.int .i64 y.body.n) ∧ W.cell? ⟨wr.heap.size, 6, none⟩ = some (.string y.body.name) ∧ W.cell? ⟨wr.heap.size, 7, none⟩ = some (.slice a3 y.body.args.length c3)) (by kernel_rfl) ?_ (fun hHeld => ?_)
                    · exact ⟨s0, s1, s2, s3, s4, s5, s6, s7, s8⟩
                    refine wpAnyH_take (i := 0) (oi := { dst := some 38, op := Go.Op.load 40 (Go.Operand.tmp 6), type := 40, pos := _, after := #[], guard := none }) (v := ?_) rfl (by kernel_rfl) (by kernel_rfl) (by kernel_rfl) (fun _ _ _ h => h) (Or.inl ⟨by rfl, ?_⟩) (by assumption) ?_
                    rotate_left
                    · intro w hSw; (try dsimp only at hSw); go_simp <;> first | with_reducible rfl | (rw [if_neg (by first | omega | (simp only [ByteArray.size_append] at *; omega))])
                    simp only [Act.put, List.setIfInBounds_toArray, List.set_cons_zero, List.set_cons_succ]
                    refine wpAnyH_take (i := 2) (oi := { dst := some 40, op := Go.Op.fieldAddr 26 (Go.Operand.tmp 1) 0, type := 0, pos := _, after := #[], guard := none }) (v := ?_) rfl (by kernel_rfl) (by kernel_rfl) (by kernel_rfl) (fun _ _ _ h => h) (Or.inl ⟨by rfl, ?_⟩) (by assumption) ?_
                    rotate_left
                    · intro w hSw; (try dsimp only at hSw); go_simp <;> first | with_reducible rfl | (rw [if_neg (by first | omega | (simp only [ByteArray.size_append] at *; omega))])
                    simp only [Act.put, List.setIfInBounds_toArray, List.set_cons_zero, List.set_cons_succ]
                    refine wpAnyH_take (i := 3) (oi := { dst := some 41, op := Go.Op.load 3 (Go.Operand.tmp 40), type := 3, pos := _, after := #[{ on := 2, ground := Go.Ground.data }], guard := none }) (v := ?_) rfl (by kernel_rfl) (by kernel_rfl) (by kernel_rfl) (fun _ _ _ h => h) (Or.inl ⟨by rfl, ?_⟩) (by assumption) ?_
                    rotate_left
                    · intro w hSw; (try dsimp only at hSw); go_simp <;> first | with_reducible rfl | (rw [if_neg (by first | omega | (simp only [ByteArray.size_append] at *; omega))])
                    simp only [Act.put, List.setIfInBounds_toArray, List.set_cons_zero, List.set_cons_succ]
                    refine wpAnyH_ready (rs := [1]) (by kernel_rfl) (by simp) ?_
                    refine AllReadyH.cons (o := { dst := some 39, op := Go.Op.call { callee := Go.Callee.value (Go.Operand.func 44), args := #[Go.Operand.tmp 38], argTypes := #[40] }, type := 63, pos := _, after := #[{ on := 0, ground := Go.Ground.data }], guard := none }) rfl (fun K hK => ?_) AllReadyH.nil
                    go_simp
                    refine (head_of y _ _ ⟨_, _, _, rfl⟩).mono ?_
                    rintro e w4 ⟨rfl, hb4⟩
                    have t0 := cell_kept (w := (wr.alloc (.cells #[.string y.name, .int .u8 (y.ty : Int), .int .i64 y.st, .int .i64 y.df, .int .u8 (y.body.op : Int), .int .i64 y.body.n, .string y.body.name, .slice a3 y.body.args.length c3] 40)).drew) s0 hb4
                    have t1 := cell_kept (w := (wr.alloc (.cells #[.string y.name, .int .u8 (y.ty : Int), .int .i64 y.st, .int .i64 y.df, .int .u8 (y.body.op : Int), .int .i64 y.body.n, .string y.body.name, .slice a3 y.body.args.length c3] 40)).drew) s1 hb4
                    have t2 := cell_kept (w := (wr.alloc (.cells #[.string y.name, .int .u8 (y.ty : Int), .int .i64 y.st, .int .i64 y.df, .int .u8 (y.body.op : Int), .int .i64 y.body.n, .string y.body.name, .slice a3 y.body.args.length c3] 40)).drew) s2 hb4
                    have t3 := cell_kept (w := (wr.alloc (.cells #[.string y.name, .int .u8 (y.ty : Int), .int .i64 y.st, .int .i64 y.df, .int .u8 (y.body.op : Int), .int .i64 y.body.n, .string y.body.name, .slice a3 y.body.args.length c3] 40)).drew) s3 hb4
                    have t4 := cell_kept (w := (wr.alloc (.cells #[.string y.name, .int .u8 (y.ty : Int), .int .i64 y.st, .int .i64 y.df, .int .u8 (y.body.op : Int), .int .i64 y.body.n, .string y.body.name, .slice a3 y.body.args.length c3] 40)).drew) s4 hb4
                    have t5 := cell_kept (w := (wr.alloc (.cells #[.string y.name, .int .u8 (y.ty : Int), .int .i64 y.st, .int .i64 y.df, .int .u8 (y.body.op : Int), .int .i64 y.body.n, .string y.body.name, .slice a3 y.body.args.length c3] 40)).drew) s5 hb4
                    have t6 := cell_kept (w := (wr.alloc (.cells #[.string y.name, .int .u8 (y.ty : Int), .int .i64 y.st, .int .i64 y.df, .int .u8 (y.body.op : Int), .int .i64 y.body.n, .string y.body.name, .slice a3 y.body.args.length c3] 40)).drew) s6 hb4
                    have t7 := cell_kept (w := (wr.alloc (.cells #[.string y.name, .int .u8 (y.ty : Int), .int .i64 y.st, .int .i64 y.df, .int .u8 (y.body.op : Int), .int .i64 y.body.n, .string y.body.name, .slice a3 y.body.args.length c3] 40)).drew) s7 hb4
                    have t8 := cell_kept (w := (wr.alloc (.cells #[.string y.name, .int .u8 (y.ty : Int), .int .i64 y.st, .int .i64 y.df, .int .u8 (y.body.op : Int), .int .i64 y.body.n, .string y.body.name, .slice a3 y.body.args.length c3] 40)).drew) s8 hb4
                    have B4 := hid (bstep BW.out hb4)
                    go_wp2_with fail
                    refine hK.out _ _ ?_ (fun hHeld1 => ?_)
                    · exact ⟨t0, t1, t2, t3, t4, t5, t6, t7, t8⟩
                    clear hK K
                    refine wpAnyH_ready (rs := [4]) (by kernel_rfl) (by simp) ?_
                    refine AllReadyH.cons (o := { dst := some 42, op := Go.Op.call { callee := Go.Callee.value (Go.Operand.func 43), args := #[Go.Operand.tmp 39, Go.Operand.tmp 41], argTypes := #[63, 3] }, type := 4, pos := _, after := #[{ on := 1, ground := Go.Ground.data }, { on := 3, ground := Go.Ground.data }, { on := 1, ground := Go.Ground.chain }], guard := none }) rfl (fun K hK => ?_) AllReadyH.nil
                    go_simp
                    refine (cms.out _ (HR.out.below B4.out)).mono ?_
                    rintro e w5 ⟨rfl, hb5⟩
                    have u0 := cell_kept t0 hb5
                    have u1 := cell_kept t1 hb5
                    have u2 := cell_kept t2 hb5
                    have u3 := cell_kept t3 hb5
                    have u4 := cell_kept t4 hb5
                    have u5 := cell_kept t5 hb5
                    have u6 := cell_kept t6 hb5
                    have u7 := cell_kept t7 hb5
                    have u8 := cell_kept t8 hb5
                    have B5 := hid (bstep B4.out hb5)
                    go_wp2_with fail
                    refine hK.out _ _ ?_ (fun hHeld2 => ?_)
                    · exact ⟨u0, u1, u2, u3, u4, u5, u6, u7, u8⟩
                    clear hK K
                    refine wpAnyH_take (i := 5) (oi := { dst := some 43, op := Go.Op.unOp Go.UnOp.not 4 (Go.Operand.tmp 42), type := 4, pos := _, after := #[{ on := 4, ground := Go.Ground.data }], guard := none }) (v := ?_) rfl (by kernel_rfl) (by kernel_rfl) (by kernel_rfl) (fun _ _ _ h => h) (Or.inl ⟨by rfl, ?_⟩) (by assumption) ?_
                    rotate_left
                    · intro w hSw; (try dsimp only at hSw); go_simp <;> first | with_reducible rfl | (rw [if_neg (by first | omega | (simp only [ByteArray.size_append] at *; omega))])
                    simp only [Act.put, List.setIfInBounds_toArray, List.set_cons_zero, List.set_cons_succ]
                    refine wpAnyH_take (i := 6) (oi := { dst := some 44, op := Go.Op.move (Go.Operand.tmp 43), type := 4, pos := _, after := #[{ on := 5, ground := Go.Ground.data }, { on := 4, ground := Go.Ground.chain }], guard := none }) (v := ?_) rfl (by kernel_rfl) (by kernel_rfl) (by kernel_rfl) (fun _ _ _ h => h) (Or.inl ⟨by rfl, ?_⟩) (by assumption) ?_
                    rotate_left
                    · intro w hSw; (try dsimp only at hSw); go_simp <;> first | with_reducible rfl | (rw [if_neg (by first | omega | (simp only [ByteArray.size_append] at *; omega))])
                    simp only [Act.put, List.setIfInBounds_toArray, List.set_cons_zero, List.set_cons_succ]
                    refine wpAnyH_take (i := 7) (oi := { dst := some 45, op := Go.Op.fieldAddr 40 (Go.Operand.tmp 6) 3, type := 0, pos := _, after := #[{ on := 6, ground := Go.Ground.guard }], guard := some (6, false) }) (v := ?_) rfl (by kernel_rfl) (by kernel_rfl) (by kernel_rfl) (fun _ _ _ h => h) (Or.inl ⟨by rfl, ?_⟩) (by assumption) ?_
                    rotate_left
                    · intro w hSw; (try dsimp only at hSw); go_simp <;> first | with_reducible rfl | (rw [if_neg (by first | omega | (simp only [ByteArray.size_append] at *; omega))])
                    simp only [Act.put, List.setIfInBounds_toArray, List.set_cons_zero, List.set_cons_succ]
                    refine wpAnyH_take (i := 8) (oi := { dst := some 46, op := Go.Op.load 2 (Go.Operand.tmp 45), type := 2, pos := _, after := #[{ on := 7, ground := Go.Ground.data }, { on := 6, ground := Go.Ground.guard }], guard := some (6, false) }) (v := ?_) rfl (by kernel_rfl) (by kernel_rfl) (by kernel_rfl) (fun _ _ _ h => h) (Or.inl ⟨by rfl, ?_⟩) (by assumption) ?_
                    rotate_left
                    · intro w hSw; (try dsimp only at hSw); go_simp <;> first | with_reducible rfl | (rw [if_neg (by first | omega | (simp only [ByteArray.size_append] at *; omega))])
                    simp only [Act.put, List.setIfInBounds_toArray, List.set_cons_zero, List.set_cons_succ]
                    refine wpAnyH_take (i := 9) (oi := { dst := some 47, op := Go.Op.binOp Go.BinOp.eql 2 (Go.Operand.tmp 46) (Go.Operand.const (Go.Value.int Go.IntKind.i64 (-9223372036854775808))) 2, type := 4, pos := _, after := #[{ on := 8, ground := Go.Ground.data }, { on := 6, ground := Go.Ground.guard }], guard := some (6, false) }) (v := ?_) rfl (by kernel_rfl) (by kernel_rfl) (by kernel_rfl) (fun _ _ _ h => h) (Or.inl ⟨by rfl, ?_⟩) (by assumption) ?_
                    rotate_left
                    · intro w hSw; (try dsimp only at hSw); go_simp <;> first | with_reducible rfl | (rw [if_neg (by first | omega | (simp only [ByteArray.size_append] at *; omega))])
                    simp only [Act.put, List.setIfInBounds_toArray, List.set_cons_zero, List.set_cons_succ]
                    refine wpAnyH_take (i := 10) (oi := { dst := some 48, op := Go.Op.pick (Go.Operand.tmp 44) (Go.Operand.const (Go.Value.bool true)) (Go.Operand.tmp 47), type := 4, pos := _, after := #[{ on := 6, ground := Go.Ground.data }, { on := 9, ground := Go.Ground.data }], guard := none }) (v := ?_) rfl (by kernel_rfl) (by kernel_rfl) (by kernel_rfl) (fun _ _ _ h => h) (Or.inl ⟨by rfl, ?_⟩) (by assumption) ?_
                    rotate_left
                    · intro w hSw; (try dsimp only at hSw); go_simp <;> first | with_reducible rfl | (rw [if_neg (by first | omega | (simp only [ByteArray.size_append] at *; omega))])
                    simp only [Act.put, List.setIfInBounds_toArray, List.set_cons_zero, List.set_cons_succ]
                    refine wpAnyH_take (i := 11) (oi := { dst := some 49, op := Go.Op.move (Go.Operand.tmp 48), type := 4, pos := _, after := #[{ on := 10, ground := Go.Ground.data }, { on := 6, ground := Go.Ground.chain }], guard := none }) (v := ?_) rfl (by kernel_rfl) (by kernel_rfl) (by kernel_rfl) (fun _ _ _ h => h) (Or.inl ⟨by rfl, ?_⟩) (by assumption) ?_
                    rotate_left
                    · intro w hSw; (try dsimp only at hSw); go_simp <;> first | with_reducible rfl | (rw [if_neg (by first | omega | (simp only [ByteArray.size_append] at *; omega))])
                    simp only [Act.put, List.setIfInBounds_toArray, List.set_cons_zero, List.set_cons_succ]
                    refine wpAnyH_take (i := 12) (oi := { dst := some 50, op := Go.Op.fieldAddr 40 (Go.Operand.tmp 6) 4, type := 0, pos := _, after := #[{ on := 11, ground := Go.Ground.guard }], guard := some (11, false) }) (v := ?_) rfl (by kernel_rfl) (by kernel_rfl) (by kernel_rfl) (fun _ _ _ h => h) (Or.inl ⟨by rfl, ?_⟩) (by assumption) ?_
                    rotate_left
                    · intro w hSw; (try dsimp only at hSw); go_simp <;> first | with_reducible rfl | (rw [if_neg (by first | omega | (simp only [ByteArray.size_append] at *; omega))])
                    simp only [Act.put, List.setIfInBounds_toArray, List.set_cons_zero, List.set_cons_succ]
                    refine wpAnyH_take (i := 13) (oi := { dst := some 51, op := Go.Op.load 30 (Go.Operand.tmp 50), type := 30, pos := _, after := #[{ on := 12, ground := Go.Ground.data }, { on := 11, ground := Go.Ground.guard }], guard := some (11, false) }) (v := ?_) rfl (by kernel_rfl) (by kernel_rfl) (by kernel_rfl) (fun _ _ _ h => h) (Or.inl ⟨by rfl, ?_⟩) (by assumption) ?_
                    rotate_left
                    · intro w hSw; (try dsimp only at hSw); go_simp <;> first | with_reducible rfl | (rw [if_neg (by first | omega | (simp only [ByteArray.size_append] at *; omega))])
                    simp only [Act.put, List.setIfInBounds_toArray, List.set_cons_zero, List.set_cons_succ]
                    refine wpAnyH_ready (rs := [14]) (by kernel_rfl) (by simp) ?_
                    refine AllReadyH.cons (o := { dst := some 52, op := Go.Op.call { callee := Go.Callee.value (Go.Operand.func 10), args := #[Go.Operand.tmp 51], argTypes := #[30] }, type := 4, pos := _, after := #[{ on := 13, ground := Go.Ground.data }, { on := 11, ground := Go.Ground.chain }, { on := 11, ground := Go.Ground.guard }], guard := some (11, false) }) rfl (fun K hK => ?_) AllReadyH.nil
                    go_simp
                    refine (cck.out _ (HSt.out.keep B5.out) (HR.out.below B5.out) (HJ.out.below B5.out)).mono ?_
                    rintro e w6 ⟨rfl, hb6⟩
                    have v0 := cell_kept u0 hb6
                    have v1 := cell_kept u1 hb6
                    have v2 := cell_kept u2 hb6
                    have v3 := cell_kept u3 hb6
                    have v4 := cell_kept u4 hb6
                    have v5 := cell_kept u5 hb6
                    have v6 := cell_kept u6 hb6
                    have v7 := cell_kept u7 hb6
                    have v8 := cell_kept u8 hb6
                    have B6 := hid (bstep B5.out hb6)
                    go_wp2_with fail
                    refine hK.out _ _ ?_ (fun hHeld3 => ?_)
                    · exact ⟨v0, v1, v2, v3, v4, v5, v6, v7, v8⟩
                    clear hK K
                    refine wpAnyH_take (i := 15) (oi := { dst := some 53, op := Go.Op.unOp Go.UnOp.not 4 (Go.Operand.tmp 52), type := 4, pos := _, after := #[{ on := 14, ground := Go.Ground.data }, { on := 11, ground := Go.Ground.guard }], guard := some (11, false) }) (v := ?_) rfl (by kernel_rfl) (by kernel_rfl) (by kernel_rfl) (fun _ _ _ h => h) (Or.inl ⟨by rfl, ?_⟩) (by assumption) ?_
                    rotate_left
                    · intro w hSw; (try dsimp only at hSw); go_simp <;> first | with_reducible rfl | (rw [if_neg (by first | omega | (simp only [ByteArray.size_append] at *; omega))])
                    simp only [Act.put, List.setIfInBounds_toArray, List.set_cons_zero, List.set_cons_succ]
                    refine wpAnyH_take (i := 16) (oi := { dst := some 54, op := Go.Op.pick (Go.Operand.tmp 49) (Go.Operand.const (Go.Value.bool true)) (Go.Operand.tmp 53), type := 4, pos := _, after := #[{ on := 11, ground := Go.Ground.data }, { on := 15, ground := Go.Ground.data }], guard := none }) (v := ?_) rfl (by kernel_rfl) (by kernel_rfl) (by kernel_rfl) (fun _ _ _ h => h) (Or.inl ⟨by rfl, ?_⟩) (by assumption) ?_
                    rotate_left
                    · intro w hSw; (try dsimp only at hSw); go_simp <;> first | with_reducible rfl | (rw [if_neg (by first | omega | (simp only [ByteArray.size_append] at *; omega))])
                    simp only [Act.put, List.setIfInBounds_toArray, List.set_cons_zero, List.set_cons_succ]
                    refine wpAnyH_done (by kernel_rfl) ?_ _
                    go_wp2
                    go_ret
                    exact ⟨by rw [← hyes.out, hI.out, HN.out hf.out]; rfl, B6.out⟩
                  | true =>
                    rw [hchk] at cck
                    have hf : Hid (flOk y p.st = true) := by unfold Hid flOk; rw [hh, hdb, hchk]; rfl
                    clear hh hd hchk
                    go_wp2
                    refine wp_region_held_drew (S := fun W => W.cell? ⟨w.heap.size, 0, none⟩ = some (.int .i64 p.st) ∧ W.cell? ⟨wr.heap.size, 0, none⟩ = some (.string y.name) ∧ W.cell? ⟨wr.heap.size, 1, none⟩ = some (.int .u8 (y.ty : Int)) ∧ W.cell? ⟨wr.heap.size, 2, none⟩ = some (.int .i64 y.st) ∧ W.cell? ⟨wr.heap.size, 3, none⟩ = some (.int .i64 y.df) ∧ W.cell? ⟨wr.heap.size, 4, none⟩ = some (.int .u8 (y.body.op : Int)) ∧ W.cell? ⟨wr.heap.size, 5, none⟩ = some (.int .i64 y.body.n) ∧ W.cell? ⟨wr.heap.size, 6, none⟩ = some (.string y.body.name) ∧ W.cell? ⟨wr.heap.size, 7, none⟩ = some (.slice a3 y.body.args.length c3)) (by kernel_rfl) ?_ (fun hHeld => ?_)
                    · exact ⟨s0, s1, s2, s3, s4, s5, s6, s7, s8⟩
                    refine wpAnyH_take (i := 0) (oi := { dst := some 38, op := Go.Op.load 40 (Go.Operand.tmp 6), type := 40, pos := _, after := #[], guard := none }) (v := ?_) rfl (by kernel_rfl) (by kernel_rfl) (by kernel_rfl) (fun _ _ _ h => h) (Or.inl ⟨by rfl, ?_⟩) (by assumption) ?_
                    rotate_left
                    · intro w hSw; (try dsimp only at hSw); go_simp <;> first | with_reducible rfl | (rw [if_neg (by first | omega | (simp only [ByteArray.size_append] at *; omega))])
                    simp only [Act.put, List.setIfInBounds_toArray, List.set_cons_zero, List.set_cons_succ]
                    refine wpAnyH_take (i := 2) (oi := { dst := some 40, op := Go.Op.fieldAddr 26 (Go.Operand.tmp 1) 0, type := 0, pos := _, after := #[], guard := none }) (v := ?_) rfl (by kernel_rfl) (by kernel_rfl) (by kernel_rfl) (fun _ _ _ h => h) (Or.inl ⟨by rfl, ?_⟩) (by assumption) ?_
                    rotate_left
                    · intro w hSw; (try dsimp only at hSw); go_simp <;> first | with_reducible rfl | (rw [if_neg (by first | omega | (simp only [ByteArray.size_append] at *; omega))])
                    simp only [Act.put, List.setIfInBounds_toArray, List.set_cons_zero, List.set_cons_succ]
                    refine wpAnyH_take (i := 3) (oi := { dst := some 41, op := Go.Op.load 3 (Go.Operand.tmp 40), type := 3, pos := _, after := #[{ on := 2, ground := Go.Ground.data }], guard := none }) (v := ?_) rfl (by kernel_rfl) (by kernel_rfl) (by kernel_rfl) (fun _ _ _ h => h) (Or.inl ⟨by rfl, ?_⟩) (by assumption) ?_
                    rotate_left
                    · intro w hSw; (try dsimp only at hSw); go_simp <;> first | with_reducible rfl | (rw [if_neg (by first | omega | (simp only [ByteArray.size_append] at *; omega))])
                    simp only [Act.put, List.setIfInBounds_toArray, List.set_cons_zero, List.set_cons_succ]
                    refine wpAnyH_ready (rs := [1]) (by kernel_rfl) (by simp) ?_
                    refine AllReadyH.cons (o := { dst := some 39, op := Go.Op.call { callee := Go.Callee.value (Go.Operand.func 44), args := #[Go.Operand.tmp 38], argTypes := #[40] }, type := 63, pos := _, after := #[{ on := 0, ground := Go.Ground.data }], guard := none }) rfl (fun K hK => ?_) AllReadyH.nil
                    go_simp
                    refine (head_of y _ _ ⟨_, _, _, rfl⟩).mono ?_
                    rintro e w4 ⟨rfl, hb4⟩
                    have t0 := cell_kept (w := (wr.alloc (.cells #[.string y.name, .int .u8 (y.ty : Int), .int .i64 y.st, .int .i64 y.df, .int .u8 (y.body.op : Int), .int .i64 y.body.n, .string y.body.name, .slice a3 y.body.args.length c3] 40)).drew) s0 hb4
                    have t1 := cell_kept (w := (wr.alloc (.cells #[.string y.name, .int .u8 (y.ty : Int), .int .i64 y.st, .int .i64 y.df, .int .u8 (y.body.op : Int), .int .i64 y.body.n, .string y.body.name, .slice a3 y.body.args.length c3] 40)).drew) s1 hb4
                    have t2 := cell_kept (w := (wr.alloc (.cells #[.string y.name, .int .u8 (y.ty : Int), .int .i64 y.st, .int .i64 y.df, .int .u8 (y.body.op : Int), .int .i64 y.body.n, .string y.body.name, .slice a3 y.body.args.length c3] 40)).drew) s2 hb4
                    have t3 := cell_kept (w := (wr.alloc (.cells #[.string y.name, .int .u8 (y.ty : Int), .int .i64 y.st, .int .i64 y.df, .int .u8 (y.body.op : Int), .int .i64 y.body.n, .string y.body.name, .slice a3 y.body.args.length c3] 40)).drew) s3 hb4
                    have t4 := cell_kept (w := (wr.alloc (.cells #[.string y.name, .int .u8 (y.ty : Int), .int .i64 y.st, .int .i64 y.df, .int .u8 (y.body.op : Int), .int .i64 y.body.n, .string y.body.name, .slice a3 y.body.args.length c3] 40)).drew) s4 hb4
                    have t5 := cell_kept (w := (wr.alloc (.cells #[.string y.name, .int .u8 (y.ty : Int), .int .i64 y.st, .int .i64 y.df, .int .u8 (y.body.op : Int), .int .i64 y.body.n, .string y.body.name, .slice a3 y.body.args.length c3] 40)).drew) s5 hb4
                    have t6 := cell_kept (w := (wr.alloc (.cells #[.string y.name, .int .u8 (y.ty : Int), .int .i64 y.st, .int .i64 y.df, .int .u8 (y.body.op : Int), .int .i64 y.body.n, .string y.body.name, .slice a3 y.body.args.length c3] 40)).drew) s6 hb4
                    have t7 := cell_kept (w := (wr.alloc (.cells #[.string y.name, .int .u8 (y.ty : Int), .int .i64 y.st, .int .i64 y.df, .int .u8 (y.body.op : Int), .int .i64 y.body.n, .string y.body.name, .slice a3 y.body.args.length c3] 40)).drew) s7 hb4
                    have t8 := cell_kept (w := (wr.alloc (.cells #[.string y.name, .int .u8 (y.ty : Int), .int .i64 y.st, .int .i64 y.df, .int .u8 (y.body.op : Int), .int .i64 y.body.n, .string y.body.name, .slice a3 y.body.args.length c3] 40)).drew) s8 hb4
                    have B4 := hid (bstep BW.out hb4)
                    go_wp2_with fail
                    refine hK.out _ _ ?_ (fun hHeld1 => ?_)
                    · exact ⟨t0, t1, t2, t3, t4, t5, t6, t7, t8⟩
                    clear hK K
                    refine wpAnyH_ready (rs := [4]) (by kernel_rfl) (by simp) ?_
                    refine AllReadyH.cons (o := { dst := some 42, op := Go.Op.call { callee := Go.Callee.value (Go.Operand.func 43), args := #[Go.Operand.tmp 39, Go.Operand.tmp 41], argTypes := #[63, 3] }, type := 4, pos := _, after := #[{ on := 1, ground := Go.Ground.data }, { on := 3, ground := Go.Ground.data }, { on := 1, ground := Go.Ground.chain }], guard := none }) rfl (fun K hK => ?_) AllReadyH.nil
                    go_simp
                    refine (cms.out _ (HR.out.below B4.out)).mono ?_
                    rintro e w5 ⟨rfl, hb5⟩
                    have u0 := cell_kept t0 hb5
                    have u1 := cell_kept t1 hb5
                    have u2 := cell_kept t2 hb5
                    have u3 := cell_kept t3 hb5
                    have u4 := cell_kept t4 hb5
                    have u5 := cell_kept t5 hb5
                    have u6 := cell_kept t6 hb5
                    have u7 := cell_kept t7 hb5
                    have u8 := cell_kept t8 hb5
                    have B5 := hid (bstep B4.out hb5)
                    go_wp2_with fail
                    refine hK.out _ _ ?_ (fun hHeld2 => ?_)
                    · exact ⟨u0, u1, u2, u3, u4, u5, u6, u7, u8⟩
                    clear hK K
                    refine wpAnyH_take (i := 5) (oi := { dst := some 43, op := Go.Op.unOp Go.UnOp.not 4 (Go.Operand.tmp 42), type := 4, pos := _, after := #[{ on := 4, ground := Go.Ground.data }], guard := none }) (v := ?_) rfl (by kernel_rfl) (by kernel_rfl) (by kernel_rfl) (fun _ _ _ h => h) (Or.inl ⟨by rfl, ?_⟩) (by assumption) ?_
                    rotate_left
                    · intro w hSw; (try dsimp only at hSw); go_simp <;> first | with_reducible rfl | (rw [if_neg (by first | omega | (simp only [ByteArray.size_append] at *; omega))])
                    simp only [Act.put, List.setIfInBounds_toArray, List.set_cons_zero, List.set_cons_succ]
                    refine wpAnyH_take (i := 6) (oi := { dst := some 44, op := Go.Op.move (Go.Operand.tmp 43), type := 4, pos := _, after := #[{ on := 5, ground := Go.Ground.data }, { on := 4, ground := Go.Ground.chain }], guard := none }) (v := ?_) rfl (by kernel_rfl) (by kernel_rfl) (by kernel_rfl) (fun _ _ _ h => h) (Or.inl ⟨by rfl, ?_⟩) (by assumption) ?_
                    rotate_left
                    · intro w hSw; (try dsimp only at hSw); go_simp <;> first | with_reducible rfl | (rw [if_neg (by first | omega | (simp only [ByteArray.size_append] at *; omega))])
                    simp only [Act.put, List.setIfInBounds_toArray, List.set_cons_zero, List.set_cons_succ]
                    refine wpAnyH_take (i := 7) (oi := { dst := some 45, op := Go.Op.fieldAddr 40 (Go.Operand.tmp 6) 3, type := 0, pos := _, after := #[{ on := 6, ground := Go.Ground.guard }], guard := some (6, false) }) (v := ?_) rfl (by kernel_rfl) (by kernel_rfl) (by kernel_rfl) (fun _ _ _ h => h) (Or.inl ⟨by rfl, ?_⟩) (by assumption) ?_
                    rotate_left
                    · intro w hSw; (try dsimp only at hSw); go_simp <;> first | with_reducible rfl | (rw [if_neg (by first | omega | (simp only [ByteArray.size_append] at *; omega))])
                    simp only [Act.put, List.setIfInBounds_toArray, List.set_cons_zero, List.set_cons_succ]
                    refine wpAnyH_take (i := 8) (oi := { dst := some 46, op := Go.Op.load 2 (Go.Operand.tmp 45), type := 2, pos := _, after := #[{ on := 7, ground := Go.Ground.data }, { on := 6, ground := Go.Ground.guard }], guard := some (6, false) }) (v := ?_) rfl (by kernel_rfl) (by kernel_rfl) (by kernel_rfl) (fun _ _ _ h => h) (Or.inl ⟨by rfl, ?_⟩) (by assumption) ?_
                    rotate_left
                    · intro w hSw; (try dsimp only at hSw); go_simp <;> first | with_reducible rfl | (rw [if_neg (by first | omega | (simp only [ByteArray.size_append] at *; omega))])
                    simp only [Act.put, List.setIfInBounds_toArray, List.set_cons_zero, List.set_cons_succ]
                    refine wpAnyH_take (i := 9) (oi := { dst := some 47, op := Go.Op.binOp Go.BinOp.eql 2 (Go.Operand.tmp 46) (Go.Operand.const (Go.Value.int Go.IntKind.i64 (-9223372036854775808))) 2, type := 4, pos := _, after := #[{ on := 8, ground := Go.Ground.data }, { on := 6, ground := Go.Ground.guard }], guard := some (6, false) }) (v := ?_) rfl (by kernel_rfl) (by kernel_rfl) (by kernel_rfl) (fun _ _ _ h => h) (Or.inl ⟨by rfl, ?_⟩) (by assumption) ?_
                    rotate_left
                    · intro w hSw; (try dsimp only at hSw); go_simp <;> first | with_reducible rfl | (rw [if_neg (by first | omega | (simp only [ByteArray.size_append] at *; omega))])
                    simp only [Act.put, List.setIfInBounds_toArray, List.set_cons_zero, List.set_cons_succ]
                    refine wpAnyH_take (i := 10) (oi := { dst := some 48, op := Go.Op.pick (Go.Operand.tmp 44) (Go.Operand.const (Go.Value.bool true)) (Go.Operand.tmp 47), type := 4, pos := _, after := #[{ on := 6, ground := Go.Ground.data }, { on := 9, ground := Go.Ground.data }], guard := none }) (v := ?_) rfl (by kernel_rfl) (by kernel_rfl) (by kernel_rfl) (fun _ _ _ h => h) (Or.inl ⟨by rfl, ?_⟩) (by assumption) ?_
                    rotate_left
                    · intro w hSw; (try dsimp only at hSw); go_simp <;> first | with_reducible rfl | (rw [if_neg (by first | omega | (simp only [ByteArray.size_append] at *; omega))])
                    simp only [Act.put, List.setIfInBounds_toArray, List.set_cons_zero, List.set_cons_succ]
                    refine wpAnyH_take (i := 11) (oi := { dst := some 49, op := Go.Op.move (Go.Operand.tmp 48), type := 4, pos := _, after := #[{ on := 10, ground := Go.Ground.data }, { on := 6, ground := Go.Ground.chain }], guard := none }) (v := ?_) rfl (by kernel_rfl) (by kernel_rfl) (by kernel_rfl) (fun _ _ _ h => h) (Or.inl ⟨by rfl, ?_⟩) (by assumption) ?_
                    rotate_left
                    · intro w hSw; (try dsimp only at hSw); go_simp <;> first | with_reducible rfl | (rw [if_neg (by first | omega | (simp only [ByteArray.size_append] at *; omega))])
                    simp only [Act.put, List.setIfInBounds_toArray, List.set_cons_zero, List.set_cons_succ]
                    refine wpAnyH_take (i := 12) (oi := { dst := some 50, op := Go.Op.fieldAddr 40 (Go.Operand.tmp 6) 4, type := 0, pos := _, after := #[{ on := 11, ground := Go.Ground.guard }], guard := some (11, false) }) (v := ?_) rfl (by kernel_rfl) (by kernel_rfl) (by kernel_rfl) (fun _ _ _ h => h) (Or.inl ⟨by rfl, ?_⟩) (by assumption) ?_
                    rotate_left
                    · intro w hSw; (try dsimp only at hSw); go_simp <;> first | with_reducible rfl | (rw [if_neg (by first | omega | (simp only [ByteArray.size_append] at *; omega))])
                    simp only [Act.put, List.setIfInBounds_toArray, List.set_cons_zero, List.set_cons_succ]
                    refine wpAnyH_take (i := 13) (oi := { dst := some 51, op := Go.Op.load 30 (Go.Operand.tmp 50), type := 30, pos := _, after := #[{ on := 12, ground := Go.Ground.data }, { on := 11, ground := Go.Ground.guard }], guard := some (11, false) }) (v := ?_) rfl (by kernel_rfl) (by kernel_rfl) (by kernel_rfl) (fun _ _ _ h => h) (Or.inl ⟨by rfl, ?_⟩) (by assumption) ?_
                    rotate_left
                    · intro w hSw; (try dsimp only at hSw); go_simp <;> first | with_reducible rfl | (rw [if_neg (by first | omega | (simp only [ByteArray.size_append] at *; omega))])
                    simp only [Act.put, List.setIfInBounds_toArray, List.set_cons_zero, List.set_cons_succ]
                    refine wpAnyH_ready (rs := [14]) (by kernel_rfl) (by simp) ?_
                    refine AllReadyH.cons (o := { dst := some 52, op := Go.Op.call { callee := Go.Callee.value (Go.Operand.func 10), args := #[Go.Operand.tmp 51], argTypes := #[30] }, type := 4, pos := _, after := #[{ on := 13, ground := Go.Ground.data }, { on := 11, ground := Go.Ground.chain }, { on := 11, ground := Go.Ground.guard }], guard := some (11, false) }) rfl (fun K hK => ?_) AllReadyH.nil
                    go_simp
                    refine (cck.out _ (HSt.out.keep B5.out) (HR.out.below B5.out) (HJ.out.below B5.out)).mono ?_
                    rintro e w6 ⟨rfl, hb6⟩
                    have v0 := cell_kept u0 hb6
                    have v1 := cell_kept u1 hb6
                    have v2 := cell_kept u2 hb6
                    have v3 := cell_kept u3 hb6
                    have v4 := cell_kept u4 hb6
                    have v5 := cell_kept u5 hb6
                    have v6 := cell_kept u6 hb6
                    have v7 := cell_kept u7 hb6
                    have v8 := cell_kept u8 hb6
                    have B6 := hid (bstep B5.out hb6)
                    go_wp2_with fail
                    refine hK.out _ _ ?_ (fun hHeld3 => ?_)
                    · exact ⟨v0, v1, v2, v3, v4, v5, v6, v7, v8⟩
                    clear hK K
                    refine wpAnyH_take (i := 15) (oi := { dst := some 53, op := Go.Op.unOp Go.UnOp.not 4 (Go.Operand.tmp 52), type := 4, pos := _, after := #[{ on := 14, ground := Go.Ground.data }, { on := 11, ground := Go.Ground.guard }], guard := some (11, false) }) (v := ?_) rfl (by kernel_rfl) (by kernel_rfl) (by kernel_rfl) (fun _ _ _ h => h) (Or.inl ⟨by rfl, ?_⟩) (by assumption) ?_
                    rotate_left
                    · intro w hSw; (try dsimp only at hSw); go_simp <;> first | with_reducible rfl | (rw [if_neg (by first | omega | (simp only [ByteArray.size_append] at *; omega))])
                    simp only [Act.put, List.setIfInBounds_toArray, List.set_cons_zero, List.set_cons_succ]
                    refine wpAnyH_take (i := 16) (oi := { dst := some 54, op := Go.Op.pick (Go.Operand.tmp 49) (Go.Operand.const (Go.Value.bool true)) (Go.Operand.tmp 53), type := 4, pos := _, after := #[{ on := 11, ground := Go.Ground.data }, { on := 15, ground := Go.Ground.data }], guard := none }) (v := ?_) rfl (by kernel_rfl) (by kernel_rfl) (by kernel_rfl) (fun _ _ _ h => h) (Or.inl ⟨by rfl, ?_⟩) (by assumption) ?_
                    rotate_left
                    · intro w hSw; (try dsimp only at hSw); go_simp <;> first | with_reducible rfl | (rw [if_neg (by first | omega | (simp only [ByteArray.size_append] at *; omega))])
                    simp only [Act.put, List.setIfInBounds_toArray, List.set_cons_zero, List.set_cons_succ]
                    refine wpAnyH_done (by kernel_rfl) ?_ _
                    go_wp2
                    go_roundw
                    case rel => exact ⟨j + 1, by omega, by go_num, hid (HY.out hf.out), bstep (bstep (bstep BL.out.drew hb4) hb5) hb6⟩
                    case measure => simp [intOf]; omega
            · have hjl' : ¬ (j : Int) < (p.flows.length : Int) := by omega
              have hF : Hid (p.flows.all (fun x => flOk x p.st) = true) := by rw [List.take_of_length_le (by omega)] at hA2; exact hA2
              have z3 := cell_kept Y3.out hB2.out
              go_wp2
              go_loopw [59] (fun i wr => ∃ k : Nat, k ≤ p.outs.length ∧ i = .int .i64 (k : Int) ∧ Hid ((p.outs.take k).all isName = true) ∧ Hid (Below w2.heap.size w2 wr)) (fun i _ => p.outs.length - (intOf i).toNat)
              case atStart => exact ⟨0, Nat.zero_le _, rfl, hid (by simp), hB2⟩
              case round =>
                obtain ⟨m, hm, rfl, hA3, hB3⟩ := hrel
                by_cases hml : m < p.outs.length
                · have hml' : (m : Int) < (p.outs.length : Int) := by omega
                  have hm0 : (0 : Int) ≤ (m : Int) := by omega
                  obtain ⟨bb, o, rfl, hcc⟩ := HC3.out.resolve_left (by omega)
                  have v0 := cell_kept (hcc m hml) (bstep B2.out hB3.out)
                  have cn := name p.outs[m] _ (HR.out.below (bstep B2.out hB3.out))
                  have HY := hid (fun h => all_take_succ (f := isName) hml hA3.out h)
                  have HN := hid (fun h => all_no (f := isName) hml h)
                  clear hcc
                  generalize p.outs[m] = y at *
                  cases hh : isName y with
                  | true =>
                    rw [hh] at cn
                    go_wp2_with (go_at_call 39; refine cn.mono ?_; rintro e w4 ⟨rfl, hb4⟩)
                    go_roundw
                    case rel => exact ⟨m + 1, by omega, by go_num, hid (HY.out hh), bstep hB3.out hb4⟩
                    case measure => simp [intOf]; omega
                  | false =>
                    rw [hh] at cn
                    go_wp2_with (go_at_call 39; refine cn.mono ?_; rintro e w4 ⟨rfl, hb4⟩)
                    go_ret
                    exact ⟨by rw [← hyes.out, hI.out, hF.out, HN.out hh]; rfl, bstep (bstep B2.out hB3.out) hb4⟩
                · have hml' : ¬ (m : Int) < (p.outs.length : Int) := by omega
                  have hO : Hid (p.outs.all isName = true) := by rw [List.take_of_length_le (by omega)] at hA3; exact hA3
                  go_wp2
                  go_ret
                  exact ⟨by rw [← hyes.out, hI.out, hF.out, hO.out]; rfl, bstep B2.out hB3.out⟩
end Go.Proofs.YtejacmgppnafcabDoor.Lex
namespace Go.Proofs.YtejacmgppnafcabDoor.Lex
open Go.ChangeShapes Go.WideShapes Go.ChangeAt Go.RowKit Go.Shelf
attribute [local go_sem] Oper.semAt_some
/-- The first of them that has the name. -/
def findT (l : List (Int × Hd)) (name : ByteArray) : Option (Int × Hd) := l.find? fun x => x.2.name.toList == name.toList
/-- What is answered. -/
def foV (o : Option (Int × Hd)) : Array Value := match o with
  | some x => #[.int .i64 x.2.st, .int .u8 (x.2.ty : Int), .int .i64 x.1, .bool true]
  | none => #[.int .i64 0, .int .u8 0, .int .i64 0, .bool false]
/-- None of them has it. -/
def Free (l : List (Int × Hd)) (name : ByteArray) : Prop := ∀ x ∈ l, (x.2.name.toList == name.toList) = false
theorem findT_none {l : List (Int × Hd)} {name : ByteArray} (h : Free l name) : findT l name = none := by
  unfold findT
  rw [List.find?_eq_none]
  intro x hx
  simp [h x hx]
theorem findT_some {l pre : List (Int × Hd)} {x : Int × Hd} {name : ByteArray} (hp : pre ++ [x] <+: l) (h : Free pre name) (hx : (x.2.name.toList == name.toList) = true) : findT l name = some x := by
  obtain ⟨t, rfl⟩ := hp
  have h' := findT_none h
  unfold findT at h' ⊢
  rw [List.append_assoc, List.find?_append, h']
  simp [hx]
theorem Free.snoc {l : List (Int × Hd)} {x : Int × Hd} {name : ByteArray} (h : Free l name) (hx : (x.2.name.toList == name.toList) = false) : Free (l ++ [x]) name := by
  intro y hy
  rcases List.mem_append.1 hy with hy | hy
  · exact h y hy
  · rw [List.mem_singleton.1 hy]; exact hx
theorem box_turn {B0 : Nat} {X Y : World} {row : Option Nat} {B : Nat} {t : TypeId} {v : Value} (h : Boxed X B t v) (hg : X.grownBy Y row) (hr : ∀ r, row = some r → B0 ≤ r ∧ ∃ o : Obj, X.heap[r]? = some o ∧ o.isCells = false) : Boxed Y B t v :=
  boxed_own B t (fun (_ : Unit) => v) () X Y row h hg (fun r e => (hr r e).2)
theorem grownBy_keeps_cells {X Y : World} {row : Option Nat} {B : Nat} {c : Array Value} {t : TypeId} {f : Nat × Nat} (hg : X.grownBy Y row) (hr : ∀ r, row = some r → ∃ o : Obj, X.heap[r]? = some o ∧ o.isCells = false) (h : X.heap[B]? = some (.cells c t f)) : Y.heap[B]? = some (.cells c t f) := by
  refine (hg.block B (Array.getElem?_eq_some_iff.1 h).1 ?_).trans h
  intro e
  obtain ⟨o, ho, hc⟩ := hr B e.symm
  rw [h] at ho
  cases ho
  cases hc
theorem boxed_drew {W : World} {B : Nat} {t : TypeId} {v : Value} (h : Boxed W B t v) : Boxed W.drew B t v := h
/-- Four boxes that are stored into. -/
def four (W : World) (b : Nat) (u2 u3 u4 u5 : Value) : World := (((W.setCell ⟨b + 1 + 1, 0, none⟩ u2).setCell ⟨b + 1 + 1 + 1, 0, none⟩ u3).setCell ⟨b + 1 + 1 + 1 + 1, 0, none⟩ u4).setCell ⟨b + 1 + 1 + 1 + 1 + 1, 0, none⟩ u5
theorem four_keeps (W : World) (b : Nat) (u2 u3 u4 u5 : Value) : KeepsOthers W (four W b u2 u3 u4 u5) :=
  (((KeepsOthers.setCell _ _ _).trans (KeepsOthers.setCell _ _ _)).trans (KeepsOthers.setCell _ _ _)).trans (KeepsOthers.setCell _ _ _)
theorem four_below {w W : World} {b : Nat} (u2 u3 u4 u5 : Value) (h : Below b w W) : Below b w (four W b u2 u3 u4 u5) :=
  (((h.setCell (p := ⟨b + 1 + 1, 0, none⟩) (by simp; omega) u2).setCell (p := ⟨b + 1 + 1 + 1, 0, none⟩) (by simp; omega) u3).setCell (p := ⟨b + 1 + 1 + 1 + 1, 0, none⟩) (by simp; omega) u4).setCell (p := ⟨b + 1 + 1 + 1 + 1 + 1, 0, none⟩) (by simp; omega) u5
theorem four_boxed {W : World} {b t2 t3 t4 t5 : Nat} {v2 v3 v4 v5 : Value} (u2 u3 u4 u5 : Value) (c2 : Boxed W (b + 1 + 1) t2 v2) (c3 : Boxed W (b + 1 + 1 + 1) t3 v3) (c4 : Boxed W (b + 1 + 1 + 1 + 1) t4 v4) (c5 : Boxed W (b + 1 + 1 + 1 + 1 + 1) t5 v5) :
    Boxed (four W b u2 u3 u4 u5) (b + 1 + 1) t2 u2 ∧ Boxed (four W b u2 u3 u4 u5) (b + 1 + 1 + 1) t3 u3 ∧ Boxed (four W b u2 u3 u4 u5) (b + 1 + 1 + 1 + 1) t4 u4 ∧ Boxed (four W b u2 u3 u4 u5) (b + 1 + 1 + 1 + 1 + 1) t5 u5 :=
  ⟨(((c2.set u2).other (by omega) u3).other (by omega) u4).other (by omega) u5, (((c3.other (by omega) u2).set u3).other (by omega) u4).other (by omega) u5, (((c4.other (by omega) u2).other (by omega) u3).set u4).other (by omega) u5, (((c5.other (by omega) u2).other (by omega) u3).other (by omega) u4).set u5⟩
set_option maxRecDepth 100000 in
set_option maxHeartbeats 4000000 in
theorem find_in (F : Fence) (n : Nat) (h7 : F.fn 8) (h14 : F.fn 21) (h22 : F.fn 30) (hro : F.round = none) (hn : 6 ≤ n) (p : Pg) (name : ByteArray) (w : World) (a b c : Value) (hP : PgAt w p a b c) :
    CallsIn F n Tryd.prog 8 #[pgV p a b c, .string name] w fun e W' => e = .returned (.tuple (foV (findT (thingsL p) name))) ∧ Below w.heap.size w W' := by
  have h1 : 1 ≤ n := by omega
  obtain ⟨a0, a1, rfl, _⟩ := hP.ins
  obtain ⟨b0, b1, _, rfl, _⟩ := hP.flows
  obtain ⟨c0, c1, rfl, _⟩ := hP.outs
  have HP := hid hP
  clear hP
  refine callsIn_of_wp_marks Tryd.func8 rfl h7 ?_ hro
  simp only [Tryd.ntmps8, List.size_toArray, List.length_cons, List.length_nil, Nat.reduceAdd, Nat.reduceSub, Array.replicate_succ, Array.replicate_zero, List.push_toArray, List.append_toArray, List.nil_append, List.cons_append]
  gi_wp2_with (gi_at_call 21; refine (things F (n - 1) h14 hro p _ _ _ _).mono ?_; rintro e w' ⟨rfl, rfl⟩)
  have hB0 : Below w.heap.size w (((((((w.alloc (.cells (pgC p (.slice a0 p.ins.length a1) (.slice b0 p.flows.length b1) (.slice c0 p.outs.length c1)) 26)).alloc (.cells #[.string name] 9)).alloc (.cells #[.int .i64 0] 3)).alloc (.cells #[.int .u8 0] 38)).alloc (.cells #[.int .i64 0] 3)).alloc (.cells #[.bool false] 4)).alloc (.cells (pgC p (.slice a0 p.ins.length a1) (.slice b0 p.flows.length b1) (.slice c0 p.outs.length c1)) 26)) := ((((((((Below.refl w.heap.size w).alloc (by simp; try omega) (.cells (pgC p (.slice a0 p.ins.length a1) (.slice b0 p.flows.length b1) (.slice c0 p.outs.length c1)) 26)).alloc (by simp; try omega) (.cells #[.string name] 9)).alloc (by simp; try omega) (.cells #[.int .i64 0] 3)).alloc (by simp; try omega) (.cells #[.int .u8 0] 38)).alloc (by simp; try omega) (.cells #[.int .i64 0] 3)).alloc (by simp; try omega) (.cells #[.bool false] 4)).alloc (by simp; try omega) (.cells (pgC p (.slice a0 p.ins.length a1) (.slice b0 p.flows.length b1) (.slice c0 p.outs.length c1)) 26))
  have hsz : (((((((w.alloc (.cells (pgC p (.slice a0 p.ins.length a1) (.slice b0 p.flows.length b1) (.slice c0 p.outs.length c1)) 26)).alloc (.cells #[.string name] 9)).alloc (.cells #[.int .i64 0] 3)).alloc (.cells #[.int .u8 0] 38)).alloc (.cells #[.int .i64 0] 3)).alloc (.cells #[.bool false] 4)).alloc (.cells (pgC p (.slice a0 p.ins.length a1) (.slice b0 p.flows.length b1) (.slice c0 p.outs.length c1)) 26)).heap.size = w.heap.size + 7 := by simp
  have bN : Boxed (((((((w.alloc (.cells (pgC p (.slice a0 p.ins.length a1) (.slice b0 p.flows.length b1) (.slice c0 p.outs.length c1)) 26)).alloc (.cells #[.string name] 9)).alloc (.cells #[.int .i64 0] 3)).alloc (.cells #[.int .u8 0] 38)).alloc (.cells #[.int .i64 0] 3)).alloc (.cells #[.bool false] 4)).alloc (.cells (pgC p (.slice a0 p.ins.length a1) (.slice b0 p.flows.length b1) (.slice c0 p.outs.length c1)) 26)) (w.heap.size + 1) 9 (.string name) := by have := ((((((Boxed.new (w.alloc (.cells (pgC p (.slice a0 p.ins.length a1) (.slice b0 p.flows.length b1) (.slice c0 p.outs.length c1)) 26)) 9 (.string name)).alloc (.cells #[.int .i64 0] 3)).alloc (.cells #[.int .u8 0] 38)).alloc (.cells #[.int .i64 0] 3)).alloc (.cells #[.bool false] 4)).alloc (.cells (pgC p (.slice a0 p.ins.length a1) (.slice b0 p.flows.length b1) (.slice c0 p.outs.length c1)) 26)); simpa using this
  have b2 : Boxed (((((((w.alloc (.cells (pgC p (.slice a0 p.ins.length a1) (.slice b0 p.flows.length b1) (.slice c0 p.outs.length c1)) 26)).alloc (.cells #[.string name] 9)).alloc (.cells #[.int .i64 0] 3)).alloc (.cells #[.int .u8 0] 38)).alloc (.cells #[.int .i64 0] 3)).alloc (.cells #[.bool false] 4)).alloc (.cells (pgC p (.slice a0 p.ins.length a1) (.slice b0 p.flows.length b1) (.slice c0 p.outs.length c1)) 26)) (w.heap.size + 1 + 1) 3 (.int .i64 0) := by have := (((((Boxed.new ((w.alloc (.cells (pgC p (.slice a0 p.ins.length a1) (.slice b0 p.flows.length b1) (.slice c0 p.outs.length c1)) 26)).alloc (.cells #[.string name] 9)) 3 (.int .i64 0)).alloc (.cells #[.int .u8 0] 38)).alloc (.cells #[.int .i64 0] 3)).alloc (.cells #[.bool false] 4)).alloc (.cells (pgC p (.slice a0 p.ins.length a1) (.slice b0 p.flows.length b1) (.slice c0 p.outs.length c1)) 26)); simpa using this
  have b3 : Boxed (((((((w.alloc (.cells (pgC p (.slice a0 p.ins.length a1) (.slice b0 p.flows.length b1) (.slice c0 p.outs.length c1)) 26)).alloc (.cells #[.string name] 9)).alloc (.cells #[.int .i64 0] 3)).alloc (.cells #[.int .u8 0] 38)).alloc (.cells #[.int .i64 0] 3)).alloc (.cells #[.bool false] 4)).alloc (.cells (pgC p (.slice a0 p.ins.length a1) (.slice b0 p.flows.length b1) (.slice c0 p.outs.length c1)) 26)) (w.heap.size + 1 + 1 + 1) 38 (.int .u8 0) := by have := ((((Boxed.new (((w.alloc (.cells (pgC p (.slice a0 p.ins.length a1) (.slice b0 p.flows.length b1) (.slice c0 p.outs.length c1)) 26)).alloc (.cells #[.string name] 9)).alloc (.cells #[.int .i64 0] 3)) 38 (.int .u8 0)).alloc (.cells #[.int .i64 0] 3)).alloc (.cells #[.bool false] 4)).alloc (.cells (pgC p (.slice a0 p.ins.length a1) (.slice b0 p.flows.length b1) (.slice c0 p.outs.length c1)) 26)); simpa using this
  have b4 : Boxed (((((((w.alloc (.cells (pgC p (.slice a0 p.ins.length a1) (.slice b0 p.flows.length b1) (.slice c0 p.outs.length c1)) 26)).alloc (.cells #[.string name] 9)).alloc (.cells #[.int .i64 0] 3)).alloc (.cells #[.int .u8 0] 38)).alloc (.cells #[.int .i64 0] 3)).alloc (.cells #[.bool false] 4)).alloc (.cells (pgC p (.slice a0 p.ins.length a1) (.slice b0 p.flows.length b1) (.slice c0 p.outs.length c1)) 26)) (w.heap.size + 1 + 1 + 1 + 1) 3 (.int .i64 0) := by have := (((Boxed.new ((((w.alloc (.cells (pgC p (.slice a0 p.ins.length a1) (.slice b0 p.flows.length b1) (.slice c0 p.outs.length c1)) 26)).alloc (.cells #[.string name] 9)).alloc (.cells #[.int .i64 0] 3)).alloc (.cells #[.int .u8 0] 38)) 3 (.int .i64 0)).alloc (.cells #[.bool false] 4)).alloc (.cells (pgC p (.slice a0 p.ins.length a1) (.slice b0 p.flows.length b1) (.slice c0 p.outs.length c1)) 26)); simpa using this
  have b5 : Boxed (((((((w.alloc (.cells (pgC p (.slice a0 p.ins.length a1) (.slice b0 p.flows.length b1) (.slice c0 p.outs.length c1)) 26)).alloc (.cells #[.string name] 9)).alloc (.cells #[.int .i64 0] 3)).alloc (.cells #[.int .u8 0] 38)).alloc (.cells #[.int .i64 0] 3)).alloc (.cells #[.bool false] 4)).alloc (.cells (pgC p (.slice a0 p.ins.length a1) (.slice b0 p.flows.length b1) (.slice c0 p.outs.length c1)) 26)) (w.heap.size + 1 + 1 + 1 + 1 + 1) 4 (.bool false) := by have := ((Boxed.new (((((w.alloc (.cells (pgC p (.slice a0 p.ins.length a1) (.slice b0 p.flows.length b1) (.slice c0 p.outs.length c1)) 26)).alloc (.cells #[.string name] 9)).alloc (.cells #[.int .i64 0] 3)).alloc (.cells #[.int .u8 0] 38)).alloc (.cells #[.int .i64 0] 3)) 4 (.bool false)).alloc (.cells (pgC p (.slice a0 p.ins.length a1) (.slice b0 p.flows.length b1) (.slice c0 p.outs.length c1)) 26)); simpa using this
  have x1 : (((((((w.alloc (.cells (pgC p (.slice a0 p.ins.length a1) (.slice b0 p.flows.length b1) (.slice c0 p.outs.length c1)) 26)).alloc (.cells #[.string name] 9)).alloc (.cells #[.int .i64 0] 3)).alloc (.cells #[.int .u8 0] 38)).alloc (.cells #[.int .i64 0] 3)).alloc (.cells #[.bool false] 4)).alloc (.cells (pgC p (.slice a0 p.ins.length a1) (.slice b0 p.flows.length b1) (.slice c0 p.outs.length c1)) 26)).cell? ⟨w.heap.size + 1 + 1 + 1 + 1 + 1 + 1, 1, none⟩ = some (.slice a0 p.ins.length a1) := by have := box_at ((((((w.alloc (.cells (pgC p (.slice a0 p.ins.length a1) (.slice b0 p.flows.length b1) (.slice c0 p.outs.length c1)) 26)).alloc (.cells #[.string name] 9)).alloc (.cells #[.int .i64 0] 3)).alloc (.cells #[.int .u8 0] 38)).alloc (.cells #[.int .i64 0] 3)).alloc (.cells #[.bool false] 4)) (pgC p (.slice a0 p.ins.length a1) (.slice b0 p.flows.length b1) (.slice c0 p.outs.length c1)) 26 1 (.slice a0 p.ins.length a1) rfl; simpa using this
  have x2 : (((((((w.alloc (.cells (pgC p (.slice a0 p.ins.length a1) (.slice b0 p.flows.length b1) (.slice c0 p.outs.length c1)) 26)).alloc (.cells #[.string name] 9)).alloc (.cells #[.int .i64 0] 3)).alloc (.cells #[.int .u8 0] 38)).alloc (.cells #[.int .i64 0] 3)).alloc (.cells #[.bool false] 4)).alloc (.cells (pgC p (.slice a0 p.ins.length a1) (.slice b0 p.flows.length b1) (.slice c0 p.outs.length c1)) 26)).cell? ⟨w.heap.size + 1 + 1 + 1 + 1 + 1 + 1, 2, none⟩ = some (.slice b0 p.flows.length b1) := by have := box_at ((((((w.alloc (.cells (pgC p (.slice a0 p.ins.length a1) (.slice b0 p.flows.length b1) (.slice c0 p.outs.length c1)) 26)).alloc (.cells #[.string name] 9)).alloc (.cells #[.int .i64 0] 3)).alloc (.cells #[.int .u8 0] 38)).alloc (.cells #[.int .i64 0] 3)).alloc (.cells #[.bool false] 4)) (pgC p (.slice a0 p.ins.length a1) (.slice b0 p.flows.length b1) (.slice c0 p.outs.length c1)) 26 2 (.slice b0 p.flows.length b1) rfl; simpa using this
  obtain ⟨W0, hW0⟩ : ∃ W0, (((((((w.alloc (.cells (pgC p (.slice a0 p.ins.length a1) (.slice b0 p.flows.length b1) (.slice c0 p.outs.length c1)) 26)).alloc (.cells #[.string name] 9)).alloc (.cells #[.int .i64 0] 3)).alloc (.cells #[.int .u8 0] 38)).alloc (.cells #[.int .i64 0] 3)).alloc (.cells #[.bool false] 4)).alloc (.cells (pgC p (.slice a0 p.ins.length a1) (.slice b0 p.flows.length b1) (.slice c0 p.outs.length c1)) 26)) = W0 := ⟨_, rfl⟩
  rw [hW0] at hB0 hsz bN b2 b3 b4 b5 x1 x2 ⊢
  clear hW0
  have HP0 := hid (HP.out.keep hB0)
  refine wpIn_rangeFunc_ownH hro h1 (gf := 30) (lb := #[.pointer (some ⟨w.heap.size + 1 + 1 + 1 + 1 + 1 + 1, 0, none⟩)]) rfl h22 (enters_of Tryd.func30 (by kernel_rfl) rfl)
    (things_stops F (n - 1) h22 hro (by omega) (w.heap.size + 1 + 1 + 1 + 1 + 1 + 1) p _ _ _ W0 HP0.out x1 x2) belowK_t (belowK_b (Nat.le_refl _)) (Below.refl _ _) (fun _ => rfl)
    (fun pre W => (((((Free pre name ∧ Boxed W (w.heap.size + 1) 9 (.string name)) ∧ Boxed W (w.heap.size + 1 + 1) 3 (.int .i64 0)) ∧ Boxed W (w.heap.size + 1 + 1 + 1) 38 (.int .u8 0)) ∧ Boxed W (w.heap.size + 1 + 1 + 1 + 1) 3 (.int .i64 0)) ∧ Boxed W (w.heap.size + 1 + 1 + 1 + 1 + 1) 4 (.bool false)) ∧ (Below w.heap.size w W ∧ W0.heap.size ≤ W.heap.size))
    (fun c pre W => ∃ (q : List (Int × Hd)) (x : Int × Hd), (c = .ret ∧ pre = q ++ [x] ∧ Free q name ∧ (x.2.name.toList == name.toList) = true) ∧ Boxed W (w.heap.size + 1 + 1) 3 (.int .i64 x.2.st) ∧ Boxed W (w.heap.size + 1 + 1 + 1) 38 (.int .u8 (x.2.ty : Int)) ∧ Boxed W (w.heap.size + 1 + 1 + 1 + 1) 3 (.int .i64 x.1) ∧ Boxed W (w.heap.size + 1 + 1 + 1 + 1 + 1) 4 (.bool true) ∧ Below w.heap.size w W)
    (OwnFrom.and (OwnFrom.and (OwnFrom.and (OwnFrom.and (OwnFrom.and (OwnFrom.and (ownFrom_pure _ _) (Own.from (boxed_own _ _ _) _)) (Own.from (boxed_own _ _ _) _)) (Own.from (boxed_own _ _ _) _)) (Own.from (boxed_own _ _ _) _)) (Own.from (boxed_own _ _ _) _)) (OwnFrom.and (ownFrom_below (Nat.le_refl _) (by omega)) (fun _ _ _ _ hs hg _ => Nat.le_trans hs hg.size)))
    (fun c pre X Y row hs hg hr => by
      obtain ⟨q, x, e, e2, e3, e4, e5, e6⟩ := hs
      exact ⟨q, x, e, box_turn e2 hg hr, box_turn e3 hg hr, box_turn e4 hg hr, box_turn e5 hg hr, (ownFrom_below (w₀ := w) (Nat.le_refl _) (by omega) : OwnFrom W0.heap.size (fun (_ : Unit) W => Below w.heap.size w W)) () X Y row e6 hg hr⟩)
    ⟨⟨⟨⟨⟨⟨(fun x hx => by cases hx), bN⟩, b2⟩, b3⟩, b4⟩, b5⟩, hB0, Nat.le_refl _⟩
    (fun x a' W => ∃ Bx, w.heap.size + 1 + 1 + 1 + 1 + 1 + 1 < Bx ∧ W.heap[Bx]? = some (.cells #[.string x.2.name, .int .u8 (x.2.ty : Int), .int .i64 x.2.st] 63 (0, 0)) ∧ a' = { tmps := #[pgV p (.slice a0 p.ins.length a1) (.slice b0 p.flows.length b1) (.slice c0 p.outs.length c1), .string name, .pointer (some ⟨w.heap.size, 0, none⟩), .pointer (some ⟨w.heap.size + 1, 0, none⟩), .pointer (some ⟨w.heap.size + 1 + 1, 0, none⟩), .pointer (some ⟨w.heap.size + 1 + 1 + 1, 0, none⟩), .pointer (some ⟨w.heap.size + 1 + 1 + 1 + 1, 0, none⟩), .pointer (some ⟨w.heap.size + 1 + 1 + 1 + 1 + 1, 0, none⟩), .int .i64 x.1, .pointer (some ⟨Bx, 0, none⟩), pgV p (.slice a0 p.ins.length a1) (.slice b0 p.flows.length b1) (.slice c0 p.outs.length c1), .func (.func 30) #[] #[.pointer (some ⟨w.heap.size + 1 + 1 + 1 + 1 + 1 + 1, 0, none⟩)], .int .i64 x.1, hdV x.2, undef, undef, undef, undef, undef, undef, undef, undef, undef], defers := [] })
    (fun x a' _ X Y row hs hg hr => by obtain ⟨Bx, e1, e2, e3⟩ := hs; exact ⟨Bx, e1, (grownBy_keeps_cells hg (fun r e => (hr r e).2) e2), e3⟩)
    ?assign ?body ?done ?stop
  case assign =>
    rintro l pre x W K ⟨⟨⟨⟨⟨⟨hf, cN⟩, c2⟩, c3⟩, c4⟩, c5⟩, hB1, hZ⟩ hK
    gi_wp2
    exact hK _ _ ((KeepsOthers.alloc _ _).from _) ((Below.refl _ W).alloc hZ _) ⟨⟨⟨⟨⟨⟨hf, cN.alloc _⟩, c2.alloc _⟩, c3.alloc _⟩, c4.alloc _⟩, c5.alloc _⟩, hB1.alloc hB1.size _, by simp; omega⟩ ⟨W.heap.size, by omega, World.alloc_heap_new W _, rfl⟩
  case body =>
    rintro l pre x a' W hl _ ⟨⟨⟨⟨⟨⟨hf, cN⟩, c2⟩, c3⟩, c4⟩, c5⟩, hB1, hZ⟩ ⟨Bx, hBx, hRow, rfl⟩ _
    have dN := cN.cell
    have d2 := c2.cell
    have d3 := c3.cell
    have d4 := c4.cell
    have d5 := c5.cell
    have f2 := c2.frozen
    have f3 := c3.frozen
    have f4 := c4.frozen
    have f5 := c5.frozen
    have v0 : W.cell? ⟨Bx, 0, none⟩ = some (.string x.2.name) := by rw [cell_of_row _ _ _ _ 63 (0, 0) hRow]; rfl
    have v1 : W.cell? ⟨Bx, 1, none⟩ = some (.int .u8 (x.2.ty : Int)) := by rw [cell_of_row _ _ _ _ 63 (0, 0) hRow]; rfl
    have v2 : W.cell? ⟨Bx, 2, none⟩ = some (.int .i64 x.2.st) := by rw [cell_of_row _ _ _ _ 63 (0, 0) hRow]; rfl
    by_cases heq : (x.2.name.toList == name.toList) = true
    · gi_wp2
      have FB := four_boxed (.int .i64 x.2.st) (.int .u8 (x.2.ty : Int)) (.int .i64 x.1) (.bool true) c2 c3 c4 c5
      have FK := (four_keeps W w.heap.size (.int .i64 x.2.st) (.int .u8 (x.2.ty : Int)) (.int .i64 x.1) (.bool true)).trans (KeepsOthers.drew _)
      have FL := (four_below (.int .i64 x.2.st) (.int .u8 (x.2.ty : Int)) (.int .i64 x.1) (.bool true) hB1).drew
      have F2 := boxed_drew FB.1
      have F3 := boxed_drew FB.2.1
      have F4 := boxed_drew FB.2.2.1
      have F5 := boxed_drew FB.2.2.2
      unfold four at F2 F3 F4 F5 FK FL
      have FIN := hid (And.intro (FK.from W0.heap.size) (And.intro F2 (And.intro F3 (And.intro F4 (And.intro F5 FL)))))
      clear FB FK FL F2 F3 F4 F5
      gi_region
      all_goals
        gi_wp2
        exact ⟨FIN.out.1, pre, x, ⟨rfl, rfl, hf, heq⟩, FIN.out.2⟩
    · have heq' : (x.2.name.toList == name.toList) = false := by simpa using heq
      gi_wp2
      exact ⟨KeepsFrom.refl _ _, Below.refl _ _, ⟨⟨⟨⟨⟨hf.snoc heq', cN⟩, c2⟩, c3⟩, c4⟩, c5⟩, hB1, hZ⟩
  case done =>
    rintro D ys W hD rfl ⟨⟨⟨⟨⟨⟨hf, cN⟩, c2⟩, c3⟩, c4⟩, c5⟩, hB1, hZ⟩ hK
    have d2 := c2.cell
    have d3 := c3.cell
    have d4 := c4.cell
    have d5 := c5.cell
    have f2 := c2.frozen
    have f3 := c3.frozen
    have f4 := c4.frozen
    have f5 := c5.frozen
    gi_wp2
    have FB := four_boxed (.int .i64 0) (.int .u8 0) (.int .i64 0) (.bool false) c2 c3 c4 c5
    have FK := four_keeps W w.heap.size (.int .i64 0) (.int .u8 0) (.int .i64 0) (.bool false)
    have FL := four_below (.int .i64 0) (.int .u8 0) (.int .i64 0) (.bool false) hB1
    have hK' := FK.same D _ hK rfl
    refine ⟨by simp, .inl ⟨_, _, rfl, run_takeDeferred hK', ?_⟩⟩
    have kk : ∀ B t v, Boxed (four W w.heap.size (.int .i64 0) (.int .u8 0) (.int .i64 0) (.bool false)) B t v → ((four W w.heap.size (.int .i64 0) (.int .u8 0) (.int .i64 0) (.bool false)).putObj D (.deferred none)).cell? ⟨B, 0, none⟩ = some v := fun _ _ _ h => Go.cell_kept h.cell (grownBy_putObj' _ D (.deferred none)) (fun r e => by cases e; exact ⟨_, hK', rfl⟩)
    have e2 := kk _ _ _ FB.1
    have e3 := kk _ _ _ FB.2.1
    have e4 := kk _ _ _ FB.2.2.1
    have e5 := kk _ _ _ FB.2.2.2
    refine ⟨.tuple #[.int .i64 0, .int .u8 0, .int .i64 0, .bool false], ?_, by rw [findT_none hf]; rfl, FL.trans (belowK_b (w := w) (Nat.le_refl _) _ D _ _ (by omega) hK' rfl rfl)⟩
    unfold four at e2 e3 e4 e5
    simp [results, Tryd.f8, go_sem, e2, e3, e4, e5]
  case stop =>
    rintro D c pre W hD hpre ⟨q, x, ⟨rfl, rfl, hf, hx⟩, c2, c3, c4, c5, hB1⟩ hK
    gi_wp2
    refine ⟨by simp, .inl ⟨_, _, rfl, run_takeDeferred hK, ?_⟩⟩
    have kk : ∀ B t v, Boxed W B t v → (W.putObj D (.deferred none)).cell? ⟨B, 0, none⟩ = some v := fun _ _ _ h => Go.cell_kept h.cell (grownBy_putObj' _ D (.deferred none)) (fun r e => by cases e; exact ⟨_, hK, rfl⟩)
    have e2 := kk _ _ _ c2
    have e3 := kk _ _ _ c3
    have e4 := kk _ _ _ c4
    have e5 := kk _ _ _ c5
    refine ⟨.tuple #[.int .i64 x.2.st, .int .u8 (x.2.ty : Int), .int .i64 x.1, .bool true], ?_, by rw [findT_some hpre hf hx]; rfl, hB1.trans (belowK_b (w := w) (Nat.le_refl _) W D _ _ (by omega) hK rfl rfl)⟩
    simp [results, Tryd.f8, go_sem, e2, e3, e4, e5]
/-- Find. -/
theorem find (p : Pg) (name : ByteArray) (w : World) (a b c : Value) (hP : PgAt w p a b c) :
    Calls Tryd.prog 8 #[pgV p a b c, .string name] w fun e W' => e = .returned (.tuple (foV (findT (thingsL p) name))) ∧ Below w.heap.size w W' :=
  (callsIn_wide (n := 6)).1 (find_in Fence.wide 6 trivial trivial trivial rfl (Nat.le_refl _) p name w a b c hP)
end Go.Proofs.YtejacmgppnafcabDoor.Lex
namespace Go.Proofs.YtejacmgppnafcabDoor.Lex
open Go.ChangeShapes Go.WideShapes Go.ChangeAt Go.RowKit Go.Joins
abbrev tlV (t : Int × Int) : Value := .agg #[.int .i64 t.1, .int .i64 t.2]
abbrev tlD (t : Int × Int) : DataW Unit := .agg [.lit (.int .i64 t.1), .lit (.int .i64 t.2)]
/-- How a tally reads. -/
def tlR (v : Value) : Option (DataW Unit × List MemPlace) := match v with
  | .agg ⟨[.int .i64 a, .int .i64 b]⟩ => some (tlD (a, b), [])
  | _ => none
theorem tlR_mk (t : Int × Int) : tlR (tlV t) = some (tlD t, []) := rfl
theorem tlR_inv {v : Value} {t : Int × Int} {ps : List MemPlace} (h : tlR v = some (tlD t, ps)) : v = tlV t := by
  unfold tlR at h
  split at h
  · simp only [Option.some.injEq, Prod.mk.injEq, DataW.agg.injEq, List.cons.injEq, DataW.lit.injEq, Lit.int.injEq, true_and, and_true] at h
    obtain ⟨⟨h1, h2⟩, _⟩ := h
    subst h1 h2
    rfl
  · cases h
/-- A map of tallies in memory. -/
def TMap (W : World) (b n : Nat) (T : List UInt8 → Int × Int) : Prop := ∃ D : DataW Unit, W.ownsMap Tryd.prog 9 tlR b n D ∧ ∀ s : List UInt8, D.atKey (.string s) (tlD (0, 0)) = tlD (T s)
theorem TMap.kept {W W' : World} {b n : Nat} {T : List UInt8 → Int × Int} {row : Option Nat} (h : TMap W b n T) (hg : W.grownBy W' row) (hne : some b ≠ row) : TMap W' b n T := by
  obtain ⟨D, h1, h2⟩ := h
  exact ⟨D, h1.kept hg hne, h2⟩
theorem TMap.lt {W : World} {b n : Nat} {T : List UInt8 → Int × Int} (h : TMap W b n T) : b < W.heap.size := by
  obtain ⟨D, h1, _⟩ := h
  exact h1.lt
theorem TMap.block {W W' : World} {b n : Nat} {T : List UInt8 → Int × Int} (h : TMap W b n T) (hb : W'.heap[b]? = W.heap[b]?) : TMap W' b n T := by
  obtain ⟨D, ⟨es, clock, h1, h2⟩, h3⟩ := h
  exact ⟨D, ⟨es, clock, hb.trans h1, h2⟩, h3⟩
theorem TMap.keep {W W' : World} {b n : Nat} {T : List UInt8 → Int × Int} (h : TMap W b n T) (hb : Below W.heap.size W W') : TMap W' b n T := h.block (hb.block b h.lt)
theorem TMap.new (W : World) : TMap (W.alloc (.map #[] 0)) W.heap.size 0 (fun _ => (0, 0)) := ⟨.map [], World.ownsMap_made W _ _ _, fun _ => rfl⟩
theorem zero61 (w : World) : (zeroValue 79).run Tryd.prog w = .ok (tlV (0, 0)) w := by kernel_rfl
theorem key9 {s : ByteArray} (hs : s.size ≤ 140737488355328) : keyOf Tryd.prog 9 (.string s) = some (.string s.data.toList) := WideMaps.keyOf_string_mk Tryd.underlying9 (by unfold maxLen; omega)
theorem TMap.look {W : World} {b n : Nat} {T : List UInt8 → Int × Int} (h : TMap W b n T) {s : ByteArray} (hs : s.size ≤ 140737488355328) :
    (Instr.lookup 76 (.map (some b)) (.string s) false).run Tryd.prog W = .ok (tlV (T s.data.toList)) W := by
  obtain ⟨D, h1, h2⟩ := h
  obtain ⟨v, ps, hrun, hv⟩ := h1.lookup (Maps.string_keyed Tryd.underlying9) Tryd.underlying76 (zero61 W) (tlR_mk (0, 0)) (key9 hs)
  rw [h2] at hv
  rw [hrun, tlR_inv hv]
theorem TMap.update {W : World} {b n : Nat} {T : List UInt8 → Int × Int} (h : TMap W b n T) (hn : n < maxLen) {s : ByteArray} (hs : s.size ≤ 140737488355328) (t : Int × Int) :
    ∃ W', (Instr.mapUpdate 76 (.map (some b)) (.string s) (tlV t)).run Tryd.prog W = .ok () W' ∧ TMap W' b (n + 1) (fun u => if u = s.data.toList then t else T u) ∧ W.grownBy W' (some b) := by
  obtain ⟨D, h1, h2⟩ := h
  obtain ⟨W', hrun, r1, r2⟩ := h1.update (Maps.string_keyed Tryd.underlying9) Tryd.underlying76 hn (key9 hs) (tlR_mk t)
  refine ⟨W', hrun, ⟨_, r1, fun u => ?_⟩, r2⟩
  dsimp only
  by_cases e : u = s.data.toList
  · rw [if_pos e, e, Maps.atKey_put_same h1.isMap (by trivial)]
  · rw [if_neg e, Maps.atKey_put_other (by intro h; injection h with h; exact e h)]
    exact h2 u
end Go.Proofs.YtejacmgppnafcabDoor.Lex
namespace Go.Proofs.YtejacmgppnafcabDoor.Lex
open Go.ChangeShapes Go.WideShapes Go.ChangeAt Go.RowKit Go.Joins
abbrev fyV (f : Nat) : Value := .func (.func f) #[] #[]
abbrev fyD (f : Nat) : DataW Unit := .agg [.lit (.int .i64 (f : Int))]
abbrev fzD : DataW Unit := .agg []
/-- How a function reads. -/
def fR (v : Value) : Option (DataW Unit × List MemPlace) := match v with
  | .func (.func f) ⟨[]⟩ ⟨[]⟩ => some (fyD f, [])
  | _ => some (fzD, [])
theorem fR_y (f : Nat) : fR (fyV f) = some (fyD f, []) := rfl
theorem fR_invy {v : Value} {f : Nat} {ps : List MemPlace} (h : fR v = some (fyD f, ps)) : v = fyV f := by
  unfold fR at h
  split at h
  · simp only [Option.some.injEq, Prod.mk.injEq, DataW.agg.injEq, List.cons.injEq, DataW.lit.injEq, Lit.int.injEq, true_and, and_true] at h
    have e1 := Int.ofNat.inj h.1
    subst e1
    rfl
  · simp at h
/-- A map of functions in memory. -/
def RMap (W : World) (b n : Nat) (T : Nat → DataW Unit) : Prop := ∃ D : DataW Unit, W.ownsMap Tryd.prog 27 fR b n D ∧ ∀ k : Nat, k < 256 → D.atKey (.int .u8 (k : Int)) fzD = T k
theorem RMap.lt {W : World} {b n : Nat} {T : Nat → DataW Unit} (h : RMap W b n T) : b < W.heap.size := by
  obtain ⟨D, h1, _⟩ := h
  exact h1.lt
theorem RMap.keep {W W' : World} {b n : Nat} {T : Nat → DataW Unit} (h : RMap W b n T) (hb : Below W.heap.size W W') : RMap W' b n T := by
  obtain ⟨D, ⟨es, clock, h1, h2⟩, h3⟩ := id h
  exact ⟨D, ⟨es, clock, (hb.block b h.lt).trans h1, h2⟩, h3⟩
theorem RMap.new (W : World) : RMap (W.alloc (.map #[] 0)) W.heap.size 0 (fun _ => fzD) := ⟨.map [], World.ownsMap_made W _ _ _, fun _ _ => rfl⟩
theorem key27 {k : Nat} (hk : k < 256) : keyOf Tryd.prog 27 (.int .u8 (k : Int)) = some (.int .u8 (k : Int)) := Maps.keyOf_int_mk Tryd.underlying27 (by simp [Lit.wf, IntKind.min, IntKind.max, IntKind.signed, IntKind.bits]; omega)
theorem RMap.update {W : World} {b n : Nat} {T : Nat → DataW Unit} (h : RMap W b n T) (hn : n < maxLen) {k : Nat} (hk : k < 256) {v : Value} {d : DataW Unit} (hv : fR v = some (d, [])) :
    ∃ W', (Instr.mapUpdate 65 (.map (some b)) (.int .u8 (k : Int)) v).run Tryd.prog W = .ok () W' ∧ RMap W' b (n + 1) (fun u => if u = k then d else T u) ∧ W.grownBy W' (some b) := by
  obtain ⟨D, h1, h2⟩ := h
  obtain ⟨W', hrun, r1, r2⟩ := h1.update (Maps.int_keyed Tryd.underlying27) Tryd.underlying65 hn (key27 hk) hv
  refine ⟨W', hrun, ⟨_, r1, fun u hu => ?_⟩, r2⟩
  dsimp only
  by_cases e : u = k
  · rw [if_pos e, e, Maps.atKey_put_same h1.isMap (by trivial)]
  · rw [if_neg e, Maps.atKey_put_other (by intro h; injection h with _ h; exact e (Int.ofNat.inj h))]
    exact h2 u hu
theorem zero98 (w : World) : ∃ z, (zeroValue 75).run Tryd.prog w = .ok z w ∧ fR z = some (fzD, []) := ⟨.nilFunc, by kernel_rfl, rfl⟩
theorem RMap.look {W : World} {b n : Nat} {T : Nat → DataW Unit} (h : RMap W b n T) {k : Nat} (hk : k < 256) : ∃ v ps, (Instr.lookup 65 (.map (some b)) (.int .u8 (k : Int)) false).run Tryd.prog W = .ok v W ∧ fR v = some (T k, ps) := by
  obtain ⟨D, h1, h2⟩ := h
  obtain ⟨z, hz, hzr⟩ := zero98 W
  obtain ⟨v, ps, hrun, hv⟩ := h1.lookup (Maps.int_keyed Tryd.underlying27) Tryd.underlying65 hz hzr (key27 hk)
  rw [h2 k hk] at hv
  exact ⟨v, ps, hrun, hv⟩
end Go.Proofs.YtejacmgppnafcabDoor.Lex
namespace Go.Proofs.YtejacmgppnafcabDoor.Lex
open Go.ChangeShapes Go.WideShapes Go.ChangeAt Go.RowKit Go.Joins
theorem wpList_mapIns {P : Program} {w w' : World} {ops : Array Oper} {rest : List Oper} {o : Oper} {a : Act} {Q : Exit → Act → World → Prop} (hg : o.guard = none) (m x v : Operand) (t : TypeId) (hop : o.op = Op.insert t m x v)
    (hrun : (Instr.mapUpdate t (a.eval m) (a.eval x) (a.eval v)).run P w = .ok () w') (hK : wpList P ops Q rest (a.put o.dst undef) w') : wpList P ops Q (o :: rest) a w := by
  refine wpList_plain hg fun K hk => ?_
  unfold Oper.wp execOp
  simp only [hop, Sem.run_bind, hrun, Result.andThen_ok, Sem.run_pure]
  exact hk _ _ hK
theorem RMap.congr {W : World} {b n : Nat} {T T' : Nat → DataW Unit} (h : RMap W b n T) (he : ∀ k, k < 256 → T k = T' k) : RMap W b n T' := by
  obtain ⟨D, h1, h2⟩ := h
  exact ⟨D, h1, fun k hk => (h2 k hk).trans (he k hk)⟩
/-- When each operator begins, as the map holds it. -/
def TS (k : Nat) : DataW Unit := if k = 18 then fyD 32 else if k = 19 then fyD 33 else if 4 ≤ k ∧ k ≤ 17 then fyD 31 else fzD
/-- The map. -/
def Asks (W : World) (b : Nat) : Prop := ∃ m, RMap W b m TS
theorem Asks.keep {W W' : World} {b : Nat} (h : Asks W b) (hb : Below W.heap.size W W') : Asks W' b := by
  obtain ⟨m, hm⟩ := h
  exact ⟨m, hm.keep hb⟩
set_option maxRecDepth 100000 in
set_option maxHeartbeats 4000000 in
theorem rules (w : World) : Calls Tryd.prog 23 #[] w fun e w' => ∃ b, e = .returned (.map (some b)) ∧ Asks w' b ∧ Below w.heap.size w w' := by
  have hmm := @run_makeMap Tryd.prog
  have R0 : Hid (RMap (w.alloc (.map #[] 0)) w.heap.size 0 (fun _ => fzD)) := hid (RMap.new w)
  obtain ⟨W1, r1, m1, g1⟩ := R0.out.update (by unfold maxLen; omega) (k := 4) (by omega) (fR_y 31)
  have R1 := hid m1
  clear m1
  obtain ⟨W2, r2, m2, g2⟩ := R1.out.update (by unfold maxLen; omega) (k := 5) (by omega) (fR_y 31)
  have R2 := hid m2
  clear m2
  obtain ⟨W3, r3, m3, g3⟩ := R2.out.update (by unfold maxLen; omega) (k := 6) (by omega) (fR_y 31)
  have R3 := hid m3
  clear m3
  obtain ⟨W4, r4, m4, g4⟩ := R3.out.update (by unfold maxLen; omega) (k := 7) (by omega) (fR_y 31)
  have R4 := hid m4
  clear m4
  obtain ⟨W5, r5, m5, g5⟩ := R4.out.update (by unfold maxLen; omega) (k := 8) (by omega) (fR_y 31)
  have R5 := hid m5
  clear m5
  obtain ⟨W6, r6, m6, g6⟩ := R5.out.update (by unfold maxLen; omega) (k := 9) (by omega) (fR_y 31)
  have R6 := hid m6
  clear m6
  obtain ⟨W7, r7, m7, g7⟩ := R6.out.update (by unfold maxLen; omega) (k := 10) (by omega) (fR_y 31)
  have R7 := hid m7
  clear m7
  obtain ⟨W8, r8, m8, g8⟩ := R7.out.update (by unfold maxLen; omega) (k := 11) (by omega) (fR_y 31)
  have R8 := hid m8
  clear m8
  obtain ⟨W9, r9, m9, g9⟩ := R8.out.update (by unfold maxLen; omega) (k := 12) (by omega) (fR_y 31)
  have R9 := hid m9
  clear m9
  obtain ⟨W10, r10, m10, g10⟩ := R9.out.update (by unfold maxLen; omega) (k := 13) (by omega) (fR_y 31)
  have R10 := hid m10
  clear m10
  obtain ⟨W11, r11, m11, g11⟩ := R10.out.update (by unfold maxLen; omega) (k := 14) (by omega) (fR_y 31)
  have R11 := hid m11
  clear m11
  obtain ⟨W12, r12, m12, g12⟩ := R11.out.update (by unfold maxLen; omega) (k := 15) (by omega) (fR_y 31)
  have R12 := hid m12
  clear m12
  obtain ⟨W13, r13, m13, g13⟩ := R12.out.update (by unfold maxLen; omega) (k := 16) (by omega) (fR_y 31)
  have R13 := hid m13
  clear m13
  obtain ⟨W14, r14, m14, g14⟩ := R13.out.update (by unfold maxLen; omega) (k := 17) (by omega) (fR_y 31)
  have R14 := hid m14
  clear m14
  obtain ⟨W15, r15, m15, g15⟩ := R14.out.update (by unfold maxLen; omega) (k := 18) (by omega) (fR_y 32)
  have R15 := hid m15
  clear m15
  obtain ⟨W16, r16, m16, g16⟩ := R15.out.update (by unfold maxLen; omega) (k := 19) (by omega) (fR_y 33)
  have R16 := hid m16
  clear m16
  have H0 := Below.refl w.heap.size (w.alloc (.map #[] 0))
  have H1 := H0.grown g1 (Nat.le_trans (by simp) H0.size) (fun j hj => by cases hj; exact Nat.le_refl _)
  have H2 := H1.grown g2 (Nat.le_trans (by simp) H1.size) (fun j hj => by cases hj; exact Nat.le_refl _)
  have H3 := H2.grown g3 (Nat.le_trans (by simp) H2.size) (fun j hj => by cases hj; exact Nat.le_refl _)
  have H4 := H3.grown g4 (Nat.le_trans (by simp) H3.size) (fun j hj => by cases hj; exact Nat.le_refl _)
  have H5 := H4.grown g5 (Nat.le_trans (by simp) H4.size) (fun j hj => by cases hj; exact Nat.le_refl _)
  have H6 := H5.grown g6 (Nat.le_trans (by simp) H5.size) (fun j hj => by cases hj; exact Nat.le_refl _)
  have H7 := H6.grown g7 (Nat.le_trans (by simp) H6.size) (fun j hj => by cases hj; exact Nat.le_refl _)
  have H8 := H7.grown g8 (Nat.le_trans (by simp) H7.size) (fun j hj => by cases hj; exact Nat.le_refl _)
  have H9 := H8.grown g9 (Nat.le_trans (by simp) H8.size) (fun j hj => by cases hj; exact Nat.le_refl _)
  have H10 := H9.grown g10 (Nat.le_trans (by simp) H9.size) (fun j hj => by cases hj; exact Nat.le_refl _)
  have H11 := H10.grown g11 (Nat.le_trans (by simp) H10.size) (fun j hj => by cases hj; exact Nat.le_refl _)
  have H12 := H11.grown g12 (Nat.le_trans (by simp) H11.size) (fun j hj => by cases hj; exact Nat.le_refl _)
  have H13 := H12.grown g13 (Nat.le_trans (by simp) H12.size) (fun j hj => by cases hj; exact Nat.le_refl _)
  have H14 := H13.grown g14 (Nat.le_trans (by simp) H13.size) (fun j hj => by cases hj; exact Nat.le_refl _)
  have H15 := H14.grown g15 (Nat.le_trans (by simp) H14.size) (fun j hj => by cases hj; exact Nat.le_refl _)
  have H16 := H15.grown g16 (Nat.le_trans (by simp) H15.size) (fun j hj => by cases hj; exact Nat.le_refl _)
  have HB := hid H16
  clear H0 H1 H2 H3 H4 H5 H6 H7 H8 H9 H10 H11 H12 H13 H14 H15 H16 g1 g2 g3 g4 g5 g6 g7 g8 g9 g10 g11 g12 g13 g14 g15 g16 R0 R1 R2 R3 R4 R5 R6 R7 R8 R9 R10 R11 R12 R13 R14 R15
  go_enter Tryd.func23, Tryd.ntmps23
  go_wp2_with (first | (refine wpList_mapIns rfl (.tmp 1) (.const (.int .u8 4)) (.func 31) 65 rfl r1 ?_; clear r1) | (refine wpList_mapIns rfl (.tmp 1) (.const (.int .u8 5)) (.func 31) 65 rfl r2 ?_; clear r2) | (refine wpList_mapIns rfl (.tmp 1) (.const (.int .u8 6)) (.func 31) 65 rfl r3 ?_; clear r3) | (refine wpList_mapIns rfl (.tmp 1) (.const (.int .u8 7)) (.func 31) 65 rfl r4 ?_; clear r4) | (refine wpList_mapIns rfl (.tmp 1) (.const (.int .u8 8)) (.func 31) 65 rfl r5 ?_; clear r5) | (refine wpList_mapIns rfl (.tmp 1) (.const (.int .u8 9)) (.func 31) 65 rfl r6 ?_; clear r6) | (refine wpList_mapIns rfl (.tmp 1) (.const (.int .u8 10)) (.func 31) 65 rfl r7 ?_; clear r7) | (refine wpList_mapIns rfl (.tmp 1) (.const (.int .u8 11)) (.func 31) 65 rfl r8 ?_; clear r8) | (refine wpList_mapIns rfl (.tmp 1) (.const (.int .u8 12)) (.func 31) 65 rfl r9 ?_; clear r9) | (refine wpList_mapIns rfl (.tmp 1) (.const (.int .u8 13)) (.func 31) 65 rfl r10 ?_; clear r10) | (refine wpList_mapIns rfl (.tmp 1) (.const (.int .u8 14)) (.func 31) 65 rfl r11 ?_; clear r11) | (refine wpList_mapIns rfl (.tmp 1) (.const (.int .u8 15)) (.func 31) 65 rfl r12 ?_; clear r12) | (refine wpList_mapIns rfl (.tmp 1) (.const (.int .u8 16)) (.func 31) 65 rfl r13 ?_; clear r13) | (refine wpList_mapIns rfl (.tmp 1) (.const (.int .u8 17)) (.func 31) 65 rfl r14 ?_; clear r14) | (refine wpList_mapIns rfl (.tmp 1) (.const (.int .u8 18)) (.func 32) 65 rfl r15 ?_; clear r15) | (refine wpList_mapIns rfl (.tmp 1) (.const (.int .u8 19)) (.func 33) 65 rfl r16 ?_; clear r16))
  go_ret
  have hB : Below w.heap.size w (w.alloc (.map #[] 0)) := (Below.refl w.heap.size w).alloc (Nat.le_refl _) _
  refine ⟨_, rfl, ⟨_, R16.out.congr (fun k _ => ?_)⟩, hB.trans (HB.out.mono (by omega))⟩
  by_cases hk : k < 20
  · have hc : k = 0 ∨ k = 1 ∨ k = 2 ∨ k = 3 ∨ k = 4 ∨ k = 5 ∨ k = 6 ∨ k = 7 ∨ k = 8 ∨ k = 9 ∨ k = 10 ∨ k = 11 ∨ k = 12 ∨ k = 13 ∨ k = 14 ∨ k = 15 ∨ k = 16 ∨ k = 17 ∨ k = 18 ∨ k = 19 := by omega
    rcases hc with rfl | rfl | rfl | rfl | rfl | rfl | rfl | rfl | rfl | rfl | rfl | rfl | rfl | rfl | rfl | rfl | rfl | rfl | rfl | rfl <;> rfl
  · unfold TS
    rw [if_neg (show ¬ k = 19 by omega), if_neg (show ¬ k = 18 by omega), if_neg (show ¬ k = 17 by omega), if_neg (show ¬ k = 16 by omega), if_neg (show ¬ k = 15 by omega), if_neg (show ¬ k = 14 by omega), if_neg (show ¬ k = 13 by omega), if_neg (show ¬ k = 12 by omega), if_neg (show ¬ k = 11 by omega), if_neg (show ¬ k = 10 by omega), if_neg (show ¬ k = 9 by omega), if_neg (show ¬ k = 8 by omega), if_neg (show ¬ k = 7 by omega), if_neg (show ¬ k = 6 by omega), if_neg (show ¬ k = 5 by omega), if_neg (show ¬ k = 4 by omega), if_neg (by omega), if_neg (by omega), if_neg (by omega)]
end Go.Proofs.YtejacmgppnafcabDoor.Lex
