/-
  Whether a program may be: the contract of progs.Check.
  A map of tallies: how many things have a name, and how many outs tell it.
  How often each name is there: the contract of names.counted.
-/
import Derived.Test.YtdenddknbmiboaaDoorG4
import Derived.Test.YtdenddknbmiboaaDoorG3
import Derived.Maps.OwnIn
import Derived.Maps.OwnSet
import Derived.Maps.Views
import Derived.StringKeys
namespace Go.Proofs.YtdenddknbmiboaaDoor.Lex
open Go.ChangeShapes Go.WideShapes Go.ChangeAt Go.RowKit Go.Joins
theorem all_take_succ {α : Type} {l : List α} {f : α → Bool} {k : Nat} (h : k < l.length) (ha : (l.take k).all f = true) (hk : f l[k] = true) : (l.take (k + 1)).all f = true := by
  rw [List.take_succ_eq_append_getElem h, List.all_append, ha]
  simp [hk]
theorem all_no {α : Type} {l : List α} {f : α → Bool} {k : Nat} (h : k < l.length) (hk : f l[k] = false) : l.all f = false := by
  rw [List.all_eq_false]
  exact ⟨l[k], List.getElem_mem h, by simp [hk]⟩
set_option maxRecDepth 100000 in
set_option maxHeartbeats 1000000 in
theorem prog_check (p : Pg) (w : World) (a b c : Value) (hP : PgAt w p a b c) (hR : TabR w) (hJ : TabJ w) : Calls Tryd.prog 61 #[pgV p a b c] w fun e w' => e = .returned (.bool (pgOk p)) ∧ Below w.heap.size w w' := by
  obtain ⟨a0, a1, rfl, hl1, _, _, hc1⟩ := hP.ins
  obtain ⟨b0, b1, sl, rfl, hl2, _, _, hc2, hs2⟩ := hP.flows
  obtain ⟨c0, c1, rfl, hl3, _, _, hc3⟩ := hP.outs
  have HC1 := hid hc1
  have HC2 := hid hc2
  have HC3 := hid hc3
  have HS2 := hid hs2
  have HR := hid hR
  have HJ := hid hJ
  have B0 := hid ((Below.refl w.heap.size w).alloc (Nat.le_refl _) (.cells (pgC p (.slice a0 p.ins.length a1) (.slice b0 p.flows.length b1) (.slice c0 p.outs.length c1)) 46))
  have P0 := hid (hP.keep B0.out)
  have X := hid (fun j v => box_at w (pgC p (.slice a0 p.ins.length a1) (.slice b0 p.flows.length b1) (.slice c0 p.outs.length c1)) 46 j v)
  have x0 := X.out 0 (.int .i64 p.st) rfl
  have x1 := X.out 1 (.slice a0 p.ins.length a1) rfl
  have x2 := X.out 2 (.slice b0 p.flows.length b1) rfl
  have x3 := X.out 3 (.slice c0 p.outs.length c1) rfl
  clear hc1 hc2 hc3 hs2 hP hR hJ
  have c39 := hid fun W => in_range p.st 8 W
  have c40 := hid fun W a b c h => has_room p W a b c h
  cases h1 : inR p.st 8 with
  | false =>
    have hno : Hid (false = pgOk p) := by unfold Hid pgOk; rw [h1]; rfl
    rw [h1] at c39
    go_enter Tryd.func61, Tryd.ntmps61
    go_wp2_with (go_at_call 78; refine (c39.out _).mono ?_; rintro e w1 ⟨rfl, rfl⟩)
    go_ret
    exact ⟨by rw [← hno.out]; rfl, B0.out⟩
  | true =>
    rw [h1] at c39
    cases h2 : roomOk p with
    | false =>
      have hno : Hid (false = pgOk p) := by unfold Hid pgOk; rw [h1, h2]; rfl
      rw [h2] at c40
      go_enter Tryd.func61, Tryd.ntmps61
      go_wp2_with (first
        | (go_at_call 78; refine (c39.out _).mono ?_; rintro e w1 ⟨rfl, rfl⟩)
        | (go_at_call 79; refine (c40.out _ _ _ _ P0.out).mono ?_; rintro e w2 ⟨rfl, hb2⟩; have B2 := hid (bstep B0.out hb2); clear hb2 P0))
      go_ret
      exact ⟨by rw [← hno.out]; rfl, B2.out⟩
    | true =>
      rw [h2] at c40
      have hyes : Hid ((p.ins.all (fun x => hdOk x p.st) && (p.flows.all (fun x => flOk x p.st) && p.outs.all isName)) = pgOk p) := by unfold Hid pgOk; rw [h1, h2]; rfl
      go_enter Tryd.func61, Tryd.ntmps61
      go_wp2_with (first
        | (go_at_call 78; refine (c39.out _).mono ?_; rintro e w1 ⟨rfl, rfl⟩)
        | (go_at_call 79; refine (c40.out _ _ _ _ P0.out).mono ?_; rintro e w2 ⟨rfl, hb2⟩; have y0 := cell_kept x0 hb2; have y1 := cell_kept x1 hb2; have y2 := cell_kept x2 hb2; have y3 := cell_kept x3 hb2; have B2 := hid (bstep B0.out hb2); clear hb2 P0 x0 x1 x2 x3))
      have Y0 := hid y0
      have Y2 := hid y2
      have Y3 := hid y3
      go_loopw [21] (fun i wr => ∃ k : Nat, k ≤ p.ins.length ∧ i = .int .i64 (k : Int) ∧ Hid ((p.ins.take k).all (fun x => hdOk x p.st) = true) ∧ Hid (Below w2.heap.size w2 wr)) (fun i _ => p.ins.length - (intOf i).toNat)
      case atStart => exact ⟨0, Nat.zero_le _, rfl, hid (by simp), Below.refl _ _⟩
      case round =>
        obtain ⟨k, hk, rfl, hA, hB⟩ := hrel
        by_cases hlt : k < p.ins.length
        · have hlt' : (k : Int) < (p.ins.length : Int) := by omega
          have hk0 : (0 : Int) ≤ (k : Int) := by omega
          obtain ⟨bb, o, rfl, hcc⟩ := HC1.out.resolve_left (by omega)
          obtain ⟨v0, v1, v2⟩ := (hcc k hlt).keep (bstep B2.out hB.out)
          have BA := hid (bstep (bstep B2.out hB.out) ((Below.refl wr.heap.size wr).alloc (Nat.le_refl _) (.cells #[.string p.ins[k].name, .int .u8 (p.ins[k].ty : Int), .int .i64 p.ins[k].st] 73)))
          have z0 := cell_kept Y0.out (bstep hB.out ((Below.refl wr.heap.size wr).alloc (Nat.le_refl _) (.cells #[.string p.ins[k].name, .int .u8 (p.ins[k].ty : Int), .int .i64 p.ins[k].st] 73)))
          have cm := may_stand p.ins[k] p.st _ (HR.out.below BA.out)
          have HY := hid (fun h => all_take_succ (f := fun x => hdOk x p.st) hlt hA.out h)
          have HN := hid (fun h => all_no (f := fun x => hdOk x p.st) hlt h)
          clear hcc
          generalize p.ins[k] = y at *
          cases hh : hdOk y p.st with
          | true =>
            rw [hh] at cm
            go_wp2_with (go_at_call 80; refine cm.mono ?_; rintro e w4 ⟨rfl, hb4⟩)
            go_roundw
            case rel => exact ⟨k + 1, by omega, by go_num, hid (HY.out hh), bstep (bstep hB.out ((Below.refl wr.heap.size wr).alloc (Nat.le_refl _) _)) hb4⟩
            case measure => simp [intOf]; omega
          | false =>
            rw [hh] at cm
            go_wp2_with (go_at_call 80; refine cm.mono ?_; rintro e w4 ⟨rfl, hb4⟩)
            go_ret
            exact ⟨by rw [← hyes.out, HN.out hh]; rfl, bstep BA.out hb4⟩
        · have hlt' : ¬ (k : Int) < (p.ins.length : Int) := by omega
          have hI : Hid (p.ins.all (fun x => hdOk x p.st) = true) := by rw [List.take_of_length_le (by omega)] at hA; exact hA
          have z2 := cell_kept Y2.out hB.out
          go_wp2
          go_loopw [34] (fun i wr => ∃ k : Nat, k ≤ p.flows.length ∧ i = .int .i64 (k : Int) ∧ Hid ((p.flows.take k).all (fun x => flOk x p.st) = true) ∧ Hid (Below w2.heap.size w2 wr)) (fun i _ => p.flows.length - (intOf i).toNat)
          case atStart => exact ⟨0, Nat.zero_le _, rfl, hid (by simp), hB⟩
          case round =>
            obtain ⟨j, hj, rfl, hA2, hB2⟩ := hrel
            by_cases hjl : j < p.flows.length
            · have hjl' : (j : Int) < (p.flows.length : Int) := by omega
              have hj0 : (0 : Int) ≤ (j : Int) := by omega
              obtain ⟨bb, o, rfl, hcc⟩ := HC2.out.resolve_left (by omega)
              have V := (hcc j hjl).keep (bstep B2.out hB2.out)
              have HSt0 := HS2.out j hjl
              have HY := hid (fun h => all_take_succ (f := fun x => flOk x p.st) hjl hA2.out h)
              have HN := hid (fun h => all_no (f := fun x => flOk x p.st) hjl h)
              clear hcc
              generalize p.flows[j] = y at *
              obtain ⟨a3, c3, _, e3, _⟩ := HSt0.out
              rw [e3] at V HSt0
              have HSt := hid HSt0
              obtain ⟨v0, v1, v2, v3, v4, v5, v6, v7⟩ := V
              have ba := (Below.refl wr.heap.size wr).alloc (Nat.le_refl _) (.cells #[.string y.name, .int .u8 (y.ty : Int), .int .i64 y.st, .int .i64 y.df, .int .u8 (y.body.op : Int), .int .i64 y.body.n, .string y.body.name, .slice a3 y.body.args.length c3] 76)
              have BW0 := hid (bstep (bstep B2.out hB2.out) ba)
              have BL := hid (bstep hB2.out ba)
              have s0 := cell_kept Y0.out BL.out
              have bx := fun j v => box_at wr #[.string y.name, .int .u8 (y.ty : Int), .int .i64 y.st, .int .i64 y.df, .int .u8 (y.body.op : Int), .int .i64 y.body.n, .string y.body.name, .slice a3 y.body.args.length c3] 76 j v
              have s1 := bx 0 (.string y.name) rfl
              have s2 := bx 1 (.int .u8 (y.ty : Int)) rfl
              have s3 := bx 2 (.int .i64 y.st) rfl
              have s4 := bx 3 (.int .i64 y.df) rfl
              have s5 := bx 4 (.int .u8 (y.body.op : Int)) rfl
              have s6 := bx 5 (.int .i64 y.body.n) rfl
              have s7 := bx 6 (.string y.body.name) rfl
              have s8 := bx 7 (.slice a3 y.body.args.length c3) rfl
              clear bx ba e3 HSt0
              have BW := hid BW0.out.drew
              have cms := hid fun W h => may_stand y.hd p.st W h
              have cck := hid fun W h r j => check y.body W (.slice a3 y.body.args.length c3) h r j
              cases hh : hdOk y.hd p.st with
              | false =>
                rw [hh] at cms
                have hf : Hid (flOk y p.st = false) := by unfold Hid flOk; rw [hh]; rfl
                clear hh
                go_wp2
                refine wp_region_held_drew (S := fun W => W.cell? ⟨w.heap.size, 0, none⟩ = some (.int .i64 p.st) ∧ W.cell? ⟨wr.heap.size, 0, none⟩ = some (.string y.name) ∧ W.cell? ⟨wr.heap.size, 1, none⟩ = some (.int .u8 (y.ty : Int)) ∧ W.cell? ⟨wr.heap.size, 2, none⟩ = some (.int .i64 y.st) ∧ W.cell? ⟨wr.heap.size, 3, none⟩ = some (.int .i64 y.df) ∧ W.cell? ⟨wr.heap.size, 4, none⟩ = some (.int .u8 (y.body.op : Int)) ∧ W.cell? ⟨wr.heap.size, 5, none⟩ = some (.int .i64 y.body.n) ∧ W.cell? ⟨wr.heap.size, 6, none⟩ = some (.string y.body.name) ∧ W.cell? ⟨wr.heap.size, 7, none⟩ = some (.slice a3 y.body.args.length c3)) (by kernel_rfl) ?_ (fun hHeld => ?_)
                · exact ⟨s0, s1, s2, s3, s4, s5, s6, s7, s8⟩
                refine wpAnyH_take (i := 0) (oi := { dst := some 38, op := Go.Op.load 76 (Go.Operand.tmp 6), type := 76, pos := _, after := #[], guard := none }) (v := ?_) rfl (by kernel_rfl) (by kernel_rfl) (by kernel_rfl) (fun _ _ _ h => h) (Or.inl ⟨by rfl, ?_⟩) (by assumption) ?_
                rotate_left
                · intro w hSw; (try dsimp only at hSw); go_simp <;> first | with_reducible rfl | (rw [if_neg (by first | omega | (simp only [ByteArray.size_append] at *; omega))])
                simp only [Act.put, List.setIfInBounds_toArray, List.set_cons_zero, List.set_cons_succ]
                refine wpAnyH_take (i := 2) (oi := { dst := some 40, op := Go.Op.fieldAddr 46 (Go.Operand.tmp 1) 0, type := 0, pos := _, after := #[], guard := none }) (v := ?_) rfl (by kernel_rfl) (by kernel_rfl) (by kernel_rfl) (fun _ _ _ h => h) (Or.inl ⟨by rfl, ?_⟩) (by assumption) ?_
                rotate_left
                · intro w hSw; (try dsimp only at hSw); go_simp <;> first | with_reducible rfl | (rw [if_neg (by first | omega | (simp only [ByteArray.size_append] at *; omega))])
                simp only [Act.put, List.setIfInBounds_toArray, List.set_cons_zero, List.set_cons_succ]
                refine wpAnyH_take (i := 3) (oi := { dst := some 41, op := Go.Op.load 3 (Go.Operand.tmp 40), type := 3, pos := _, after := #[{ on := 2, ground := Go.Ground.data }], guard := none }) (v := ?_) rfl (by kernel_rfl) (by kernel_rfl) (by kernel_rfl) (fun _ _ _ h => h) (Or.inl ⟨by rfl, ?_⟩) (by assumption) ?_
                rotate_left
                · intro w hSw; (try dsimp only at hSw); go_simp <;> first | with_reducible rfl | (rw [if_neg (by first | omega | (simp only [ByteArray.size_append] at *; omega))])
                simp only [Act.put, List.setIfInBounds_toArray, List.set_cons_zero, List.set_cons_succ]
                refine wpAnyH_ready (rs := [1]) (by kernel_rfl) (by simp) ?_
                refine AllReadyH.cons (o := { dst := some 39, op := Go.Op.call { callee := Go.Callee.value (Go.Operand.func 81), args := #[Go.Operand.tmp 38], argTypes := #[76] }, type := 73, pos := _, after := #[{ on := 0, ground := Go.Ground.data }], guard := none }) rfl (fun K hK => ?_) AllReadyH.nil
                go_simp
                refine (head_of y _ _ ⟨_, _, _, rfl⟩).mono ?_
                rintro e w4 ⟨rfl, hb4⟩
                have t0 := cell_kept (w := (wr.alloc (.cells #[.string y.name, .int .u8 (y.ty : Int), .int .i64 y.st, .int .i64 y.df, .int .u8 (y.body.op : Int), .int .i64 y.body.n, .string y.body.name, .slice a3 y.body.args.length c3] 76)).drew) s0 hb4
                have t1 := cell_kept (w := (wr.alloc (.cells #[.string y.name, .int .u8 (y.ty : Int), .int .i64 y.st, .int .i64 y.df, .int .u8 (y.body.op : Int), .int .i64 y.body.n, .string y.body.name, .slice a3 y.body.args.length c3] 76)).drew) s1 hb4
                have t2 := cell_kept (w := (wr.alloc (.cells #[.string y.name, .int .u8 (y.ty : Int), .int .i64 y.st, .int .i64 y.df, .int .u8 (y.body.op : Int), .int .i64 y.body.n, .string y.body.name, .slice a3 y.body.args.length c3] 76)).drew) s2 hb4
                have t3 := cell_kept (w := (wr.alloc (.cells #[.string y.name, .int .u8 (y.ty : Int), .int .i64 y.st, .int .i64 y.df, .int .u8 (y.body.op : Int), .int .i64 y.body.n, .string y.body.name, .slice a3 y.body.args.length c3] 76)).drew) s3 hb4
                have t4 := cell_kept (w := (wr.alloc (.cells #[.string y.name, .int .u8 (y.ty : Int), .int .i64 y.st, .int .i64 y.df, .int .u8 (y.body.op : Int), .int .i64 y.body.n, .string y.body.name, .slice a3 y.body.args.length c3] 76)).drew) s4 hb4
                have t5 := cell_kept (w := (wr.alloc (.cells #[.string y.name, .int .u8 (y.ty : Int), .int .i64 y.st, .int .i64 y.df, .int .u8 (y.body.op : Int), .int .i64 y.body.n, .string y.body.name, .slice a3 y.body.args.length c3] 76)).drew) s5 hb4
                have t6 := cell_kept (w := (wr.alloc (.cells #[.string y.name, .int .u8 (y.ty : Int), .int .i64 y.st, .int .i64 y.df, .int .u8 (y.body.op : Int), .int .i64 y.body.n, .string y.body.name, .slice a3 y.body.args.length c3] 76)).drew) s6 hb4
                have t7 := cell_kept (w := (wr.alloc (.cells #[.string y.name, .int .u8 (y.ty : Int), .int .i64 y.st, .int .i64 y.df, .int .u8 (y.body.op : Int), .int .i64 y.body.n, .string y.body.name, .slice a3 y.body.args.length c3] 76)).drew) s7 hb4
                have t8 := cell_kept (w := (wr.alloc (.cells #[.string y.name, .int .u8 (y.ty : Int), .int .i64 y.st, .int .i64 y.df, .int .u8 (y.body.op : Int), .int .i64 y.body.n, .string y.body.name, .slice a3 y.body.args.length c3] 76)).drew) s8 hb4
                have B4 := hid (bstep BW.out hb4)
                go_wp2_with fail
                refine hK.out _ _ ?_ (fun hHeld1 => ?_)
                · exact ⟨t0, t1, t2, t3, t4, t5, t6, t7, t8⟩
                clear hK K
                refine wpAnyH_ready (rs := [4]) (by kernel_rfl) (by simp) ?_
                refine AllReadyH.cons (o := { dst := some 42, op := Go.Op.call { callee := Go.Callee.value (Go.Operand.func 80), args := #[Go.Operand.tmp 39, Go.Operand.tmp 41], argTypes := #[73, 3] }, type := 4, pos := _, after := #[{ on := 1, ground := Go.Ground.data }, { on := 3, ground := Go.Ground.data }, { on := 1, ground := Go.Ground.chain }], guard := none }) rfl (fun K hK => ?_) AllReadyH.nil
                go_simp
                refine (cms.out _ (HR.out.below B4.out)).mono ?_
                rintro e w5 ⟨rfl, hb5⟩
                have u0 := cell_kept t0 hb5
                have u1 := cell_kept t1 hb5
                have u2 := cell_kept t2 hb5
                have u3 := cell_kept t3 hb5
                have u4 := cell_kept t4 hb5
                have u5 := cell_kept t5 hb5
                have u6 := cell_kept t6 hb5
                have u7 := cell_kept t7 hb5
                have u8 := cell_kept t8 hb5
                have B5 := hid (bstep B4.out hb5)
                go_wp2_with fail
                refine hK.out _ _ ?_ (fun hHeld2 => ?_)
                · exact ⟨u0, u1, u2, u3, u4, u5, u6, u7, u8⟩
                clear hK K
                refine wpAnyH_take (i := 5) (oi := { dst := some 43, op := Go.Op.unOp Go.UnOp.not 4 (Go.Operand.tmp 42), type := 4, pos := _, after := #[{ on := 4, ground := Go.Ground.data }], guard := none }) (v := ?_) rfl (by kernel_rfl) (by kernel_rfl) (by kernel_rfl) (fun _ _ _ h => h) (Or.inl ⟨by rfl, ?_⟩) (by assumption) ?_
                rotate_left
                · intro w hSw; (try dsimp only at hSw); go_simp <;> first | with_reducible rfl | (rw [if_neg (by first | omega | (simp only [ByteArray.size_append] at *; omega))])
                simp only [Act.put, List.setIfInBounds_toArray, List.set_cons_zero, List.set_cons_succ]
                refine wpAnyH_take (i := 6) (oi := { dst := some 44, op := Go.Op.move (Go.Operand.tmp 43), type := 4, pos := _, after := #[{ on := 5, ground := Go.Ground.data }, { on := 4, ground := Go.Ground.chain }], guard := none }) (v := ?_) rfl (by kernel_rfl) (by kernel_rfl) (by kernel_rfl) (fun _ _ _ h => h) (Or.inl ⟨by rfl, ?_⟩) (by assumption) ?_
                rotate_left
                · intro w hSw; (try dsimp only at hSw); go_simp <;> first | with_reducible rfl | (rw [if_neg (by first | omega | (simp only [ByteArray.size_append] at *; omega))])
                simp only [Act.put, List.setIfInBounds_toArray, List.set_cons_zero, List.set_cons_succ]
                refine wpAnyH_take (i := 7) (oi := { dst := some 45, op := Go.Op.fieldAddr 76 (Go.Operand.tmp 6) 3, type := 0, pos := _, after := #[{ on := 6, ground := Go.Ground.guard }], guard := some (6, false) }) (v := undef) rfl (by kernel_rfl) (by kernel_rfl) (by kernel_rfl) (fun _ _ _ h => h) (Or.inr ⟨by rfl, rfl⟩) (by assumption) ?_
                simp only [Act.put, List.setIfInBounds_toArray, List.set_cons_zero, List.set_cons_succ]
                refine wpAnyH_take (i := 8) (oi := { dst := some 46, op := Go.Op.load 2 (Go.Operand.tmp 45), type := 2, pos := _, after := #[{ on := 7, ground := Go.Ground.data }, { on := 6, ground := Go.Ground.guard }], guard := some (6, false) }) (v := undef) rfl (by kernel_rfl) (by kernel_rfl) (by kernel_rfl) (fun _ _ _ h => h) (Or.inr ⟨by rfl, rfl⟩) (by assumption) ?_
                simp only [Act.put, List.setIfInBounds_toArray, List.set_cons_zero, List.set_cons_succ]
                refine wpAnyH_take (i := 9) (oi := { dst := some 47, op := Go.Op.binOp Go.BinOp.eql 2 (Go.Operand.tmp 46) (Go.Operand.const (Go.Value.int Go.IntKind.i64 (-9223372036854775808))) 2, type := 4, pos := _, after := #[{ on := 8, ground := Go.Ground.data }, { on := 6, ground := Go.Ground.guard }], guard := some (6, false) }) (v := undef) rfl (by kernel_rfl) (by kernel_rfl) (by kernel_rfl) (fun _ _ _ h => h) (Or.inr ⟨by rfl, rfl⟩) (by assumption) ?_
                simp only [Act.put, List.setIfInBounds_toArray, List.set_cons_zero, List.set_cons_succ]
                refine wpAnyH_take (i := 10) (oi := { dst := some 48, op := Go.Op.pick (Go.Operand.tmp 44) (Go.Operand.const (Go.Value.bool true)) (Go.Operand.tmp 47), type := 4, pos := _, after := #[{ on := 6, ground := Go.Ground.data }, { on := 9, ground := Go.Ground.data }], guard := none }) (v := ?_) rfl (by kernel_rfl) (by kernel_rfl) (by kernel_rfl) (fun _ _ _ h => h) (Or.inl ⟨by rfl, ?_⟩) (by assumption) ?_
                rotate_left
                · intro w hSw; (try dsimp only at hSw); go_simp <;> first | with_reducible rfl | (rw [if_neg (by first | omega | (simp only [ByteArray.size_append] at *; omega))])
                simp only [Act.put, List.setIfInBounds_toArray, List.set_cons_zero, List.set_cons_succ]
                refine wpAnyH_take (i := 11) (oi := { dst := some 49, op := Go.Op.move (Go.Operand.tmp 48), type := 4, pos := _, after := #[{ on := 10, ground := Go.Ground.data }, { on := 6, ground := Go.Ground.chain }], guard := none }) (v := ?_) rfl (by kernel_rfl) (by kernel_rfl) (by kernel_rfl) (fun _ _ _ h => h) (Or.inl ⟨by rfl, ?_⟩) (by assumption) ?_
                rotate_left
                · intro w hSw; (try dsimp only at hSw); go_simp <;> first | with_reducible rfl | (rw [if_neg (by first | omega | (simp only [ByteArray.size_append] at *; omega))])
                simp only [Act.put, List.setIfInBounds_toArray, List.set_cons_zero, List.set_cons_succ]
                refine wpAnyH_take (i := 12) (oi := { dst := some 50, op := Go.Op.fieldAddr 76 (Go.Operand.tmp 6) 4, type := 0, pos := _, after := #[{ on := 11, ground := Go.Ground.guard }], guard := some (11, false) }) (v := undef) rfl (by kernel_rfl) (by kernel_rfl) (by kernel_rfl) (fun _ _ _ h => h) (Or.inr ⟨by rfl, rfl⟩) (by assumption) ?_
                simp only [Act.put, List.setIfInBounds_toArray, List.set_cons_zero, List.set_cons_succ]
                refine wpAnyH_take (i := 13) (oi := { dst := some 51, op := Go.Op.load 70 (Go.Operand.tmp 50), type := 70, pos := _, after := #[{ on := 12, ground := Go.Ground.data }, { on := 11, ground := Go.Ground.guard }], guard := some (11, false) }) (v := undef) rfl (by kernel_rfl) (by kernel_rfl) (by kernel_rfl) (fun _ _ _ h => h) (Or.inr ⟨by rfl, rfl⟩) (by assumption) ?_
                simp only [Act.put, List.setIfInBounds_toArray, List.set_cons_zero, List.set_cons_succ]
                refine wpAnyH_take (i := 14) (oi := { dst := some 52, op := Go.Op.call { callee := Go.Callee.value (Go.Operand.func 82), args := #[Go.Operand.tmp 51], argTypes := #[70] }, type := 4, pos := _, after := #[{ on := 13, ground := Go.Ground.data }, { on := 11, ground := Go.Ground.chain }, { on := 11, ground := Go.Ground.guard }], guard := some (11, false) }) (v := undef) rfl (by kernel_rfl) (by kernel_rfl) (by kernel_rfl) (fun _ _ _ h => h) (Or.inr ⟨by rfl, rfl⟩) (by assumption) ?_
                simp only [Act.put, List.setIfInBounds_toArray, List.set_cons_zero, List.set_cons_succ]
                refine wpAnyH_take (i := 15) (oi := { dst := some 53, op := Go.Op.unOp Go.UnOp.not 4 (Go.Operand.tmp 52), type := 4, pos := _, after := #[{ on := 14, ground := Go.Ground.data }, { on := 11, ground := Go.Ground.guard }], guard := some (11, false) }) (v := undef) rfl (by kernel_rfl) (by kernel_rfl) (by kernel_rfl) (fun _ _ _ h => h) (Or.inr ⟨by rfl, rfl⟩) (by assumption) ?_
                simp only [Act.put, List.setIfInBounds_toArray, List.set_cons_zero, List.set_cons_succ]
                refine wpAnyH_take (i := 16) (oi := { dst := some 54, op := Go.Op.pick (Go.Operand.tmp 49) (Go.Operand.const (Go.Value.bool true)) (Go.Operand.tmp 53), type := 4, pos := _, after := #[{ on := 11, ground := Go.Ground.data }, { on := 15, ground := Go.Ground.data }], guard := none }) (v := ?_) rfl (by kernel_rfl) (by kernel_rfl) (by kernel_rfl) (fun _ _ _ h => h) (Or.inl ⟨by rfl, ?_⟩) (by assumption) ?_
                rotate_left
                · intro w hSw; (try dsimp only at hSw); go_simp <;> first | with_reducible rfl | (rw [if_neg (by first | omega | (simp only [ByteArray.size_append] at *; omega))])
                simp only [Act.put, List.setIfInBounds_toArray, List.set_cons_zero, List.set_cons_succ]
                refine wpAnyH_done (by kernel_rfl) ?_ _
                go_wp2
                go_ret
                exact ⟨by rw [← hyes.out, hI.out, HN.out hf.out]; rfl, B5.out⟩
              | true =>
                rw [hh] at cms
                by_cases hd : y.df = -9223372036854775808
                · have hdb : (y.df == -9223372036854775808) = true := by simp [hd]
                  have hf : Hid (flOk y p.st = false) := by unfold Hid flOk; rw [hh, hdb]; rfl
                  clear hh hd
                  go_wp2
                  refine wp_region_held_drew (S := fun W => W.cell? ⟨w.heap.size, 0, none⟩ = some (.int .i64 p.st) ∧ W.cell? ⟨wr.heap.size, 0, none⟩ = some (.string y.name) ∧ W.cell? ⟨wr.heap.size, 1, none⟩ = some (.int .u8 (y.ty : Int)) ∧ W.cell? ⟨wr.heap.size, 2, none⟩ = some (.int .i64 y.st) ∧ W.cell? ⟨wr.heap.size, 3, none⟩ = some (.int .i64 y.df) ∧ W.cell? ⟨wr.heap.size, 4, none⟩ = some (.int .u8 (y.body.op : Int)) ∧ W.cell? ⟨wr.heap.size, 5, none⟩ = some (.int .i64 y.body.n) ∧ W.cell? ⟨wr.heap.size, 6, none⟩ = some (.string y.body.name) ∧ W.cell? ⟨wr.heap.size, 7, none⟩ = some (.slice a3 y.body.args.length c3)) (by kernel_rfl) ?_ (fun hHeld => ?_)
                  · exact ⟨s0, s1, s2, s3, s4, s5, s6, s7, s8⟩
                  refine wpAnyH_take (i := 0) (oi := { dst := some 38, op := Go.Op.load 76 (Go.Operand.tmp 6), type := 76, pos := _, after := #[], guard := none }) (v := ?_) rfl (by kernel_rfl) (by kernel_rfl) (by kernel_rfl) (fun _ _ _ h => h) (Or.inl ⟨by rfl, ?_⟩) (by assumption) ?_
                  rotate_left
                  · intro w hSw; (try dsimp only at hSw); go_simp <;> first | with_reducible rfl | (rw [if_neg (by first | omega | (simp only [ByteArray.size_append] at *; omega))])
                  simp only [Act.put, List.setIfInBounds_toArray, List.set_cons_zero, List.set_cons_succ]
                  refine wpAnyH_take (i := 2) (oi := { dst := some 40, op := Go.Op.fieldAddr 46 (Go.Operand.tmp 1) 0, type := 0, pos := _, after := #[], guard := none }) (v := ?_) rfl (by kernel_rfl) (by kernel_rfl) (by kernel_rfl) (fun _ _ _ h => h) (Or.inl ⟨by rfl, ?_⟩) (by assumption) ?_
                  rotate_left
                  · intro w hSw; (try dsimp only at hSw); go_simp <;> first | with_reducible rfl | (rw [if_neg (by first | omega | (simp only [ByteArray.size_append] at *; omega))])
                  simp only [Act.put, List.setIfInBounds_toArray, List.set_cons_zero, List.set_cons_succ]
                  refine wpAnyH_take (i := 3) (oi := { dst := some 41, op := Go.Op.load 3 (Go.Operand.tmp 40), type := 3, pos := _, after := #[{ on := 2, ground := Go.Ground.data }], guard := none }) (v := ?_) rfl (by kernel_rfl) (by kernel_rfl) (by kernel_rfl) (fun _ _ _ h => h) (Or.inl ⟨by rfl, ?_⟩) (by assumption) ?_
                  rotate_left
                  · intro w hSw; (try dsimp only at hSw); go_simp <;> first | with_reducible rfl | (rw [if_neg (by first | omega | (simp only [ByteArray.size_append] at *; omega))])
                  simp only [Act.put, List.setIfInBounds_toArray, List.set_cons_zero, List.set_cons_succ]
                  refine wpAnyH_ready (rs := [1]) (by kernel_rfl) (by simp) ?_
                  refine AllReadyH.cons (o := { dst := some 39, op := Go.Op.call { callee := Go.Callee.value (Go.Operand.func 81), args := #[Go.Operand.tmp 38], argTypes := #[76] }, type := 73, pos := _, after := #[{ on := 0, ground := Go.Ground.data }], guard := none }) rfl (fun K hK => ?_) AllReadyH.nil
                  go_simp
                  refine (head_of y _ _ ⟨_, _, _, rfl⟩).mono ?_
                  rintro e w4 ⟨rfl, hb4⟩
                  have t0 := cell_kept (w := (wr.alloc (.cells #[.string y.name, .int .u8 (y.ty : Int), .int .i64 y.st, .int .i64 y.df, .int .u8 (y.body.op : Int), .int .i64 y.body.n, .string y.body.name, .slice a3 y.body.args.length c3] 76)).drew) s0 hb4
                  have t1 := cell_kept (w := (wr.alloc (.cells #[.string y.name, .int .u8 (y.ty : Int), .int .i64 y.st, .int .i64 y.df, .int .u8 (y.body.op : Int), .int .i64 y.body.n, .string y.body.name, .slice a3 y.body.args.length c3] 76)).drew) s1 hb4
                  have t2 := cell_kept (w := (wr.alloc (.cells #[.string y.name, .int .u8 (y.ty : Int), .int .i64 y.st, .int .i64 y.df, .int .u8 (y.body.op : Int), .int .i64 y.body.n, .string y.body.name, .slice a3 y.body.args.length c3] 76)).drew) s2 hb4
                  have t3 := cell_kept (w := (wr.alloc (.cells #[.string y.name, .int .u8 (y.ty : Int), .int .i64 y.st, .int .i64 y.df, .int .u8 (y.body.op : Int), .int .i64 y.body.n, .string y.body.name, .slice a3 y.body.args.length c3] 76)).drew) s3 hb4
                  have t4 := cell_kept (w := (wr.alloc (.cells #[.string y.name, .int .u8 (y.ty : Int), .int .i64 y.st, .int .i64 y.df, .int .u8 (y.body.op : Int), .int .i64 y.body.n, .string y.body.name, .slice a3 y.body.args.length c3] 76)).drew) s4 hb4
                  have t5 := cell_kept (w := (wr.alloc (.cells #[.string y.name, .int .u8 (y.ty : Int), .int .i64 y.st, .int .i64 y.df, .int .u8 (y.body.op : Int), .int .i64 y.body.n, .string y.body.name, .slice a3 y.body.args.length c3] 76)).drew) s5 hb4
                  have t6 := cell_kept (w := (wr.alloc (.cells #[.string y.name, .int .u8 (y.ty : Int), .int .i64 y.st, .int .i64 y.df, .int .u8 (y.body.op : Int), .int .i64 y.body.n, .string y.body.name, .slice a3 y.body.args.length c3] 76)).drew) s6 hb4
                  have t7 := cell_kept (w := (wr.alloc (.cells #[.string y.name, .int .u8 (y.ty : Int), .int .i64 y.st, .int .i64 y.df, .int .u8 (y.body.op : Int), .int .i64 y.body.n, .string y.body.name, .slice a3 y.body.args.length c3] 76)).drew) s7 hb4
                  have t8 := cell_kept (w := (wr.alloc (.cells #[.string y.name, .int .u8 (y.ty : Int), .int .i64 y.st, .int .i64 y.df, .int .u8 (y.body.op : Int), .int .i64 y.body.n, .string y.body.name, .slice a3 y.body.args.length c3] 76)).drew) s8 hb4
                  have B4 := hid (bstep BW.out hb4)
                  go_wp2_with fail
                  refine hK.out _ _ ?_ (fun hHeld1 => ?_)
                  · exact ⟨t0, t1, t2, t3, t4, t5, t6, t7, t8⟩
                  clear hK K
                  refine wpAnyH_ready (rs := [4]) (by kernel_rfl) (by simp) ?_
                  refine AllReadyH.cons (o := { dst := some 42, op := Go.Op.call { callee := Go.Callee.value (Go.Operand.func 80), args := #[Go.Operand.tmp 39, Go.Operand.tmp 41], argTypes := #[73, 3] }, type := 4, pos := _, after := #[{ on := 1, ground := Go.Ground.data }, { on := 3, ground := Go.Ground.data }, { on := 1, ground := Go.Ground.chain }], guard := none }) rfl (fun K hK => ?_) AllReadyH.nil
                  go_simp
                  refine (cms.out _ (HR.out.below B4.out)).mono ?_
                  rintro e w5 ⟨rfl, hb5⟩
                  have u0 := cell_kept t0 hb5
                  have u1 := cell_kept t1 hb5
                  have u2 := cell_kept t2 hb5
                  have u3 := cell_kept t3 hb5
                  have u4 := cell_kept t4 hb5
                  have u5 := cell_kept t5 hb5
                  have u6 := cell_kept t6 hb5
                  have u7 := cell_kept t7 hb5
                  have u8 := cell_kept t8 hb5
                  have B5 := hid (bstep B4.out hb5)
                  go_wp2_with fail
                  refine hK.out _ _ ?_ (fun hHeld2 => ?_)
                  · exact ⟨u0, u1, u2, u3, u4, u5, u6, u7, u8⟩
                  clear hK K
                  refine wpAnyH_take (i := 5) (oi := { dst := some 43, op := Go.Op.unOp Go.UnOp.not 4 (Go.Operand.tmp 42), type := 4, pos := _, after := #[{ on := 4, ground := Go.Ground.data }], guard := none }) (v := ?_) rfl (by kernel_rfl) (by kernel_rfl) (by kernel_rfl) (fun _ _ _ h => h) (Or.inl ⟨by rfl, ?_⟩) (by assumption) ?_
                  rotate_left
                  · intro w hSw; (try dsimp only at hSw); go_simp <;> first | with_reducible rfl | (rw [if_neg (by first | omega | (simp only [ByteArray.size_append] at *; omega))])
                  simp only [Act.put, List.setIfInBounds_toArray, List.set_cons_zero, List.set_cons_succ]
                  refine wpAnyH_take (i := 6) (oi := { dst := some 44, op := Go.Op.move (Go.Operand.tmp 43), type := 4, pos := _, after := #[{ on := 5, ground := Go.Ground.data }, { on := 4, ground := Go.Ground.chain }], guard := none }) (v := ?_) rfl (by kernel_rfl) (by kernel_rfl) (by kernel_rfl) (fun _ _ _ h => h) (Or.inl ⟨by rfl, ?_⟩) (by assumption) ?_
                  rotate_left
                  · intro w hSw; (try dsimp only at hSw); go_simp <;> first | with_reducible rfl | (rw [if_neg (by first | omega | (simp only [ByteArray.size_append] at *; omega))])
                  simp only [Act.put, List.setIfInBounds_toArray, List.set_cons_zero, List.set_cons_succ]
                  refine wpAnyH_take (i := 7) (oi := { dst := some 45, op := Go.Op.fieldAddr 76 (Go.Operand.tmp 6) 3, type := 0, pos := _, after := #[{ on := 6, ground := Go.Ground.guard }], guard := some (6, false) }) (v := ?_) rfl (by kernel_rfl) (by kernel_rfl) (by kernel_rfl) (fun _ _ _ h => h) (Or.inl ⟨by rfl, ?_⟩) (by assumption) ?_
                  rotate_left
                  · intro w hSw; (try dsimp only at hSw); go_simp <;> first | with_reducible rfl | (rw [if_neg (by first | omega | (simp only [ByteArray.size_append] at *; omega))])
                  simp only [Act.put, List.setIfInBounds_toArray, List.set_cons_zero, List.set_cons_succ]
                  refine wpAnyH_take (i := 8) (oi := { dst := some 46, op := Go.Op.load 2 (Go.Operand.tmp 45), type := 2, pos := _, after := #[{ on := 7, ground := Go.Ground.data }, { on := 6, ground := Go.Ground.guard }], guard := some (6, false) }) (v := ?_) rfl (by kernel_rfl) (by kernel_rfl) (by kernel_rfl) (fun _ _ _ h => h) (Or.inl ⟨by rfl, ?_⟩) (by assumption) ?_
                  rotate_left
                  · intro w hSw; (try dsimp only at hSw); go_simp <;> first | with_reducible rfl | (rw [if_neg (by first | omega | (simp only [ByteArray.size_append] at *; omega))])
                  simp only [Act.put, List.setIfInBounds_toArray, List.set_cons_zero, List.set_cons_succ]
                  refine wpAnyH_take (i := 9) (oi := { dst := some 47, op := Go.Op.binOp Go.BinOp.eql 2 (Go.Operand.tmp 46) (Go.Operand.const (Go.Value.int Go.IntKind.i64 (-9223372036854775808))) 2, type := 4, pos := _, after := #[{ on := 8, ground := Go.Ground.data }, { on := 6, ground := Go.Ground.guard }], guard := some (6, false) }) (v := ?_) rfl (by kernel_rfl) (by kernel_rfl) (by kernel_rfl) (fun _ _ _ h => h) (Or.inl ⟨by rfl, ?_⟩) (by assumption) ?_
                  rotate_left
                  · intro w hSw; (try dsimp only at hSw); go_simp <;> first | with_reducible rfl | (rw [if_neg (by first | omega | (simp only [ByteArray.size_append] at *; omega))])
                  simp only [Act.put, List.setIfInBounds_toArray, List.set_cons_zero, List.set_cons_succ]
                  refine wpAnyH_take (i := 10) (oi := { dst := some 48, op := Go.Op.pick (Go.Operand.tmp 44) (Go.Operand.const (Go.Value.bool true)) (Go.Operand.tmp 47), type := 4, pos := _, after := #[{ on := 6, ground := Go.Ground.data }, { on := 9, ground := Go.Ground.data }], guard := none }) (v := ?_) rfl (by kernel_rfl) (by kernel_rfl) (by kernel_rfl) (fun _ _ _ h => h) (Or.inl ⟨by rfl, ?_⟩) (by assumption) ?_
                  rotate_left
                  · intro w hSw; (try dsimp only at hSw); go_simp <;> first | with_reducible rfl | (rw [if_neg (by first | omega | (simp only [ByteArray.size_append] at *; omega))])
                  simp only [Act.put, List.setIfInBounds_toArray, List.set_cons_zero, List.set_cons_succ]
                  refine wpAnyH_take (i := 11) (oi := { dst := some 49, op := Go.Op.move (Go.Operand.tmp 48), type := 4, pos := _, after := #[{ on := 10, ground := Go.Ground.data }, { on := 6, ground := Go.Ground.chain }], guard := none }) (v := ?_) rfl (by kernel_rfl) (by kernel_rfl) (by kernel_rfl) (fun _ _ _ h => h) (Or.inl ⟨by rfl, ?_⟩) (by assumption) ?_
                  rotate_left
                  · intro w hSw; (try dsimp only at hSw); go_simp <;> first | with_reducible rfl | (rw [if_neg (by first | omega | (simp only [ByteArray.size_append] at *; omega))])
                  simp only [Act.put, List.setIfInBounds_toArray, List.set_cons_zero, List.set_cons_succ]
                  refine wpAnyH_take (i := 12) (oi := { dst := some 50, op := Go.Op.fieldAddr 76 (Go.Operand.tmp 6) 4, type := 0, pos := _, after := #[{ on := 11, ground := Go.Ground.guard }], guard := some (11, false) }) (v := undef) rfl (by kernel_rfl) (by kernel_rfl) (by kernel_rfl) (fun _ _ _ h => h) (Or.inr ⟨by rfl, rfl⟩) (by assumption) ?_
                  simp only [Act.put, List.setIfInBounds_toArray, List.set_cons_zero, List.set_cons_succ]
                  refine wpAnyH_take (i := 13) (oi := { dst := some 51, op := Go.Op.load 70 (Go.Operand.tmp 50), type := 70, pos := _, after := #[{ on := 12, ground := Go.Ground.data }, { on := 11, ground := Go.Ground.guard }], guard := some (11, false) }) (v := undef) rfl (by kernel_rfl) (by kernel_rfl) (by kernel_rfl) (fun _ _ _ h => h) (Or.inr ⟨by rfl, rfl⟩) (by assumption) ?_
                  simp only [Act.put, List.setIfInBounds_toArray, List.set_cons_zero, List.set_cons_succ]
                  refine wpAnyH_take (i := 14) (oi := { dst := some 52, op := Go.Op.call { callee := Go.Callee.value (Go.Operand.func 82), args := #[Go.Operand.tmp 51], argTypes := #[70] }, type := 4, pos := _, after := #[{ on := 13, ground := Go.Ground.data }, { on := 11, ground := Go.Ground.chain }, { on := 11, ground := Go.Ground.guard }], guard := some (11, false) }) (v := undef) rfl (by kernel_rfl) (by kernel_rfl) (by kernel_rfl) (fun _ _ _ h => h) (Or.inr ⟨by rfl, rfl⟩) (by assumption) ?_
                  simp only [Act.put, List.setIfInBounds_toArray, List.set_cons_zero, List.set_cons_succ]
                  refine wpAnyH_take (i := 15) (oi := { dst := some 53, op := Go.Op.unOp Go.UnOp.not 4 (Go.Operand.tmp 52), type := 4, pos := _, after := #[{ on := 14, ground := Go.Ground.data }, { on := 11, ground := Go.Ground.guard }], guard := some (11, false) }) (v := undef) rfl (by kernel_rfl) (by kernel_rfl) (by kernel_rfl) (fun _ _ _ h => h) (Or.inr ⟨by rfl, rfl⟩) (by assumption) ?_
                  simp only [Act.put, List.setIfInBounds_toArray, List.set_cons_zero, List.set_cons_succ]
                  refine wpAnyH_take (i := 16) (oi := { dst := some 54, op := Go.Op.pick (Go.Operand.tmp 49) (Go.Operand.const (Go.Value.bool true)) (Go.Operand.tmp 53), type := 4, pos := _, after := #[{ on := 11, ground := Go.Ground.data }, { on := 15, ground := Go.Ground.data }], guard := none }) (v := ?_) rfl (by kernel_rfl) (by kernel_rfl) (by kernel_rfl) (fun _ _ _ h => h) (Or.inl ⟨by rfl, ?_⟩) (by assumption) ?_
                  rotate_left
                  · intro w hSw; (try dsimp only at hSw); go_simp <;> first | with_reducible rfl | (rw [if_neg (by first | omega | (simp only [ByteArray.size_append] at *; omega))])
                  simp only [Act.put, List.setIfInBounds_toArray, List.set_cons_zero, List.set_cons_succ]
                  refine wpAnyH_done (by kernel_rfl) ?_ _
                  go_wp2
                  go_ret
                  exact ⟨by rw [← hyes.out, hI.out, HN.out hf.out]; rfl, B5.out⟩
                · have hdb : (y.df == -9223372036854775808) = false := by simp [hd]
                  cases hchk : chk y.body with
                  | false =>
                    rw [hchk] at cck
                    have hf : Hid (flOk y p.st = false) := by unfold Hid flOk; rw [hh, hdb, hchk]; rfl
                    clear hh hd hchk
                    go_wp2
                    refine wp_region_held_drew (S := fun W => W.cell? ⟨w.heap.size, 0, none⟩ = some (.int .i64 p.st) ∧ W.cell? ⟨wr.heap.size, 0, none⟩ = some (.string y.name) ∧ W.cell? ⟨wr.heap.size, 1, none⟩ = some (.int .u8 (y.ty : Int)) ∧ W.cell? ⟨wr.heap.size, 2, none⟩ = some (.int .i64 y.st) ∧ W.cell? ⟨wr.heap.size, 3, none⟩ = some (.int .i64 y.df) ∧ W.cell? ⟨wr.heap.size, 4, none⟩ = some (.int .u8 (y.body.op : Int)) ∧ W.cell? ⟨wr.heap.size, 5, none⟩ = some (.int .i64 y.body.n) ∧ W.cell? ⟨wr.heap.size, 6, none⟩ = some (.string y.body.name) ∧ W.cell? ⟨wr.heap.size, 7, none⟩ = some (.slice a3 y.body.args.length c3)) (by kernel_rfl) ?_ (fun hHeld => ?_)
                    · exact ⟨s0, s1, s2, s3, s4, s5, s6, s7, s8⟩
                    refine wpAnyH_take (i := 0) (oi := { dst := some 38, op := Go.Op.load 76 (Go.Operand.tmp 6), type := 76, pos := _, after := #[], guard := none }) (v := ?_) rfl (by kernel_rfl) (by kernel_rfl) (by kernel_rfl) (fun _ _ _ h => h) (Or.inl ⟨by rfl, ?_⟩) (by assumption) ?_
                    rotate_left
                    · intro w hSw; (try dsimp only at hSw); go_simp <;> first | with_reducible rfl | (rw [if_neg (by first | omega | (simp only [ByteArray.size_append] at *; omega))])
                    simp only [Act.put, List.setIfInBounds_toArray, List.set_cons_zero, List.set_cons_succ]
                    refine wpAnyH_take (i := 2) (oi := { dst := some 40, op := Go.Op.fieldAddr 46 (Go.Operand.tmp 1) 0, type := 0, pos := _, after := #[], guard := none }) (v := ?_) rfl (by kernel_rfl) (by kernel_rfl) (by kernel_rfl) (fun _ _ _ h => h) (Or.inl ⟨by rfl, ?_⟩) (by assumption) ?_
                    rotate_left
                    · intro w hSw; (try dsimp only at hSw); go_simp <;> first | with_reducible rfl | (rw [if_neg (by first | omega | (simp only [ByteArray.size_append] at *; omega))])
                    simp only [Act.put, List.setIfInBounds_toArray, List.set_cons_zero, List.set_cons_succ]
                    refine wpAnyH_take (i := 3) (oi := { dst := some 41, op := Go.Op.load 3 (Go.Operand.tmp 40), type := 3, pos := _, after := #[{ on := 2, ground := Go.Ground.data }], guard := none }) (v := ?_) rfl (by kernel_rfl) (by kernel_rfl) (by kernel_rfl) (fun _ _ _ h => h) (Or.inl ⟨by rfl, ?_⟩) (by assumption) ?_
                    rotate_left
                    · intro w hSw; (try dsimp only at hSw); go_simp <;> first | with_reducible rfl | (rw [if_neg (by first | omega | (simp only [ByteArray.size_append] at *; omega))])
                    simp only [Act.put, List.setIfInBounds_toArray, List.set_cons_zero, List.set_cons_succ]
                    refine wpAnyH_ready (rs := [1]) (by kernel_rfl) (by simp) ?_
                    refine AllReadyH.cons (o := { dst := some 39, op := Go.Op.call { callee := Go.Callee.value (Go.Operand.func 81), args := #[Go.Operand.tmp 38], argTypes := #[76] }, type := 73, pos := _, after := #[{ on := 0, ground := Go.Ground.data }], guard := none }) rfl (fun K hK => ?_) AllReadyH.nil
                    go_simp
                    refine (head_of y _ _ ⟨_, _, _, rfl⟩).mono ?_
                    rintro e w4 ⟨rfl, hb4⟩
                    have t0 := cell_kept (w := (wr.alloc (.cells #[.string y.name, .int .u8 (y.ty : Int), .int .i64 y.st, .int .i64 y.df, .int .u8 (y.body.op : Int), .int .i64 y.body.n, .string y.body.name, .slice a3 y.body.args.length c3] 76)).drew) s0 hb4
                    have t1 := cell_kept (w := (wr.alloc (.cells #[.string y.name, .int .u8 (y.ty : Int), .int .i64 y.st, .int .i64 y.df, .int .u8 (y.body.op : Int), .int .i64 y.body.n, .string y.body.name, .slice a3 y.body.args.length c3] 76)).drew) s1 hb4
                    have t2 := cell_kept (w := (wr.alloc (.cells #[.string y.name, .int .u8 (y.ty : Int), .int .i64 y.st, .int .i64 y.df, .int .u8 (y.body.op : Int), .int .i64 y.body.n, .string y.body.name, .slice a3 y.body.args.length c3] 76)).drew) s2 hb4
                    have t3 := cell_kept (w := (wr.alloc (.cells #[.string y.name, .int .u8 (y.ty : Int), .int .i64 y.st, .int .i64 y.df, .int .u8 (y.body.op : Int), .int .i64 y.body.n, .string y.body.name, .slice a3 y.body.args.length c3] 76)).drew) s3 hb4
                    have t4 := cell_kept (w := (wr.alloc (.cells #[.string y.name, .int .u8 (y.ty : Int), .int .i64 y.st, .int .i64 y.df, .int .u8 (y.body.op : Int), .int .i64 y.body.n, .string y.body.name, .slice a3 y.body.args.length c3] 76)).drew) s4 hb4
                    have t5 := cell_kept (w := (wr.alloc (.cells #[.string y.name, .int .u8 (y.ty : Int), .int .i64 y.st, .int .i64 y.df, .int .u8 (y.body.op : Int), .int .i64 y.body.n, .string y.body.name, .slice a3 y.body.args.length c3] 76)).drew) s5 hb4
                    have t6 := cell_kept (w := (wr.alloc (.cells #[.string y.name, .int .u8 (y.ty : Int), .int .i64 y.st, .int .i64 y.df, .int .u8 (y.body.op : Int), .int .i64 y.body.n, .string y.body.name, .slice a3 y.body.args.length c3] 76)).drew) s6 hb4
                    have t7 := cell_kept (w := (wr.alloc (.cells #[.string y.name, .int .u8 (y.ty : Int), .int .i64 y.st, .int .i64 y.df, .int .u8 (y.body.op : Int), .int .i64 y.body.n, .string y.body.name, .slice a3 y.body.args.length c3] 76)).drew) s7 hb4
                    have t8 := cell_kept (w := (wr.alloc (.cells #[.string y.name, .int .u8 (y.ty : Int), .int .i64 y.st, .int .i64 y.df, .int .u8 (y.body.op : Int), .int .i64 y.body.n, .string y.body.name, .slice a3 y.body.args.length c3] 76)).drew) s8 hb4
                    have B4 := hid (bstep BW.out hb4)
                    go_wp2_with fail
                    refine hK.out _ _ ?_ (fun hHeld1 => ?_)
                    · exact ⟨t0, t1, t2, t3, t4, t5, t6, t7, t8⟩
                    clear hK K
                    refine wpAnyH_ready (rs := [4]) (by kernel_rfl) (by simp) ?_
                    refine AllReadyH.cons (o := { dst := some 42, op := Go.Op.call { callee := Go.Callee.value (Go.Operand.func 80), args := #[Go.Operand.tmp 39, Go.Operand.tmp 41], argTypes := #[73, 3] }, type := 4, pos := _, after := #[{ on := 1, ground := Go.Ground.data }, { on := 3, ground := Go.Ground.data }, { on := 1, ground := Go.Ground.chain }], guard := none }) rfl (fun K hK => ?_) AllReadyH.nil
                    go_simp
                    refine (cms.out _ (HR.out.below B4.out)).mono ?_
                    rintro e w5 ⟨rfl, hb5⟩
                    have u0 := cell_kept t0 hb5
                    have u1 := cell_kept t1 hb5
                    have u2 := cell_kept t2 hb5
                    have u3 := cell_kept t3 hb5
                    have u4 := cell_kept t4 hb5
                    have u5 := cell_kept t5 hb5
                    have u6 := cell_kept t6 hb5
                    have u7 := cell_kept t7 hb5
                    have u8 := cell_kept t8 hb5
                    have B5 := hid (bstep B4.out hb5)
                    go_wp2_with fail
                    refine hK.out _ _ ?_ (fun hHeld2 => ?_)
                    · exact ⟨u0, u1, u2, u3, u4, u5, u6, u7, u8⟩
                    clear hK K
                    refine wpAnyH_take (i := 5) (oi := { dst := some 43, op := Go.Op.unOp Go.UnOp.not 4 (Go.Operand.tmp 42), type := 4, pos := _, after := #[{ on := 4, ground := Go.Ground.data }], guard := none }) (v := ?_) rfl (by kernel_rfl) (by kernel_rfl) (by kernel_rfl) (fun _ _ _ h => h) (Or.inl ⟨by rfl, ?_⟩) (by assumption) ?_
                    rotate_left
                    · intro w hSw; (try dsimp only at hSw); go_simp <;> first | with_reducible rfl | (rw [if_neg (by first | omega | (simp only [ByteArray.size_append] at *; omega))])
                    simp only [Act.put, List.setIfInBounds_toArray, List.set_cons_zero, List.set_cons_succ]
                    refine wpAnyH_take (i := 6) (oi := { dst := some 44, op := Go.Op.move (Go.Operand.tmp 43), type := 4, pos := _, after := #[{ on := 5, ground := Go.Ground.data }, { on := 4, ground := Go.Ground.chain }], guard := none }) (v := ?_) rfl (by kernel_rfl) (by kernel_rfl) (by kernel_rfl) (fun _ _ _ h => h) (Or.inl ⟨by rfl, ?_⟩) (by assumption) ?_
                    rotate_left
                    · intro w hSw; (try dsimp only at hSw); go_simp <;> first | with_reducible rfl | (rw [if_neg (by first | omega | (simp only [ByteArray.size_append] at *; omega))])
                    simp only [Act.put, List.setIfInBounds_toArray, List.set_cons_zero, List.set_cons_succ]
                    refine wpAnyH_take (i := 7) (oi := { dst := some 45, op := Go.Op.fieldAddr 76 (Go.Operand.tmp 6) 3, type := 0, pos := _, after := #[{ on := 6, ground := Go.Ground.guard }], guard := some (6, false) }) (v := ?_) rfl (by kernel_rfl) (by kernel_rfl) (by kernel_rfl) (fun _ _ _ h => h) (Or.inl ⟨by rfl, ?_⟩) (by assumption) ?_
                    rotate_left
                    · intro w hSw; (try dsimp only at hSw); go_simp <;> first | with_reducible rfl | (rw [if_neg (by first | omega | (simp only [ByteArray.size_append] at *; omega))])
                    simp only [Act.put, List.setIfInBounds_toArray, List.set_cons_zero, List.set_cons_succ]
                    refine wpAnyH_take (i := 8) (oi := { dst := some 46, op := Go.Op.load 2 (Go.Operand.tmp 45), type := 2, pos := _, after := #[{ on := 7, ground := Go.Ground.data }, { on := 6, ground := Go.Ground.guard }], guard := some (6, false) }) (v := ?_) rfl (by kernel_rfl) (by kernel_rfl) (by kernel_rfl) (fun _ _ _ h => h) (Or.inl ⟨by rfl, ?_⟩) (by assumption) ?_
                    rotate_left
                    · intro w hSw; (try dsimp only at hSw); go_simp <;> first | with_reducible rfl | (rw [if_neg (by first | omega | (simp only [ByteArray.size_append] at *; omega))])
                    simp only [Act.put, List.setIfInBounds_toArray, List.set_cons_zero, List.set_cons_succ]
                    refine wpAnyH_take (i := 9) (oi := { dst := some 47, op := Go.Op.binOp Go.BinOp.eql 2 (Go.Operand.tmp 46) (Go.Operand.const (Go.Value.int Go.IntKind.i64 (-9223372036854775808))) 2, type := 4, pos := _, after := #[{ on := 8, ground := Go.Ground.data }, { on := 6, ground := Go.Ground.guard }], guard := some (6, false) }) (v := ?_) rfl (by kernel_rfl) (by kernel_rfl) (by kernel_rfl) (fun _ _ _ h => h) (Or.inl ⟨by rfl, ?_⟩) (by assumption) ?_
                    rotate_left
                    · intro w hSw; (try dsimp only at hSw); go_simp <;> first | with_reducible rfl | (rw [if_neg (by first | omega | (simp only [ByteArray.size_append] at *; omega))])
                    simp only [Act.put, List.setIfInBounds_toArray, List.set_cons_zero, List.set_cons_succ]
                    refine wpAnyH_take (i := 10) (oi := { dst := some 48, op := Go.Op.pick (Go.Operand.tmp 44) (Go.Operand.const (Go.Value.bool true)) (Go.Operand.tmp 47), type := 4, pos := _, after := #[{ on := 6, ground := Go.Ground.data }, { on := 9, ground := Go.Ground.data }], guard := none }) (v := ?_) rfl (by kernel_rfl) (by kernel_rfl) (by kernel_rfl) (fun _ _ _ h => h) (Or.inl ⟨by rfl, ?_⟩) (by assumption) ?_
                    rotate_left
                    · intro w hSw; (try dsimp only at hSw); go_simp <;> first | with_reducible rfl | (rw [if_neg (by first | omega | (simp only [ByteArray.size_append] at *; omega))])
                    simp only [Act.put, List.setIfInBounds_toArray, List.set_cons_zero, List.set_cons_succ]
                    refine wpAnyH_take (i := 11) (oi := { dst := some 49, op := Go.Op.move (Go.Operand.tmp 48), type := 4, pos := _, after := #[{ on := 10, ground := Go.Ground.data }, { on := 6, ground := Go.Ground.chain }], guard := none }) (v := ?_) rfl (by kernel_rfl) (by kernel_rfl) (by kernel_rfl) (fun _ _ _ h => h) (Or.inl ⟨by rfl, ?_⟩) (by assumption) ?_
                    rotate_left
                    · intro w hSw; (try dsimp only at hSw); go_simp <;> first | with_reducible rfl | (rw [if_neg (by first | omega | (simp only [ByteArray.size_append] at *; omega))])
                    simp only [Act.put, List.setIfInBounds_toArray, List.set_cons_zero, List.set_cons_succ]
                    refine wpAnyH_take (i := 12) (oi := { dst := some 50, op := Go.Op.fieldAddr 76 (Go.Operand.tmp 6) 4, type := 0, pos := _, after := #[{ on := 11, ground := Go.Ground.guard }], guard := some (11, false) }) (v := ?_) rfl (by kernel_rfl) (by kernel_rfl) (by kernel_rfl) (fun _ _ _ h => h) (Or.inl ⟨by rfl, ?_⟩) (by assumption) ?_
                    rotate_left
                    · intro w hSw; (try dsimp only at hSw); go_simp <;> first | with_reducible rfl | (rw [if_neg (by first | omega | (simp only [ByteArray.size_append] at *; omega))])
                    simp only [Act.put, List.setIfInBounds_toArray, List.set_cons_zero, List.set_cons_succ]
                    refine wpAnyH_take (i := 13) (oi := { dst := some 51, op := Go.Op.load 70 (Go.Operand.tmp 50), type := 70, pos := _, after := #[{ on := 12, ground := Go.Ground.data }, { on := 11, ground := Go.Ground.guard }], guard := some (11, false) }) (v := ?_) rfl (by kernel_rfl) (by kernel_rfl) (by kernel_rfl) (fun _ _ _ h => h) (Or.inl ⟨by rfl, ?_⟩) (by assumption) ?_
                    rotate_left
                    · intro w hSw; (try dsimp only at hSw); go_simp <;> first | with_reducible rfl | (rw [if_neg (by first | omega | (simp only [ByteArray.size_append] at *; omega))])
                    simp only [Act.put, List.setIfInBounds_toArray, List.set_cons_zero, List.set_cons_succ]
                    refine wpAnyH_ready (rs := [14]) (by kernel_rfl) (by simp) ?_
                    refine AllReadyH.cons (o := { dst := some 52, op := Go.Op.call { callee := Go.Callee.value (Go.Operand.func 82), args := #[Go.Operand.tmp 51], argTypes := #[70] }, type := 4, pos := _, after := #[{ on := 13, ground := Go.Ground.data }, { on := 11, ground := Go.Ground.chain }, { on := 11, ground := Go.Ground.guard }], guard := some (11, false) }) rfl (fun K hK => ?_) AllReadyH.nil
                    go_simp
                    refine (cck.out _ (HSt.out.keep B5.out) (HR.out.below B5.out) (HJ.out.below B5.out)).mono ?_
                    rintro e w6 ⟨rfl, hb6⟩
                    have v0 := cell_kept u0 hb6
                    have v1 := cell_kept u1 hb6
                    have v2 := cell_kept u2 hb6
                    have v3 := cell_kept u3 hb6
                    have v4 := cell_kept u4 hb6
                    have v5 := cell_kept u5 hb6
                    have v6 := cell_kept u6 hb6
                    have v7 := cell_kept u7 hb6
                    have v8 := cell_kept u8 hb6
                    have B6 := hid (bstep B5.out hb6)
                    go_wp2_with fail
                    refine hK.out _ _ ?_ (fun hHeld3 => ?_)
                    · exact ⟨v0, v1, v2, v3, v4, v5, v6, v7, v8⟩
                    clear hK K
                    refine wpAnyH_take (i := 15) (oi := { dst := some 53, op := Go.Op.unOp Go.UnOp.not 4 (Go.Operand.tmp 52), type := 4, pos := _, after := #[{ on := 14, ground := Go.Ground.data }, { on := 11, ground := Go.Ground.guard }], guard := some (11, false) }) (v := ?_) rfl (by kernel_rfl) (by kernel_rfl) (by kernel_rfl) (fun _ _ _ h => h) (Or.inl ⟨by rfl, ?_⟩) (by assumption) ?_
                    rotate_left
                    · intro w hSw; (try dsimp only at hSw); go_simp <;> first | with_reducible rfl | (rw [if_neg (by first | omega | (simp only [ByteArray.size_append] at *; omega))])
                    simp only [Act.put, List.setIfInBounds_toArray, List.set_cons_zero, List.set_cons_succ]
                    refine wpAnyH_take (i := 16) (oi := { dst := some 54, op := Go.Op.pick (Go.Operand.tmp 49) (Go.Operand.const (Go.Value.bool true)) (Go.Operand.tmp 53), type := 4, pos := _, after := #[{ on := 11, ground := Go.Ground.data }, { on := 15, ground := Go.Ground.data }], guard := none }) (v := ?_) rfl (by kernel_rfl) (by kernel_rfl) (by kernel_rfl) (fun _ _ _ h => h) (Or.inl ⟨by rfl, ?_⟩) (by assumption) ?_
                    rotate_left
                    · intro w hSw; (try dsimp only at hSw); go_simp <;> first | with_reducible rfl | (rw [if_neg (by first | omega | (simp only [ByteArray.size_append] at *; omega))])
                    simp only [Act.put, List.setIfInBounds_toArray, List.set_cons_zero, List.set_cons_succ]
                    refine wpAnyH_done (by kernel_rfl) ?_ _
                    go_wp2
                    go_ret
                    exact ⟨by rw [← hyes.out, hI.out, HN.out hf.out]; rfl, B6.out⟩
                  | true =>
                    rw [hchk] at cck
                    have hf : Hid (flOk y p.st = true) := by unfold Hid flOk; rw [hh, hdb, hchk]; rfl
                    clear hh hd hchk
                    go_wp2
                    refine wp_region_held_drew (S := fun W => W.cell? ⟨w.heap.size, 0, none⟩ = some (.int .i64 p.st) ∧ W.cell? ⟨wr.heap.size, 0, none⟩ = some (.string y.name) ∧ W.cell? ⟨wr.heap.size, 1, none⟩ = some (.int .u8 (y.ty : Int)) ∧ W.cell? ⟨wr.heap.size, 2, none⟩ = some (.int .i64 y.st) ∧ W.cell? ⟨wr.heap.size, 3, none⟩ = some (.int .i64 y.df) ∧ W.cell? ⟨wr.heap.size, 4, none⟩ = some (.int .u8 (y.body.op : Int)) ∧ W.cell? ⟨wr.heap.size, 5, none⟩ = some (.int .i64 y.body.n) ∧ W.cell? ⟨wr.heap.size, 6, none⟩ = some (.string y.body.name) ∧ W.cell? ⟨wr.heap.size, 7, none⟩ = some (.slice a3 y.body.args.length c3)) (by kernel_rfl) ?_ (fun hHeld => ?_)
                    · exact ⟨s0, s1, s2, s3, s4, s5, s6, s7, s8⟩
                    refine wpAnyH_take (i := 0) (oi := { dst := some 38, op := Go.Op.load 76 (Go.Operand.tmp 6), type := 76, pos := _, after := #[], guard := none }) (v := ?_) rfl (by kernel_rfl) (by kernel_rfl) (by kernel_rfl) (fun _ _ _ h => h) (Or.inl ⟨by rfl, ?_⟩) (by assumption) ?_
                    rotate_left
                    · intro w hSw; (try dsimp only at hSw); go_simp <;> first | with_reducible rfl | (rw [if_neg (by first | omega | (simp only [ByteArray.size_append] at *; omega))])
                    simp only [Act.put, List.setIfInBounds_toArray, List.set_cons_zero, List.set_cons_succ]
                    refine wpAnyH_take (i := 2) (oi := { dst := some 40, op := Go.Op.fieldAddr 46 (Go.Operand.tmp 1) 0, type := 0, pos := _, after := #[], guard := none }) (v := ?_) rfl (by kernel_rfl) (by kernel_rfl) (by kernel_rfl) (fun _ _ _ h => h) (Or.inl ⟨by rfl, ?_⟩) (by assumption) ?_
                    rotate_left
                    · intro w hSw; (try dsimp only at hSw); go_simp <;> first | with_reducible rfl | (rw [if_neg (by first | omega | (simp only [ByteArray.size_append] at *; omega))])
                    simp only [Act.put, List.setIfInBounds_toArray, List.set_cons_zero, List.set_cons_succ]
                    refine wpAnyH_take (i := 3) (oi := { dst := some 41, op := Go.Op.load 3 (Go.Operand.tmp 40), type := 3, pos := _, after := #[{ on := 2, ground := Go.Ground.data }], guard := none }) (v := ?_) rfl (by kernel_rfl) (by kernel_rfl) (by kernel_rfl) (fun _ _ _ h => h) (Or.inl ⟨by rfl, ?_⟩) (by assumption) ?_
                    rotate_left
                    · intro w hSw; (try dsimp only at hSw); go_simp <;> first | with_reducible rfl | (rw [if_neg (by first | omega | (simp only [ByteArray.size_append] at *; omega))])
                    simp only [Act.put, List.setIfInBounds_toArray, List.set_cons_zero, List.set_cons_succ]
                    refine wpAnyH_ready (rs := [1]) (by kernel_rfl) (by simp) ?_
                    refine AllReadyH.cons (o := { dst := some 39, op := Go.Op.call { callee := Go.Callee.value (Go.Operand.func 81), args := #[Go.Operand.tmp 38], argTypes := #[76] }, type := 73, pos := _, after := #[{ on := 0, ground := Go.Ground.data }], guard := none }) rfl (fun K hK => ?_) AllReadyH.nil
                    go_simp
                    refine (head_of y _ _ ⟨_, _, _, rfl⟩).mono ?_
                    rintro e w4 ⟨rfl, hb4⟩
                    have t0 := cell_kept (w := (wr.alloc (.cells #[.string y.name, .int .u8 (y.ty : Int), .int .i64 y.st, .int .i64 y.df, .int .u8 (y.body.op : Int), .int .i64 y.body.n, .string y.body.name, .slice a3 y.body.args.length c3] 76)).drew) s0 hb4
                    have t1 := cell_kept (w := (wr.alloc (.cells #[.string y.name, .int .u8 (y.ty : Int), .int .i64 y.st, .int .i64 y.df, .int .u8 (y.body.op : Int), .int .i64 y.body.n, .string y.body.name, .slice a3 y.body.args.length c3] 76)).drew) s1 hb4
                    have t2 := cell_kept (w := (wr.alloc (.cells #[.string y.name, .int .u8 (y.ty : Int), .int .i64 y.st, .int .i64 y.df, .int .u8 (y.body.op : Int), .int .i64 y.body.n, .string y.body.name, .slice a3 y.body.args.length c3] 76)).drew) s2 hb4
                    have t3 := cell_kept (w := (wr.alloc (.cells #[.string y.name, .int .u8 (y.ty : Int), .int .i64 y.st, .int .i64 y.df, .int .u8 (y.body.op : Int), .int .i64 y.body.n, .string y.body.name, .slice a3 y.body.args.length c3] 76)).drew) s3 hb4
                    have t4 := cell_kept (w := (wr.alloc (.cells #[.string y.name, .int .u8 (y.ty : Int), .int .i64 y.st, .int .i64 y.df, .int .u8 (y.body.op : Int), .int .i64 y.body.n, .string y.body.name, .slice a3 y.body.args.length c3] 76)).drew) s4 hb4
                    have t5 := cell_kept (w := (wr.alloc (.cells #[.string y.name, .int .u8 (y.ty : Int), .int .i64 y.st, .int .i64 y.df, .int .u8 (y.body.op : Int), .int .i64 y.body.n, .string y.body.name, .slice a3 y.body.args.length c3] 76)).drew) s5 hb4
                    have t6 := cell_kept (w := (wr.alloc (.cells #[.string y.name, .int .u8 (y.ty : Int), .int .i64 y.st, .int .i64 y.df, .int .u8 (y.body.op : Int), .int .i64 y.body.n, .string y.body.name, .slice a3 y.body.args.length c3] 76)).drew) s6 hb4
                    have t7 := cell_kept (w := (wr.alloc (.cells #[.string y.name, .int .u8 (y.ty : Int), .int .i64 y.st, .int .i64 y.df, .int .u8 (y.body.op : Int), .int .i64 y.body.n, .string y.body.name, .slice a3 y.body.args.length c3] 76)).drew) s7 hb4
                    have t8 := cell_kept (w := (wr.alloc (.cells #[.string y.name, .int .u8 (y.ty : Int), .int .i64 y.st, .int .i64 y.df, .int .u8 (y.body.op : Int), .int .i64 y.body.n, .string y.body.name, .slice a3 y.body.args.length c3] 76)).drew) s8 hb4
                    have B4 := hid (bstep BW.out hb4)
                    go_wp2_with fail
                    refine hK.out _ _ ?_ (fun hHeld1 => ?_)
                    · exact ⟨t0, t1, t2, t3, t4, t5, t6, t7, t8⟩
                    clear hK K
                    refine wpAnyH_ready (rs := [4]) (by kernel_rfl) (by simp) ?_
                    refine AllReadyH.cons (o := { dst := some 42, op := Go.Op.call { callee := Go.Callee.value (Go.Operand.func 80), args := #[Go.Operand.tmp 39, Go.Operand.tmp 41], argTypes := #[73, 3] }, type := 4, pos := _, after := #[{ on := 1, ground := Go.Ground.data }, { on := 3, ground := Go.Ground.data }, { on := 1, ground := Go.Ground.chain }], guard := none }) rfl (fun K hK => ?_) AllReadyH.nil
                    go_simp
                    refine (cms.out _ (HR.out.below B4.out)).mono ?_
                    rintro e w5 ⟨rfl, hb5⟩
                    have u0 := cell_kept t0 hb5
                    have u1 := cell_kept t1 hb5
                    have u2 := cell_kept t2 hb5
                    have u3 := cell_kept t3 hb5
                    have u4 := cell_kept t4 hb5
                    have u5 := cell_kept t5 hb5
                    have u6 := cell_kept t6 hb5
                    have u7 := cell_kept t7 hb5
                    have u8 := cell_kept t8 hb5
                    have B5 := hid (bstep B4.out hb5)
                    go_wp2_with fail
                    refine hK.out _ _ ?_ (fun hHeld2 => ?_)
                    · exact ⟨u0, u1, u2, u3, u4, u5, u6, u7, u8⟩
                    clear hK K
                    refine wpAnyH_take (i := 5) (oi := { dst := some 43, op := Go.Op.unOp Go.UnOp.not 4 (Go.Operand.tmp 42), type := 4, pos := _, after := #[{ on := 4, ground := Go.Ground.data }], guard := none }) (v := ?_) rfl (by kernel_rfl) (by kernel_rfl) (by kernel_rfl) (fun _ _ _ h => h) (Or.inl ⟨by rfl, ?_⟩) (by assumption) ?_
                    rotate_left
                    · intro w hSw; (try dsimp only at hSw); go_simp <;> first | with_reducible rfl | (rw [if_neg (by first | omega | (simp only [ByteArray.size_append] at *; omega))])
                    simp only [Act.put, List.setIfInBounds_toArray, List.set_cons_zero, List.set_cons_succ]
                    refine wpAnyH_take (i := 6) (oi := { dst := some 44, op := Go.Op.move (Go.Operand.tmp 43), type := 4, pos := _, after := #[{ on := 5, ground := Go.Ground.data }, { on := 4, ground := Go.Ground.chain }], guard := none }) (v := ?_) rfl (by kernel_rfl) (by kernel_rfl) (by kernel_rfl) (fun _ _ _ h => h) (Or.inl ⟨by rfl, ?_⟩) (by assumption) ?_
                    rotate_left
                    · intro w hSw; (try dsimp only at hSw); go_simp <;> first | with_reducible rfl | (rw [if_neg (by first | omega | (simp only [ByteArray.size_append] at *; omega))])
                    simp only [Act.put, List.setIfInBounds_toArray, List.set_cons_zero, List.set_cons_succ]
                    refine wpAnyH_take (i := 7) (oi := { dst := some 45, op := Go.Op.fieldAddr 76 (Go.Operand.tmp 6) 3, type := 0, pos := _, after := #[{ on := 6, ground := Go.Ground.guard }], guard := some (6, false) }) (v := ?_) rfl (by kernel_rfl) (by kernel_rfl) (by kernel_rfl) (fun _ _ _ h => h) (Or.inl ⟨by rfl, ?_⟩) (by assumption) ?_
                    rotate_left
                    · intro w hSw; (try dsimp only at hSw); go_simp <;> first | with_reducible rfl | (rw [if_neg (by first | omega | (simp only [ByteArray.size_append] at *; omega))])
                    simp only [Act.put, List.setIfInBounds_toArray, List.set_cons_zero, List.set_cons_succ]
                    refine wpAnyH_take (i := 8) (oi := { dst := some 46, op := Go.Op.load 2 (Go.Operand.tmp 45), type := 2, pos := _, after := #[{ on := 7, ground := Go.Ground.data }, { on := 6, ground := Go.Ground.guard }], guard := some (6, false) }) (v := ?_) rfl (by kernel_rfl) (by kernel_rfl) (by kernel_rfl) (fun _ _ _ h => h) (Or.inl ⟨by rfl, ?_⟩) (by assumption) ?_
                    rotate_left
                    · intro w hSw; (try dsimp only at hSw); go_simp <;> first | with_reducible rfl | (rw [if_neg (by first | omega | (simp only [ByteArray.size_append] at *; omega))])
                    simp only [Act.put, List.setIfInBounds_toArray, List.set_cons_zero, List.set_cons_succ]
                    refine wpAnyH_take (i := 9) (oi := { dst := some 47, op := Go.Op.binOp Go.BinOp.eql 2 (Go.Operand.tmp 46) (Go.Operand.const (Go.Value.int Go.IntKind.i64 (-9223372036854775808))) 2, type := 4, pos := _, after := #[{ on := 8, ground := Go.Ground.data }, { on := 6, ground := Go.Ground.guard }], guard := some (6, false) }) (v := ?_) rfl (by kernel_rfl) (by kernel_rfl) (by kernel_rfl) (fun _ _ _ h => h) (Or.inl ⟨by rfl, ?_⟩) (by assumption) ?_
                    rotate_left
                    · intro w hSw; (try dsimp only at hSw); go_simp <;> first | with_reducible rfl | (rw [if_neg (by first | omega | (simp only [ByteArray.size_append] at *; omega))])
                    simp only [Act.put, List.setIfInBounds_toArray, List.set_cons_zero, List.set_cons_succ]
                    refine wpAnyH_take (i := 10) (oi := { dst := some 48, op := Go.Op.pick (Go.Operand.tmp 44) (Go.Operand.const (Go.Value.bool true)) (Go.Operand.tmp 47), type := 4, pos := _, after := #[{ on := 6, ground := Go.Ground.data }, { on := 9, ground := Go.Ground.data }], guard := none }) (v := ?_) rfl (by kernel_rfl) (by kernel_rfl) (by kernel_rfl) (fun _ _ _ h => h) (Or.inl ⟨by rfl, ?_⟩) (by assumption) ?_
                    rotate_left
                    · intro w hSw; (try dsimp only at hSw); go_simp <;> first | with_reducible rfl | (rw [if_neg (by first | omega | (simp only [ByteArray.size_append] at *; omega))])
                    simp only [Act.put, List.setIfInBounds_toArray, List.set_cons_zero, List.set_cons_succ]
                    refine wpAnyH_take (i := 11) (oi := { dst := some 49, op := Go.Op.move (Go.Operand.tmp 48), type := 4, pos := _, after := #[{ on := 10, ground := Go.Ground.data }, { on := 6, ground := Go.Ground.chain }], guard := none }) (v := ?_) rfl (by kernel_rfl) (by kernel_rfl) (by kernel_rfl) (fun _ _ _ h => h) (Or.inl ⟨by rfl, ?_⟩) (by assumption) ?_
                    rotate_left
                    · intro w hSw; (try dsimp only at hSw); go_simp <;> first | with_reducible rfl | (rw [if_neg (by first | omega | (simp only [ByteArray.size_append] at *; omega))])
                    simp only [Act.put, List.setIfInBounds_toArray, List.set_cons_zero, List.set_cons_succ]
                    refine wpAnyH_take (i := 12) (oi := { dst := some 50, op := Go.Op.fieldAddr 76 (Go.Operand.tmp 6) 4, type := 0, pos := _, after := #[{ on := 11, ground := Go.Ground.guard }], guard := some (11, false) }) (v := ?_) rfl (by kernel_rfl) (by kernel_rfl) (by kernel_rfl) (fun _ _ _ h => h) (Or.inl ⟨by rfl, ?_⟩) (by assumption) ?_
                    rotate_left
                    · intro w hSw; (try dsimp only at hSw); go_simp <;> first | with_reducible rfl | (rw [if_neg (by first | omega | (simp only [ByteArray.size_append] at *; omega))])
                    simp only [Act.put, List.setIfInBounds_toArray, List.set_cons_zero, List.set_cons_succ]
                    refine wpAnyH_take (i := 13) (oi := { dst := some 51, op := Go.Op.load 70 (Go.Operand.tmp 50), type := 70, pos := _, after := #[{ on := 12, ground := Go.Ground.data }, { on := 11, ground := Go.Ground.guard }], guard := some (11, false) }) (v := ?_) rfl (by kernel_rfl) (by kernel_rfl) (by kernel_rfl) (fun _ _ _ h => h) (Or.inl ⟨by rfl, ?_⟩) (by assumption) ?_
                    rotate_left
                    · intro w hSw; (try dsimp only at hSw); go_simp <;> first | with_reducible rfl | (rw [if_neg (by first | omega | (simp only [ByteArray.size_append] at *; omega))])
                    simp only [Act.put, List.setIfInBounds_toArray, List.set_cons_zero, List.set_cons_succ]
                    refine wpAnyH_ready (rs := [14]) (by kernel_rfl) (by simp) ?_
                    refine AllReadyH.cons (o := { dst := some 52, op := Go.Op.call { callee := Go.Callee.value (Go.Operand.func 82), args := #[Go.Operand.tmp 51], argTypes := #[70] }, type := 4, pos := _, after := #[{ on := 13, ground := Go.Ground.data }, { on := 11, ground := Go.Ground.chain }, { on := 11, ground := Go.Ground.guard }], guard := some (11, false) }) rfl (fun K hK => ?_) AllReadyH.nil
                    go_simp
                    refine (cck.out _ (HSt.out.keep B5.out) (HR.out.below B5.out) (HJ.out.below B5.out)).mono ?_
                    rintro e w6 ⟨rfl, hb6⟩
                    have v0 := cell_kept u0 hb6
                    have v1 := cell_kept u1 hb6
                    have v2 := cell_kept u2 hb6
                    have v3 := cell_kept u3 hb6
                    have v4 := cell_kept u4 hb6
                    have v5 := cell_kept u5 hb6
                    have v6 := cell_kept u6 hb6
                    have v7 := cell_kept u7 hb6
                    have v8 := cell_kept u8 hb6
                    have B6 := hid (bstep B5.out hb6)
                    go_wp2_with fail
                    refine hK.out _ _ ?_ (fun hHeld3 => ?_)
                    · exact ⟨v0, v1, v2, v3, v4, v5, v6, v7, v8⟩
                    clear hK K
                    refine wpAnyH_take (i := 15) (oi := { dst := some 53, op := Go.Op.unOp Go.UnOp.not 4 (Go.Operand.tmp 52), type := 4, pos := _, after := #[{ on := 14, ground := Go.Ground.data }, { on := 11, ground := Go.Ground.guard }], guard := some (11, false) }) (v := ?_) rfl (by kernel_rfl) (by kernel_rfl) (by kernel_rfl) (fun _ _ _ h => h) (Or.inl ⟨by rfl, ?_⟩) (by assumption) ?_
                    rotate_left
                    · intro w hSw; (try dsimp only at hSw); go_simp <;> first | with_reducible rfl | (rw [if_neg (by first | omega | (simp only [ByteArray.size_append] at *; omega))])
                    simp only [Act.put, List.setIfInBounds_toArray, List.set_cons_zero, List.set_cons_succ]
                    refine wpAnyH_take (i := 16) (oi := { dst := some 54, op := Go.Op.pick (Go.Operand.tmp 49) (Go.Operand.const (Go.Value.bool true)) (Go.Operand.tmp 53), type := 4, pos := _, after := #[{ on := 11, ground := Go.Ground.data }, { on := 15, ground := Go.Ground.data }], guard := none }) (v := ?_) rfl (by kernel_rfl) (by kernel_rfl) (by kernel_rfl) (fun _ _ _ h => h) (Or.inl ⟨by rfl, ?_⟩) (by assumption) ?_
                    rotate_left
                    · intro w hSw; (try dsimp only at hSw); go_simp <;> first | with_reducible rfl | (rw [if_neg (by first | omega | (simp only [ByteArray.size_append] at *; omega))])
                    simp only [Act.put, List.setIfInBounds_toArray, List.set_cons_zero, List.set_cons_succ]
                    refine wpAnyH_done (by kernel_rfl) ?_ _
                    go_wp2
                    go_roundw
                    case rel => exact ⟨j + 1, by omega, by go_num, hid (HY.out hf.out), bstep (bstep (bstep BL.out.drew hb4) hb5) hb6⟩
                    case measure => simp [intOf]; omega
            · have hjl' : ¬ (j : Int) < (p.flows.length : Int) := by omega
              have hF : Hid (p.flows.all (fun x => flOk x p.st) = true) := by rw [List.take_of_length_le (by omega)] at hA2; exact hA2
              have z3 := cell_kept Y3.out hB2.out
              go_wp2
              go_loopw [59] (fun i wr => ∃ k : Nat, k ≤ p.outs.length ∧ i = .int .i64 (k : Int) ∧ Hid ((p.outs.take k).all isName = true) ∧ Hid (Below w2.heap.size w2 wr)) (fun i _ => p.outs.length - (intOf i).toNat)
              case atStart => exact ⟨0, Nat.zero_le _, rfl, hid (by simp), hB2⟩
              case round =>
                obtain ⟨m, hm, rfl, hA3, hB3⟩ := hrel
                by_cases hml : m < p.outs.length
                · have hml' : (m : Int) < (p.outs.length : Int) := by omega
                  have hm0 : (0 : Int) ≤ (m : Int) := by omega
                  obtain ⟨bb, o, rfl, hcc⟩ := HC3.out.resolve_left (by omega)
                  have v0 := cell_kept (hcc m hml) (bstep B2.out hB3.out)
                  have cn := name p.outs[m] _ (HR.out.below (bstep B2.out hB3.out))
                  have HY := hid (fun h => all_take_succ (f := isName) hml hA3.out h)
                  have HN := hid (fun h => all_no (f := isName) hml h)
                  clear hcc
                  generalize p.outs[m] = y at *
                  cases hh : isName y with
                  | true =>
                    rw [hh] at cn
                    go_wp2_with (go_at_call 83; refine cn.mono ?_; rintro e w4 ⟨rfl, hb4⟩)
                    go_roundw
                    case rel => exact ⟨m + 1, by omega, by go_num, hid (HY.out hh), bstep hB3.out hb4⟩
                    case measure => simp [intOf]; omega
                  | false =>
                    rw [hh] at cn
                    go_wp2_with (go_at_call 83; refine cn.mono ?_; rintro e w4 ⟨rfl, hb4⟩)
                    go_ret
                    exact ⟨by rw [← hyes.out, hI.out, hF.out, HN.out hh]; rfl, bstep (bstep B2.out hB3.out) hb4⟩
                · have hml' : ¬ (m : Int) < (p.outs.length : Int) := by omega
                  have hO : Hid (p.outs.all isName = true) := by rw [List.take_of_length_le (by omega)] at hA3; exact hA3
                  go_wp2
                  go_ret
                  exact ⟨by rw [← hyes.out, hI.out, hF.out, hO.out]; rfl, bstep B2.out hB3.out⟩
end Go.Proofs.YtdenddknbmiboaaDoor.Lex
namespace Go.Proofs.YtdenddknbmiboaaDoor.Lex
open Go.ChangeShapes Go.WideShapes Go.ChangeAt Go.RowKit Go.Joins
abbrev tlV (t : Int × Int) : Value := .agg #[.int .i64 t.1, .int .i64 t.2]
abbrev tlD (t : Int × Int) : DataW Unit := .agg [.lit (.int .i64 t.1), .lit (.int .i64 t.2)]
/-- How a tally reads. -/
def tlR (v : Value) : Option (DataW Unit × List MemPlace) := match v with
  | .agg ⟨[.int .i64 a, .int .i64 b]⟩ => some (tlD (a, b), [])
  | _ => none
theorem tlR_mk (t : Int × Int) : tlR (tlV t) = some (tlD t, []) := rfl
theorem tlR_inv {v : Value} {t : Int × Int} {ps : List MemPlace} (h : tlR v = some (tlD t, ps)) : v = tlV t := by
  unfold tlR at h
  split at h
  · simp only [Option.some.injEq, Prod.mk.injEq, DataW.agg.injEq, List.cons.injEq, DataW.lit.injEq, Lit.int.injEq, true_and, and_true] at h
    obtain ⟨⟨h1, h2⟩, _⟩ := h
    subst h1 h2
    rfl
  · cases h
/-- A map of tallies in memory. -/
def TMap (W : World) (b n : Nat) (T : List UInt8 → Int × Int) : Prop := ∃ D : DataW Unit, W.ownsMap Tryd.prog 9 tlR b n D ∧ ∀ s : List UInt8, D.atKey (.string s) (tlD (0, 0)) = tlD (T s)
theorem TMap.kept {W W' : World} {b n : Nat} {T : List UInt8 → Int × Int} {row : Option Nat} (h : TMap W b n T) (hg : W.grownBy W' row) (hne : some b ≠ row) : TMap W' b n T := by
  obtain ⟨D, h1, h2⟩ := h
  exact ⟨D, h1.kept hg hne, h2⟩
theorem TMap.lt {W : World} {b n : Nat} {T : List UInt8 → Int × Int} (h : TMap W b n T) : b < W.heap.size := by
  obtain ⟨D, h1, _⟩ := h
  exact h1.lt
theorem TMap.block {W W' : World} {b n : Nat} {T : List UInt8 → Int × Int} (h : TMap W b n T) (hb : W'.heap[b]? = W.heap[b]?) : TMap W' b n T := by
  obtain ⟨D, ⟨es, clock, h1, h2⟩, h3⟩ := h
  exact ⟨D, ⟨es, clock, hb.trans h1, h2⟩, h3⟩
theorem TMap.keep {W W' : World} {b n : Nat} {T : List UInt8 → Int × Int} (h : TMap W b n T) (hb : Below W.heap.size W W') : TMap W' b n T := h.block (hb.block b h.lt)
theorem TMap.new (W : World) : TMap (W.alloc (.map #[] 0)) W.heap.size 0 (fun _ => (0, 0)) := ⟨.map [], World.ownsMap_made W _ _ _, fun _ => rfl⟩
theorem zero61 (w : World) : (zeroValue 137).run Tryd.prog w = .ok (tlV (0, 0)) w := by kernel_rfl
theorem key9 {s : ByteArray} (hs : s.size ≤ 140737488355328) : keyOf Tryd.prog 9 (.string s) = some (.string s.data.toList) := WideMaps.keyOf_string_mk Tryd.underlying9 (by unfold maxLen; omega)
theorem TMap.look {W : World} {b n : Nat} {T : List UInt8 → Int × Int} (h : TMap W b n T) {s : ByteArray} (hs : s.size ≤ 140737488355328) :
    (Instr.lookup 131 (.map (some b)) (.string s) false).run Tryd.prog W = .ok (tlV (T s.data.toList)) W := by
  obtain ⟨D, h1, h2⟩ := h
  obtain ⟨v, ps, hrun, hv⟩ := h1.lookup (Maps.string_keyed Tryd.underlying9) Tryd.underlying131 (zero61 W) (tlR_mk (0, 0)) (key9 hs)
  rw [h2] at hv
  rw [hrun, tlR_inv hv]
theorem TMap.update {W : World} {b n : Nat} {T : List UInt8 → Int × Int} (h : TMap W b n T) (hn : n < maxLen) {s : ByteArray} (hs : s.size ≤ 140737488355328) (t : Int × Int) :
    ∃ W', (Instr.mapUpdate 131 (.map (some b)) (.string s) (tlV t)).run Tryd.prog W = .ok () W' ∧ TMap W' b (n + 1) (fun u => if u = s.data.toList then t else T u) ∧ W.grownBy W' (some b) := by
  obtain ⟨D, h1, h2⟩ := h
  obtain ⟨W', hrun, r1, r2⟩ := h1.update (Maps.string_keyed Tryd.underlying9) Tryd.underlying131 hn (key9 hs) (tlR_mk t)
  refine ⟨W', hrun, ⟨_, r1, fun u => ?_⟩, r2⟩
  dsimp only
  by_cases e : u = s.data.toList
  · rw [if_pos e, e, Maps.atKey_put_same h1.isMap (by trivial)]
  · rw [if_neg e, Maps.atKey_put_other (by intro h; injection h with h; exact e h)]
    exact h2 u
end Go.Proofs.YtdenddknbmiboaaDoor.Lex
namespace Go.Proofs.YtdenddknbmiboaaDoor.Lex
open Go.ChangeShapes Go.WideShapes Go.ChangeAt Go.RowKit Go.Shelf
attribute [local go_sem] Oper.semAt_some
/-- A look-up, by its run. -/
theorem wpListIn_look {F : Fence} {nF : Nat} {P : Program} {w : World} {ops : Array Oper} {rest : List Oper} {o : Oper} {a : Act} {Q : Exit → Act → World → Prop} (hg : o.guard = none) (m x : Operand) (t : TypeId) (hop : o.op = Op.lookup t m x false) (v : Value)
    (hrun : (Instr.lookup t (a.eval m) (a.eval x) false).run P w = .ok v w) (hK : wpListIn F nF P ops Q rest (a.put o.dst v) w) : wpListIn F nF P ops Q (o :: rest) a w := by
  refine wpListIn_plain hg fun K' hK' => ?_
  unfold Oper.wpIn
  refine ⟨by simp [Oper.about, hop], ?_⟩
  rw [Oper.semAt_plain F _ _ (by rw [hop]; intro c hc'; cases hc')]
  simp [execOp, hop, hrun, Result.andThen]
  exact hK' _ _ hK
/-- A store into a map, by its run. -/
theorem wpListIn_mapPut {F : Fence} {nF : Nat} {P : Program} {w w' : World} {ops : Array Oper} {rest : List Oper} {o : Oper} {a : Act} {Q : Exit → Act → World → Prop} (hg : o.guard = none) (m x v : Operand) (t : TypeId) (hop : o.op = Op.mapUpdate t m x v)
    (hrun : (Instr.mapUpdate t (a.eval m) (a.eval x) (a.eval v)).run P w = .ok () w') (hK : wpListIn F nF P ops Q rest (a.put o.dst undef) w') : wpListIn F nF P ops Q (o :: rest) a w := by
  refine wpListIn_plain hg fun K' hK' => ?_
  unfold Oper.wpIn
  refine ⟨by simp [Oper.about, hop], ?_⟩
  rw [Oper.semAt_plain F _ _ (by rw [hop]; intro c hc'; cases hc')]
  simp [execOp, hop, hrun, Result.andThen]
  exact hK' _ _ hK
/-- How many of them have the name. -/
def cntT (l : List (Int × Hd)) (u : List UInt8) : Nat := (l.filter fun x => decide (u = x.2.name.data.toList)).length
def cntO (l : List ByteArray) (u : List UInt8) : Nat := (l.filter fun x => decide (u = x.data.toList)).length
/-- The tallies. -/
def tly (l : List (Int × Hd)) (o : List ByteArray) (u : List UInt8) : Int × Int := ((cntT l u : Int), (cntO o u : Int))
theorem cntT_le (l : List (Int × Hd)) (u : List UInt8) : cntT l u ≤ l.length := List.length_filter_le _ _
theorem cntO_le (l : List ByteArray) (u : List UInt8) : cntO l u ≤ l.length := List.length_filter_le _ _
theorem tly_snoc (l : List (Int × Hd)) (x : Int × Hd) (o : List ByteArray) : (fun u => if u = x.2.name.data.toList then ((cntT l x.2.name.data.toList : Int) + 1, (cntO o x.2.name.data.toList : Int)) else tly l o u) = tly (l ++ [x]) o := by
  funext u
  unfold tly cntT
  by_cases e : u = x.2.name.data.toList
  · subst e
    simp
  · simp [e]
theorem tly_out (l : List (Int × Hd)) (y : ByteArray) (o : List ByteArray) : (fun u => if u = y.data.toList then ((cntT l y.data.toList : Int), (cntO o y.data.toList : Int) + 1) else tly l o u) = tly l (o ++ [y]) := by
  funext u
  unfold tly cntO
  by_cases e : u = y.data.toList
  · subst e
    simp
  · simp [e]
theorem cells_turn {X Y : World} {row : Option Nat} {B : Nat} {c : Array Value} {t : TypeId} {f : Nat × Nat} (hg : X.grownBy Y row) (hr : ∀ r, row = some r → ∃ o : Obj, X.heap[r]? = some o ∧ o.isCells = false) (h : X.heap[B]? = some (.cells c t f)) : Y.heap[B]? = some (.cells c t f) := by
  refine (hg.block B (Array.getElem?_eq_some_iff.1 h).1 ?_).trans h
  intro e
  obtain ⟨o, ho, hc⟩ := hr B e.symm
  rw [h] at ho
  cases ho
  cases hc
/-- Between two rounds of counted. -/
structure CI (w W0 : World) (pre : List Tg) (W : World) : Prop where
  map : TMap W (w.heap.size + 1) pre.length (tly (pre.map (·.1)) [])
  var : W.heap[w.heap.size + 1 + 1]? = some (.cells #[.map (some (w.heap.size + 1))] 131 (0, 0))
  prog : W.heap[w.heap.size]? = W0.heap[w.heap.size]?
  below : Below w.heap.size w W
  size : W0.heap.size ≤ W.heap.size
theorem CI.own {w W0 : World} (hsz : w.heap.size + 4 ≤ W0.heap.size) (hp : ∃ c t f, W0.heap[w.heap.size]? = some (.cells c t f)) : OwnFrom W0.heap.size (CI w W0) := fun pre X Y row hs hg hr =>
  ⟨hs.map.kept hg (fun e => by have := (hr _ e.symm).1; omega), cells_turn hg (fun r e => (hr r e).2) hs.var, by
    obtain ⟨c, t, f, e⟩ := hp
    rw [cells_turn hg (fun r e => (hr r e).2) (hs.prog.trans e), e], (ownFrom_below (w₀ := w) (Nat.le_refl _) (by omega) : OwnFrom W0.heap.size (fun (_ : Unit) W => Below w.heap.size w W)) () X Y row hs.below hg hr, Nat.le_trans hs.size hg.size⟩
theorem CI.alloc {w W0 W : World} {pre : List Tg} (h : CI w W0 pre W) (o : Obj) : CI w W0 pre (W.alloc o) :=
  ⟨h.map.kept (World.grownBy_alloc W o none) (by simp), by rw [Below.heap_alloc _ _ _ (Array.getElem?_eq_some_iff.1 h.var).1]; exact h.var, by rw [Below.heap_alloc _ _ _ (by have := (Array.getElem?_eq_some_iff.1 h.var).1; omega)]; exact h.prog, h.below.alloc h.below.size _, by simp; have := h.size; omega⟩
set_option maxRecDepth 100000 in
set_option maxHeartbeats 2000000 in
theorem counted_in (F : Fence) (n : Nat) (h23 : F.fn 62) (h24 : F.fn 63) (h45 : F.fn 84) (hro : F.round = none) (hn : 6 ≤ n) (p : Pg) (w : World) (a b c : Value) (hP : PgAt w p a b c) :
    CallsIn F n Tryd.prog 62 #[pgV p a b c] w fun e W' => e = .returned (.map (some (w.heap.size + 1))) ∧ TMap W' (w.heap.size + 1) (p.ins.length + p.flows.length + p.outs.length) (tly (thingsL p) p.outs) ∧ Below w.heap.size w W' := by
  have h1 : 1 ≤ n := by omega
  obtain ⟨a0, a1, rfl, hl1, _, ho1, _⟩ := hP.ins
  obtain ⟨b0, b1, _, rfl, hl2, _, ho2, _⟩ := hP.flows
  obtain ⟨c0, c1, rfl, hl3, _, ho3, hc3⟩ := hP.outs
  have HP := hid hP
  have HC3 := hid hc3
  have HO3 := hid ho3
  have HTL : Hid ((thingsL p).length = p.ins.length + p.flows.length) := hid (by simp [thingsL, insL_len, flowsL_len])
  clear hP hc3 ho1 ho2 ho3
  have hmm := @run_makeMap Tryd.prog
  refine callsIn_of_wp_marks Tryd.func62 rfl h23 ?_ hro
  simp only [Tryd.ntmps62, List.size_toArray, List.length_cons, List.length_nil, Nat.reduceAdd, Nat.reduceSub, Array.replicate_succ, Array.replicate_zero, List.push_toArray, List.append_toArray, List.nil_append, List.cons_append]
  gi_wp2_with (gi_at_call 63; refine (things F (n - 1) h24 hro p _ _ _ _).mono ?_; rintro e w' ⟨rfl, rfl⟩)
  have hB0 : Below w.heap.size w ((((w.alloc (.cells (pgC p (.slice a0 p.ins.length a1) (.slice b0 p.flows.length b1) (.slice c0 p.outs.length c1)) 46)).alloc (.map #[] 0)).alloc (.cells #[.map (some (w.heap.size + 1))] 131)).alloc (.cells (pgC p (.slice a0 p.ins.length a1) (.slice b0 p.flows.length b1) (.slice c0 p.outs.length c1)) 46)) := (((((Below.refl w.heap.size w).alloc (by simp; try omega) (.cells (pgC p (.slice a0 p.ins.length a1) (.slice b0 p.flows.length b1) (.slice c0 p.outs.length c1)) 46)).alloc (by simp; try omega) (.map #[] 0)).alloc (by simp; try omega) (.cells #[.map (some (w.heap.size + 1))] 131)).alloc (by simp; try omega) (.cells (pgC p (.slice a0 p.ins.length a1) (.slice b0 p.flows.length b1) (.slice c0 p.outs.length c1)) 46))
  have hsz : ((((w.alloc (.cells (pgC p (.slice a0 p.ins.length a1) (.slice b0 p.flows.length b1) (.slice c0 p.outs.length c1)) 46)).alloc (.map #[] 0)).alloc (.cells #[.map (some (w.heap.size + 1))] 131)).alloc (.cells (pgC p (.slice a0 p.ins.length a1) (.slice b0 p.flows.length b1) (.slice c0 p.outs.length c1)) 46)).heap.size = w.heap.size + 4 := by simp
  have m0 : TMap ((((w.alloc (.cells (pgC p (.slice a0 p.ins.length a1) (.slice b0 p.flows.length b1) (.slice c0 p.outs.length c1)) 46)).alloc (.map #[] 0)).alloc (.cells #[.map (some (w.heap.size + 1))] 131)).alloc (.cells (pgC p (.slice a0 p.ins.length a1) (.slice b0 p.flows.length b1) (.slice c0 p.outs.length c1)) 46)) (w.heap.size + 1) 0 (fun _ => (0, 0)) := by
    have m1 := TMap.new (w.alloc (.cells (pgC p (.slice a0 p.ins.length a1) (.slice b0 p.flows.length b1) (.slice c0 p.outs.length c1)) 46))
    rw [World.size_alloc] at m1
    exact (m1.kept (World.grownBy_alloc _ (.cells #[.map (some (w.heap.size + 1))] 131) none) (by simp)).kept (World.grownBy_alloc _ (.cells (pgC p (.slice a0 p.ins.length a1) (.slice b0 p.flows.length b1) (.slice c0 p.outs.length c1)) 46) none) (by simp)
  have v0 : ((((w.alloc (.cells (pgC p (.slice a0 p.ins.length a1) (.slice b0 p.flows.length b1) (.slice c0 p.outs.length c1)) 46)).alloc (.map #[] 0)).alloc (.cells #[.map (some (w.heap.size + 1))] 131)).alloc (.cells (pgC p (.slice a0 p.ins.length a1) (.slice b0 p.flows.length b1) (.slice c0 p.outs.length c1)) 46)).heap[w.heap.size + 1 + 1]? = some (.cells #[.map (some (w.heap.size + 1))] 131 (0, 0)) := by
    rw [Below.heap_alloc _ _ _ (by simp)]
    have := heap_alloc_new ((w.alloc (.cells (pgC p (.slice a0 p.ins.length a1) (.slice b0 p.flows.length b1) (.slice c0 p.outs.length c1)) 46)).alloc (.map #[] 0)) (.cells #[.map (some (w.heap.size + 1))] 131)
    simpa using this
  have p0 : ((((w.alloc (.cells (pgC p (.slice a0 p.ins.length a1) (.slice b0 p.flows.length b1) (.slice c0 p.outs.length c1)) 46)).alloc (.map #[] 0)).alloc (.cells #[.map (some (w.heap.size + 1))] 131)).alloc (.cells (pgC p (.slice a0 p.ins.length a1) (.slice b0 p.flows.length b1) (.slice c0 p.outs.length c1)) 46)).heap[w.heap.size]? = some (.cells (pgC p (.slice a0 p.ins.length a1) (.slice b0 p.flows.length b1) (.slice c0 p.outs.length c1)) 46 (0, 0)) := by
    rw [Below.heap_alloc _ _ _ (by simp <;> omega), Below.heap_alloc _ _ _ (by simp <;> omega), Below.heap_alloc _ _ _ (by simp <;> omega)]
    exact heap_alloc_new w _
  have q0 : ((((w.alloc (.cells (pgC p (.slice a0 p.ins.length a1) (.slice b0 p.flows.length b1) (.slice c0 p.outs.length c1)) 46)).alloc (.map #[] 0)).alloc (.cells #[.map (some (w.heap.size + 1))] 131)).alloc (.cells (pgC p (.slice a0 p.ins.length a1) (.slice b0 p.flows.length b1) (.slice c0 p.outs.length c1)) 46)).heap[w.heap.size + 1 + 1 + 1]? = some (.cells (pgC p (.slice a0 p.ins.length a1) (.slice b0 p.flows.length b1) (.slice c0 p.outs.length c1)) 46 (0, 0)) := by
    have := heap_alloc_new (((w.alloc (.cells (pgC p (.slice a0 p.ins.length a1) (.slice b0 p.flows.length b1) (.slice c0 p.outs.length c1)) 46)).alloc (.map #[] 0)).alloc (.cells #[.map (some (w.heap.size + 1))] 131)) (.cells (pgC p (.slice a0 p.ins.length a1) (.slice b0 p.flows.length b1) (.slice c0 p.outs.length c1)) 46)
    simpa using this
  obtain ⟨W0, hW0⟩ : ∃ W0, ((((w.alloc (.cells (pgC p (.slice a0 p.ins.length a1) (.slice b0 p.flows.length b1) (.slice c0 p.outs.length c1)) 46)).alloc (.map #[] 0)).alloc (.cells #[.map (some (w.heap.size + 1))] 131)).alloc (.cells (pgC p (.slice a0 p.ins.length a1) (.slice b0 p.flows.length b1) (.slice c0 p.outs.length c1)) 46)) = W0 := ⟨_, rfl⟩
  rw [hW0] at hB0 hsz m0 v0 p0 q0 ⊢
  clear hW0
  have ci0 : CI w W0 [] W0 := ⟨by have e : tly [] [] = fun _ => (0, 0) := rfl
                                  rw [show (List.map (·.1) ([] : List Tg)) = [] from rfl, e]; exact m0, v0, rfl, hB0, Nat.le_refl _⟩
  refine wpIn_rangeFunc_ownH hro h1 (gf := 84) (lb := #[.pointer (some ⟨w.heap.size + 1 + 1 + 1, 0, none⟩)]) rfl h45 (enters_of Tryd.func84 (by kernel_rfl) rfl)
    (things_stops2 F (n - 1) h45 hro (by omega) (w.heap.size + 1 + 1 + 1) p _ _ _ w W0 HP.out hB0 q0) KpT.trans (fun W l o o' hl ho hc hw => ⟨belowK_b (w := W0) (by omega) W l o o' hl ho hc hw, (grownBy_putObj' W l o').block _ (by have := (Array.getElem?_eq_some_iff.1 ho).1; omega) (by intro e; injection e with e; omega)⟩) (Below.refl _ _) (fun _ => rfl)
    (CI w W0) (fun _ _ _ => False) (CI.own (by omega) ⟨_, _, _, p0⟩) (fun _ _ _ _ _ hs _ _ => hs) ci0
    (fun x a' W => ∃ Bx, W0.heap.size ≤ Bx ∧ W.heap[Bx]? = some (.cells #[.string x.1.2.name, .int .u8 (x.1.2.ty : Int), .int .i64 x.1.2.st] 73 (0, 0)) ∧ a' = { tmps := #[pgV p (.slice a0 p.ins.length a1) (.slice b0 p.flows.length b1) (.slice c0 p.outs.length c1), .pointer (some ⟨w.heap.size, 0, none⟩), .map none, .pointer (some ⟨w.heap.size + 1 + 1, 0, none⟩), undef, .pointer (some ⟨Bx, 0, none⟩), undef, undef, undef, undef, .map (some (w.heap.size + 1)), pgV p (.slice a0 p.ins.length a1) (.slice b0 p.flows.length b1) (.slice c0 p.outs.length c1), .func (.func 84) #[] #[.pointer (some ⟨w.heap.size + 1 + 1 + 1, 0, none⟩)], .int .i64 x.1.1, hdV x.1.2, undef, undef, undef, undef, undef, undef, undef, undef, undef, undef, undef, undef, undef, undef, undef, undef, undef, undef, undef, undef, undef, undef, undef, undef, undef, undef, undef, undef, undef, undef, undef], defers := [] })
    (fun x a' _ X Y row hs hg hr => by obtain ⟨Bx, e1, e2, e3⟩ := hs; exact ⟨Bx, e1, cells_turn hg (fun r e => (hr r e).2) e2, e3⟩)
    ?assign ?body ?done ?stop
  case assign =>
    rintro l pre x W K ci hK
    gi_wp2
    exact hK _ _ ((KeepsOthers.alloc _ _).from _) ⟨(Below.refl _ W).alloc (by have := ci.size; omega) _, Below.heap_alloc _ _ _ (by have := ci.size; omega)⟩ (ci.alloc _) ⟨W.heap.size, ci.size, World.alloc_heap_new W _, rfl⟩
  case body =>
    rintro l pre x a' W hl _ ci ⟨Bx, hBx, hRow, rfl⟩ hlt
    have cV : W.cell? ⟨w.heap.size + 1 + 1, 0, none⟩ = some (.map (some (w.heap.size + 1))) := by rw [cell_of_row _ _ _ _ 131 (0, 0) ci.var]; rfl
    have cN : W.cell? ⟨Bx, 0, none⟩ = some (.string x.1.2.name) := by rw [cell_of_row _ _ _ _ 73 (0, 0) hRow]; rfl
    have hlk := ci.map.look x.2
    have hle := cntT_le (pre.map (·.1)) x.1.2.name.data.toList
    rw [List.length_map] at hle
    have hct : ((cntT (pre.map (·.1)) x.1.2.name.data.toList : Nat) : Int) < 13194139533312 := by have := HTL.out; omega
    have htl : tly (pre.map (·.1)) [] x.1.2.name.data.toList = ((cntT (pre.map (·.1)) x.1.2.name.data.toList : Int), 0) := rfl
    rw [htl] at hlk
    have ci1 := ci.alloc (.cells #[.int .i64 ((cntT (pre.map (·.1)) x.1.2.name.data.toList : Int) + 1), .int .i64 0] 137)
    obtain ⟨W2, hrun, hm2, hg2⟩ := ci1.map.update (by have := HTL.out; unfold maxLen; omega) x.2 ((cntT (pre.map (·.1)) x.1.2.name.data.toList : Int) + 1, 0)
    have FIN := hid (And.intro hm2 (And.intro hg2 ci1))
    have htn := hid (tly_snoc (pre.map (·.1)) x.1 [])
    clear hle htl hm2 hg2 ci1
    generalize cntT (pre.map (·.1)) x.1.2.name.data.toList = N at *
    have cV2 : (W.alloc (.cells #[.int .i64 ((N : Int) + 1), .int .i64 0] 137)).cell? ⟨w.heap.size + 1 + 1, 0, none⟩ = some (.map (some (w.heap.size + 1))) := by rw [cell_of_row _ _ _ _ 131 (0, 0) FIN.out.2.2.var]; rfl
    have cN2 : (W.alloc (.cells #[.int .i64 ((N : Int) + 1), .int .i64 0] 137)).cell? ⟨Bx, 0, none⟩ = some (.string x.1.2.name) := by rw [cell_of_row _ _ _ _ 73 (0, 0) ((Below.heap_alloc _ _ _ (Array.getElem?_eq_some_iff.1 hRow).1).trans hRow)]; rfl
    have CI0 := hid ci
    clear ci hRow
    dsimp only [tlV] at hlk hrun
    gi_wp2_with (first
      | (gi_at_lookup; refine wpListIn_look rfl (.tmp 15) (.tmp 17) 131 rfl _ hlk ?_)
      | (gi_at_mapUpdate; refine wpListIn_mapPut rfl (.tmp 23) (.tmp 25) (.tmp 26) 131 rfl hrun ?_))
    obtain ⟨hm2, hg2, ci1⟩ := FIN.out
    have hs0 := CI0.out.size
    have e : (fun u => if u = x.1.2.name.data.toList then ((N : Int) + 1, 0) else tly (pre.map (·.1)) [] u) = tly (pre.map (·.1) ++ [x.1]) [] := htn.out
    rw [e] at hm2
    refine ⟨((KeepsOthers.alloc _ _).from _).trans (KeepsFrom.of_grownBy hg2 (by rintro j e; injection e with e; omega)), ⟨((Below.refl _ W).alloc (by omega) _).grown hg2 (by simp; omega) (by rintro j e; injection e with e; omega),
      (hg2.block _ (by simp; omega) (by intro e; injection e with e; omega)).trans (Below.heap_alloc _ _ _ (by omega))⟩, ?_⟩
    exact ⟨by rw [List.length_append, List.map_append]; exact hm2, (hg2.block _ (by simp; omega) (by intro e; injection e with e; omega)).trans ci1.var, (hg2.block _ (by simp; omega) (by intro e; injection e with e; omega)).trans ci1.prog,
      ci1.below.grown hg2 ci1.below.size (by rintro j e; injection e with e; omega), Nat.le_trans ci1.size hg2.size⟩
  case done =>
    rintro D ys W hD hys ci hK
    have cP : W.cell? ⟨w.heap.size, 3, none⟩ = some (.slice c0 p.outs.length c1) := by rw [cell_of_row _ _ _ _ 46 (0, 0) (ci.prog.trans p0)]; rfl
    have hyl : ys.length = p.ins.length + p.flows.length := by rw [← HTL.out, ← hys, List.length_map]
    have hM := ci.map
    rw [hys, hyl] at hM
    have HM := hid hM
    have HV := hid ci.var
    have HB := hid ci.below
    have HK := hid hK
    have HYL := hid hyl
    clear hM ci hK hys hyl m0 v0 p0 q0 ci0 hB0
    have hD' : w.heap.size + 4 ≤ D := by omega
    gi_wp2
    gi_loopw [30] (fun i wr => ∃ k : Nat, k ≤ p.outs.length ∧ i = .int .i64 (k : Int) ∧ Hid (TMap wr (w.heap.size + 1) (p.ins.length + p.flows.length + k) (tly (thingsL p) (p.outs.take k))) ∧ Hid (wr.heap[w.heap.size + 1 + 1]? = some (.cells #[.map (some (w.heap.size + 1))] 131 (0, 0))) ∧ Hid (Below w.heap.size w wr) ∧ Hid (wr.heap[D]? = some (.deferred (some [])))) (fun i wr => p.outs.length - (intOf i).toNat)
    case atStart => exact ⟨0, Nat.zero_le _, rfl, HM, HV, HB, HK⟩
    case round =>
      obtain ⟨k, hk, rfl, hM, hV, hB, hD2⟩ := hrel
      by_cases hlt : k < p.outs.length
      · have hlt' : (k : Int) < (p.outs.length : Int) := by omega
        have hk0 : (0 : Int) ≤ (k : Int) := by omega
        obtain ⟨bb, o, rfl, hcc⟩ := HC3.out.resolve_left (by omega)
        have v0 := cell_kept (hcc k hlt) hB.out
        have hy := HO3.out p.outs[k] (List.getElem_mem hlt)
        have HT := hid (tly_out (thingsL p) p.outs[k] (p.outs.take k))
        have hle := cntO_le (p.outs.take k) p.outs[k].data.toList
        rw [List.length_take] at hle
        have hlk := hM.out.look hy
        have htl : tly (thingsL p) (p.outs.take k) p.outs[k].data.toList = ((cntT (thingsL p) p.outs[k].data.toList : Int), (cntO (p.outs.take k) p.outs[k].data.toList : Int)) := rfl
        rw [htl] at hlk
        have hct : ((cntO (p.outs.take k) p.outs[k].data.toList : Nat) : Int) < 13194139533312 := by omega
        have HTK : Hid (p.outs.take (k + 1) = p.outs.take k ++ [p.outs[k]]) := hid (by rw [List.take_succ_eq_append_getElem hlt])
        clear hcc hle htl
        generalize p.outs[k] = y at *
        generalize cntO (p.outs.take k) y.data.toList = N at *
        generalize cntT (thingsL p) y.data.toList = M at *
        have hV1 := (Below.heap_alloc wr (.cells #[.int .i64 (M : Int), .int .i64 ((N : Int) + 1)] 137) _ (Array.getElem?_eq_some_iff.1 hV.out).1).trans hV.out
        have cV : wr.cell? ⟨w.heap.size + 1 + 1, 0, none⟩ = some (.map (some (w.heap.size + 1))) := by rw [cell_of_row _ _ _ _ 131 (0, 0) hV.out]; rfl
        have cV2 : (wr.alloc (.cells #[.int .i64 (M : Int), .int .i64 ((N : Int) + 1)] 137)).cell? ⟨w.heap.size + 1 + 1, 0, none⟩ = some (.map (some (w.heap.size + 1))) := by rw [cell_of_row _ _ _ _ 131 (0, 0) hV1]; rfl
        have HV1 := hid hV1
        clear hV1
        obtain ⟨W2, hrun, hm2, hg2⟩ := (hM.out.kept (World.grownBy_alloc wr (.cells #[.int .i64 (M : Int), .int .i64 ((N : Int) + 1)] 137) none) (by simp)).update (by unfold maxLen; omega) hy ((M : Int), (N : Int) + 1)
        have FIN := hid (And.intro hm2 hg2)
        clear hm2 hg2 hy
        dsimp only [tlV] at hlk hrun
        gi_wp2_with (first
          | (gi_at_lookup; refine wpListIn_look rfl (.tmp 34) (.tmp 35) 131 rfl _ hlk ?_)
          | (gi_at_mapUpdate; refine wpListIn_mapPut rfl (.tmp 41) (.tmp 42) (.tmp 43) 131 rfl hrun ?_))
        go_roundw
        case rel =>
          obtain ⟨hm2, hg2⟩ := FIN.out
          rw [HT.out] at hm2
          have hDl := (Array.getElem?_eq_some_iff.1 hD2.out).1
          exact ⟨k + 1, by omega, by go_num, hid (by rw [HTK.out]; exact hm2), hid ((hg2.block _ (by simp; omega) (by intro e; injection e with e; omega)).trans HV1.out), hid ((hB.out.alloc hB.out.size _).grown hg2 (by have := hB.out.size; simp; omega) (by rintro j e; injection e with e; omega)), hid ((hg2.block _ (by simp; omega) (by intro e; injection e with e; omega)).trans ((Below.heap_alloc _ _ _ hDl).trans hD2.out))⟩
        case measure => simp [intOf]; omega
      · have hlt' : ¬ (k : Int) < (p.outs.length : Int) := by omega
        obtain rfl : k = p.outs.length := by omega
        have cV : wr.cell? ⟨w.heap.size + 1 + 1, 0, none⟩ = some (.map (some (w.heap.size + 1))) := by rw [cell_of_row _ _ _ _ 131 (0, 0) hV.out]; rfl
        rw [List.take_length] at hM
        gi_wp2
        refine ⟨by simp, .inl ⟨_, _, rfl, run_takeDeferred hD2.out, ?_⟩⟩
        refine ⟨.map (some (w.heap.size + 1)), by simp [results, Tryd.f62, go_sem], rfl, hM.out.kept (grownBy_putObj' _ D (.deferred none)) (by intro e; injection e with e; omega), hB.out.trans (belowK_b (w := w) (Nat.le_refl _) _ D _ _ (by omega) hD2.out rfl rfl)⟩
  case stop =>
    rintro D c pre W _ _ h _
    exact h.elim
end Go.Proofs.YtdenddknbmiboaaDoor.Lex
