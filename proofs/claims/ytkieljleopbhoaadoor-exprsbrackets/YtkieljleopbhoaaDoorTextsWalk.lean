/-
  The walk of the law on what is written, whatever it is.
-/
import Derived.Test.YtkieljleopbhoaaDoorRWrAny
import Derived.Test.YtkieljleopbhoaaDoorLeft
namespace Go.Proofs.YtkieljleopbhoaaDoor.Lex
open Go.ChangeShapes Go.WideShapes Go.ChangeAt Go.RowKit Go.Joins
set_option maxRecDepth 100000 in
set_option maxHeartbeats 2000000 in
theorem walk3 (x : Ex) (s : Value) (w : World) (hS : St w x s) (hE : Env w) : Calls Tryd.prog 3 #[exV x s] w fun e w' => e = .returned (.bool true) ∧ Below w.heap.size w w' := by
  obtain ⟨ao, cap, sl, rfl, _⟩ := hS.out
  have b0 := (Below.refl w.heap.size w).alloc (Nat.le_refl _) (.cells #[.int .u8 (x.op : Int), .int .i64 x.n, .string x.name, .slice ao x.args.length cap] 25)
  have S0 := hid (hS.keep b0)
  have E0 := hid (hE.below b0)
  have B0 := hid b0
  have bx := fun j v => box_at w #[.int .u8 (x.op : Int), .int .i64 x.n, .string x.name, .slice ao x.args.length cap] 25 j v
  have x0 := bx 0 _ rfl
  have x1 := bx 1 _ rfl
  have x2 := bx 2 _ rfl
  have x3 := bx 3 _ rfl
  clear hS hE b0 bx
  go_enter Tryd.func3, Tryd.ntmps3
  go_wp2_with (first
    | (go_at_call 7; refine (size_any _ x (Nat.le_refl _) _ _ S0.out).mono ?_; rintro e w1 ⟨⟨m, rfl⟩, hb1⟩; have y0 := cell_kept x0 hb1; have y1 := cell_kept x1 hb1; have y2 := cell_kept x2 hb1; have y3 := cell_kept x3 hb1; have S1 := hid (S0.out.keep hb1); have E1 := hid (E0.out.below hb1); have B1 := hid (bstep B0.out hb1); clear hb1 x0 x1 x2 x3 S0 E0 B0)
    | (go_at_call 8; refine (twin_any _ x (Nat.le_refl _) _ _ S1.out).mono ?_; rintro e w2 ⟨s2, rfl, ht2, hb2⟩; obtain ⟨t2, c2, _, rfl, _⟩ := ht2.st.out; have b2 := bstep hb2 ((Below.refl w2.heap.size w2).alloc (Nat.le_refl _) (.cells #[.int .u8 (x.op : Int), .int .i64 x.n, .string x.name, .slice t2 x.args.length c2] 25)); have T2 := hid (ht2.keep ((Below.refl w2.heap.size w2).alloc (Nat.le_refl _) (.cells #[.int .u8 (x.op : Int), .int .i64 x.n, .string x.name, .slice t2 x.args.length c2] 25))); have S2 := hid (S1.out.keep b2); have E2 := hid (E1.out.below b2); have B2 := hid (bstep B1.out b2); have bx2 := fun j v => box_at w2 #[.int .u8 (x.op : Int), .int .i64 x.n, .string x.name, .slice t2 x.args.length c2] 25 j v; have z0 := cell_kept y0 b2; have z1 := cell_kept y1 b2; have z2 := cell_kept y2 b2; have z3 := cell_kept y3 b2; have u0 := bx2 0 _ rfl; have u1 := bx2 1 _ rfl; have u2 := bx2 2 _ rfl; have u3 := bx2 3 _ rfl; clear ht2 hb2 b2 S1 E1 bx2 y0 y1 y2 y3)
    | (go_at_call 9; refine (text x _ _ T2.out.st E2.out).mono ?_; rintro e w4 ⟨rfl, hb4⟩; have T4 := hid (T2.out.keep hb4); have S4 := hid (S2.out.keep hb4); have E4 := hid (E2.out.below hb4); have B4 := hid (bstep B2.out hb4); have v0 := cell_kept z0 hb4; have v1 := cell_kept z1 hb4; have v2 := cell_kept z2 hb4; have v3 := cell_kept z3 hb4; have p0 := cell_kept u0 hb4; have p1 := cell_kept u1 hb4; have p2 := cell_kept u2 hb4; have p3 := cell_kept u3 hb4; clear hb4 T2 S2 E2 B2 z0 z1 z2 z3 u0 u1 u2 u3)
    | (go_at_call 10; refine (rtext x _ _ S4.out).mono ?_; rintro e w5 ⟨rfl, hb5⟩; have T5 := hid (T4.out.keep hb5); have S5 := hid (S4.out.keep hb5); have E5 := hid (E4.out.below hb5); have B5 := hid (bstep B4.out hb5); have a0 := cell_kept v0 hb5; have a1 := cell_kept v1 hb5; have a2 := cell_kept v2 hb5; have a3 := cell_kept v3 hb5; have q0 := cell_kept p0 hb5; have q1 := cell_kept p1 hb5; have q2 := cell_kept p2 hb5; have q3 := cell_kept p3 hb5; clear hb5 T4 S4 E4 B4 v0 v1 v2 v3 p0 p1 p2 p3))
  all_goals first | (go_ret; exact ⟨rfl, B1.out⟩) | skip
  have X5 : (w5.drew.cell? ⟨w.heap.size, 0, none⟩ = some (.int .u8 (x.op : Int)) ∧ w5.drew.cell? ⟨w.heap.size, 1, none⟩ = some (.int .i64 x.n) ∧ w5.drew.cell? ⟨w.heap.size, 2, none⟩ = some (.string x.name) ∧ w5.drew.cell? ⟨w.heap.size, 3, none⟩ = some (.slice ao x.args.length cap)) ∧ w5.drew.cell? ⟨w2.heap.size, 0, none⟩ = some (.int .u8 (x.op : Int)) ∧ w5.drew.cell? ⟨w2.heap.size, 1, none⟩ = some (.int .i64 x.n) ∧ w5.drew.cell? ⟨w2.heap.size, 2, none⟩ = some (.string x.name) ∧ w5.drew.cell? ⟨w2.heap.size, 3, none⟩ = some (.slice t2 x.args.length c2) := ⟨⟨a0, a1, a2, a3⟩, q0, q1, q2, q3⟩
  clear a0 a1 a2 a3 q0 q1 q2 q3 B1
  generalize (⟨(txt x).toArray⟩ : ByteArray) = X at *
  refine wp_region_held_drew (S := fun W => (W.cell? ⟨w.heap.size, 0, none⟩ = some (.int .u8 (x.op : Int)) ∧ W.cell? ⟨w.heap.size, 1, none⟩ = some (.int .i64 x.n) ∧ W.cell? ⟨w.heap.size, 2, none⟩ = some (.string x.name) ∧ W.cell? ⟨w.heap.size, 3, none⟩ = some (.slice ao x.args.length cap)) ∧ W.cell? ⟨w2.heap.size, 0, none⟩ = some (.int .u8 (x.op : Int)) ∧ W.cell? ⟨w2.heap.size, 1, none⟩ = some (.int .i64 x.n) ∧ W.cell? ⟨w2.heap.size, 2, none⟩ = some (.string x.name) ∧ W.cell? ⟨w2.heap.size, 3, none⟩ = some (.slice t2 x.args.length c2)) (by kernel_rfl) ?_ (fun hHeld => ?_)
  · exact X5
  refine wpAnyH_take (i := 0) (oi := { dst := some 23, op := Go.Op.move (Go.Operand.tmp 4), type := 9, pos := _, after := #[], guard := none }) (v := ?_) rfl (by kernel_rfl) (by kernel_rfl) (by kernel_rfl) (fun _ _ _ h => h) (Or.inl ⟨by rfl, ?_⟩) (by assumption) ?_
  rotate_left
  · intro w hSw; (try dsimp only at hSw); go_simp <;> first | with_reducible rfl | (rw [if_neg (by first | omega | (simp only [ByteArray.size_append] at *; omega))])
  simp only [Act.put, List.setIfInBounds_toArray, List.set_cons_zero, List.set_cons_succ]
  refine wpAnyH_take (i := 1) (oi := { dst := some 24, op := Go.Op.move (Go.Operand.tmp 6), type := 9, pos := _, after := #[], guard := none }) (v := ?_) rfl (by kernel_rfl) (by kernel_rfl) (by kernel_rfl) (fun _ _ _ h => h) (Or.inl ⟨by rfl, ?_⟩) (by assumption) ?_
  rotate_left
  · intro w hSw; (try dsimp only at hSw); go_simp <;> first | with_reducible rfl | (rw [if_neg (by first | omega | (simp only [ByteArray.size_append] at *; omega))])
  simp only [Act.put, List.setIfInBounds_toArray, List.set_cons_zero, List.set_cons_succ]
  refine wpAnyH_take (i := 2) (oi := { dst := some 25, op := Go.Op.binOp Go.BinOp.eql 9 (Go.Operand.tmp 23) (Go.Operand.tmp 24) 9, type := 4, pos := _, after := #[{ on := 0, ground := Go.Ground.data }, { on := 1, ground := Go.Ground.data }], guard := none }) (v := ?_) rfl (by kernel_rfl) (by kernel_rfl) (by kernel_rfl) (fun _ _ _ h => h) (Or.inl ⟨by rfl, ?_⟩) (by assumption) ?_
  rotate_left
  · intro w hSw; (try dsimp only at hSw); go_simp <;> first | with_reducible rfl | (rw [if_neg (by first | omega | (simp only [ByteArray.size_append] at *; omega))])
  simp only [Act.put, List.setIfInBounds_toArray, List.set_cons_zero, List.set_cons_succ]
  refine wpAnyH_take (i := 3) (oi := { dst := some 26, op := Go.Op.move (Go.Operand.tmp 25), type := 4, pos := _, after := #[{ on := 2, ground := Go.Ground.data }], guard := none }) (v := ?_) rfl (by kernel_rfl) (by kernel_rfl) (by kernel_rfl) (fun _ _ _ h => h) (Or.inl ⟨by rfl, ?_⟩) (by assumption) ?_
  rotate_left
  · intro w hSw; (try dsimp only at hSw); go_simp <;> first | with_reducible rfl | (rw [if_neg (by first | omega | (simp only [ByteArray.size_append] at *; omega))])
  simp only [Act.put, List.setIfInBounds_toArray, List.set_cons_zero, List.set_cons_succ]
  refine wpAnyH_take (i := 4) (oi := { dst := some 27, op := Go.Op.move (Go.Operand.tmp 5), type := 28, pos := _, after := #[{ on := 3, ground := Go.Ground.guard }], guard := some (3, true) }) (v := ?_) rfl (by kernel_rfl) (by kernel_rfl) (by kernel_rfl) (fun _ _ _ h => h) (Or.inl ⟨by rfl, ?_⟩) (by assumption) ?_
  rotate_left
  · intro w hSw; (try dsimp only at hSw); go_simp <;> first | with_reducible rfl | (rw [if_neg (by first | omega | (simp only [ByteArray.size_append] at *; omega))])
  simp only [Act.put, List.setIfInBounds_toArray, List.set_cons_zero, List.set_cons_succ]
  refine wpAnyH_take (i := 5) (oi := { dst := some 28, op := Go.Op.move (Go.Operand.tmp 7), type := 28, pos := _, after := #[{ on := 3, ground := Go.Ground.guard }], guard := some (3, true) }) (v := ?_) rfl (by kernel_rfl) (by kernel_rfl) (by kernel_rfl) (fun _ _ _ h => h) (Or.inl ⟨by rfl, ?_⟩) (by assumption) ?_
  rotate_left
  · intro w hSw; (try dsimp only at hSw); go_simp <;> first | with_reducible rfl | (rw [if_neg (by first | omega | (simp only [ByteArray.size_append] at *; omega))])
  simp only [Act.put, List.setIfInBounds_toArray, List.set_cons_zero, List.set_cons_succ]
  refine wpAnyH_take (i := 6) (oi := { dst := some 29, op := Go.Op.binOp Go.BinOp.eql 28 (Go.Operand.tmp 27) (Go.Operand.tmp 28) 28, type := 4, pos := _, after := #[{ on := 4, ground := Go.Ground.data }, { on := 5, ground := Go.Ground.data }, { on := 3, ground := Go.Ground.guard }], guard := some (3, true) }) (v := ?_) rfl (by kernel_rfl) (by kernel_rfl) (by kernel_rfl) (fun _ _ _ h => h) (Or.inl ⟨by rfl, ?_⟩) (by assumption) ?_
  rotate_left
  · intro w hSw; (try dsimp only at hSw); go_simp <;> first | with_reducible rfl | (rw [if_neg (by first | omega | (simp only [ByteArray.size_append] at *; omega))])
  simp only [Act.put, List.setIfInBounds_toArray, List.set_cons_zero, List.set_cons_succ]
  refine wpAnyH_take (i := 7) (oi := { dst := some 30, op := Go.Op.pick (Go.Operand.tmp 26) (Go.Operand.tmp 29) (Go.Operand.const (Go.Value.bool false)), type := 4, pos := _, after := #[{ on := 3, ground := Go.Ground.data }, { on := 6, ground := Go.Ground.data }], guard := none }) (v := ?_) rfl (by kernel_rfl) (by kernel_rfl) (by kernel_rfl) (fun _ _ _ h => h) (Or.inl ⟨by rfl, ?_⟩) (by assumption) ?_
  rotate_left
  · intro w hSw; (try dsimp only at hSw); go_simp <;> first | with_reducible rfl | (rw [if_neg (by first | omega | (simp only [ByteArray.size_append] at *; omega))])
  simp only [Act.put, List.setIfInBounds_toArray, List.set_cons_zero, List.set_cons_succ]
  refine wpAnyH_take (i := 8) (oi := { dst := some 31, op := Go.Op.move (Go.Operand.tmp 30), type := 4, pos := _, after := #[{ on := 7, ground := Go.Ground.data }, { on := 3, ground := Go.Ground.chain }], guard := none }) (v := ?_) rfl (by kernel_rfl) (by kernel_rfl) (by kernel_rfl) (fun _ _ _ h => h) (Or.inl ⟨by rfl, ?_⟩) (by assumption) ?_
  rotate_left
  · intro w hSw; (try dsimp only at hSw); go_simp <;> first | with_reducible rfl | (rw [if_neg (by first | omega | (simp only [ByteArray.size_append] at *; omega))])
  simp only [Act.put, List.setIfInBounds_toArray, List.set_cons_zero, List.set_cons_succ]
  refine wpAnyH_take (i := 9) (oi := { dst := some 32, op := Go.Op.load 25 (Go.Operand.tmp 3), type := 25, pos := _, after := #[{ on := 8, ground := Go.Ground.guard }], guard := some (8, true) }) (v := ?_) rfl (by kernel_rfl) (by kernel_rfl) (by kernel_rfl) (fun _ _ _ h => h) (Or.inl ⟨by rfl, ?_⟩) (by assumption) ?_
  rotate_left
  · intro w hSw; (try dsimp only at hSw); go_simp <;> first | with_reducible rfl | (rw [if_neg (by first | omega | (simp only [ByteArray.size_append] at *; omega))])
  simp only [Act.put, List.setIfInBounds_toArray, List.set_cons_zero, List.set_cons_succ]
  refine wpAnyH_take (i := 11) (oi := { dst := some 34, op := Go.Op.load 25 (Go.Operand.tmp 1), type := 25, pos := _, after := #[{ on := 8, ground := Go.Ground.guard }], guard := some (8, true) }) (v := ?_) rfl (by kernel_rfl) (by kernel_rfl) (by kernel_rfl) (fun _ _ _ h => h) (Or.inl ⟨by rfl, ?_⟩) (by assumption) ?_
  rotate_left
  · intro w hSw; (try dsimp only at hSw); go_simp <;> first | with_reducible rfl | (rw [if_neg (by first | omega | (simp only [ByteArray.size_append] at *; omega))])
  simp only [Act.put, List.setIfInBounds_toArray, List.set_cons_zero, List.set_cons_succ]
  refine wpAnyH_ready (rs := [10]) (by kernel_rfl) (by simp) ?_
  refine AllReadyH.cons (o := { dst := some 33, op := Go.Op.call { callee := Go.Callee.value (Go.Operand.func 11), args := #[Go.Operand.tmp 32], argTypes := #[25] }, type := 4, pos := _, after := #[{ on := 9, ground := Go.Ground.data }, { on := 8, ground := Go.Ground.chain }, { on := 8, ground := Go.Ground.guard }], guard := some (8, true) }) rfl (fun K hK => ?_) AllReadyH.nil
  go_simp
  refine (check x _ _ (T5.out.keep (Below.refl _ _).drew).st (E5.out.below (Below.refl _ _).drew).res (E5.out.below (Below.refl _ _).drew).joins).mono ?_
  rintro e w6 ⟨rfl, hw6⟩
  have T6 := hid ((T5.out.keep (Below.refl _ _).drew).keep hw6)
  have S6 := hid ((S5.out.keep (Below.refl _ _).drew).keep hw6)
  have B6 := hid (bstep B5.out.drew hw6)
  have X6 : (w6.cell? ⟨w.heap.size, 0, none⟩ = some (.int .u8 (x.op : Int)) ∧ w6.cell? ⟨w.heap.size, 1, none⟩ = some (.int .i64 x.n) ∧ w6.cell? ⟨w.heap.size, 2, none⟩ = some (.string x.name) ∧ w6.cell? ⟨w.heap.size, 3, none⟩ = some (.slice ao x.args.length cap)) ∧ w6.cell? ⟨w2.heap.size, 0, none⟩ = some (.int .u8 (x.op : Int)) ∧ w6.cell? ⟨w2.heap.size, 1, none⟩ = some (.int .i64 x.n) ∧ w6.cell? ⟨w2.heap.size, 2, none⟩ = some (.string x.name) ∧ w6.cell? ⟨w2.heap.size, 3, none⟩ = some (.slice t2 x.args.length c2) := ⟨⟨cell_kept (X5).1.1 hw6, cell_kept (X5).1.2.1 hw6, cell_kept (X5).1.2.2.1 hw6, cell_kept (X5).1.2.2.2 hw6⟩, ⟨cell_kept (X5).2.1 hw6, cell_kept (X5).2.2.1 hw6, cell_kept (X5).2.2.2.1 hw6, cell_kept (X5).2.2.2.2 hw6⟩⟩
  go_wp2_with fail
  refine hK.out _ _ ?_ (fun hHeld1 => ?_)
  · exact X6
  clear hK K
  refine wpAnyH_ready (rs := [12]) (by kernel_rfl) (by simp) ?_
  refine AllReadyH.cons (o := { dst := some 35, op := Go.Op.call { callee := Go.Callee.value (Go.Operand.func 12), args := #[Go.Operand.tmp 34], argTypes := #[25] }, type := 4, pos := _, after := #[{ on := 11, ground := Go.Ground.data }, { on := 10, ground := Go.Ground.chain }, { on := 8, ground := Go.Ground.guard }], guard := some (8, true) }) rfl (fun K hK => ?_) AllReadyH.nil
  go_simp
  refine (rcheck x _ _ S6.out).mono ?_
  rintro e w7 ⟨rfl, hw7⟩
  have T7 := hid (T6.out.keep hw7)
  have S7 := hid (S6.out.keep hw7)
  have B7 := hid (bstep B6.out hw7)
  have X7 : (w7.cell? ⟨w.heap.size, 0, none⟩ = some (.int .u8 (x.op : Int)) ∧ w7.cell? ⟨w.heap.size, 1, none⟩ = some (.int .i64 x.n) ∧ w7.cell? ⟨w.heap.size, 2, none⟩ = some (.string x.name) ∧ w7.cell? ⟨w.heap.size, 3, none⟩ = some (.slice ao x.args.length cap)) ∧ w7.cell? ⟨w2.heap.size, 0, none⟩ = some (.int .u8 (x.op : Int)) ∧ w7.cell? ⟨w2.heap.size, 1, none⟩ = some (.int .i64 x.n) ∧ w7.cell? ⟨w2.heap.size, 2, none⟩ = some (.string x.name) ∧ w7.cell? ⟨w2.heap.size, 3, none⟩ = some (.slice t2 x.args.length c2) := ⟨⟨cell_kept (X6).1.1 hw7, cell_kept (X6).1.2.1 hw7, cell_kept (X6).1.2.2.1 hw7, cell_kept (X6).1.2.2.2 hw7⟩, ⟨cell_kept (X6).2.1 hw7, cell_kept (X6).2.2.1 hw7, cell_kept (X6).2.2.2.1 hw7, cell_kept (X6).2.2.2.2 hw7⟩⟩
  go_wp2_with fail
  refine hK.out _ _ ?_ (fun hHeld2 => ?_)
  · exact X7
  clear hK K
  refine wpAnyH_take (i := 13) (oi := { dst := some 36, op := Go.Op.binOp Go.BinOp.eql 4 (Go.Operand.tmp 33) (Go.Operand.tmp 35) 4, type := 4, pos := _, after := #[{ on := 10, ground := Go.Ground.data }, { on := 12, ground := Go.Ground.data }, { on := 8, ground := Go.Ground.guard }], guard := some (8, true) }) (v := ?_) rfl (by kernel_rfl) (by kernel_rfl) (by kernel_rfl) (fun _ _ _ h => h) (Or.inl ⟨by rfl, ?_⟩) (by assumption) ?_
  rotate_left
  · intro w hSw; (try dsimp only at hSw); go_simp <;> first | with_reducible rfl | (rw [if_neg (by first | omega | (simp only [ByteArray.size_append] at *; omega))])
  simp only [Act.put, List.setIfInBounds_toArray, List.set_cons_zero, List.set_cons_succ]
  refine wpAnyH_take (i := 14) (oi := { dst := some 37, op := Go.Op.pick (Go.Operand.tmp 31) (Go.Operand.tmp 36) (Go.Operand.const (Go.Value.bool false)), type := 4, pos := _, after := #[{ on := 8, ground := Go.Ground.data }, { on := 13, ground := Go.Ground.data }], guard := none }) (v := ?_) rfl (by kernel_rfl) (by kernel_rfl) (by kernel_rfl) (fun _ _ _ h => h) (Or.inl ⟨by rfl, ?_⟩) (by assumption) ?_
  rotate_left
  · intro w hSw; (try dsimp only at hSw); go_simp <;> first | with_reducible rfl | (rw [if_neg (by first | omega | (simp only [ByteArray.size_append] at *; omega))])
  simp only [Act.put, List.setIfInBounds_toArray, List.set_cons_zero, List.set_cons_succ]
  refine wpAnyH_take (i := 15) (oi := { dst := some 38, op := Go.Op.move (Go.Operand.tmp 37), type := 4, pos := _, after := #[{ on := 14, ground := Go.Ground.data }, { on := 12, ground := Go.Ground.chain }], guard := none }) (v := ?_) rfl (by kernel_rfl) (by kernel_rfl) (by kernel_rfl) (fun _ _ _ h => h) (Or.inl ⟨by rfl, ?_⟩) (by assumption) ?_
  rotate_left
  · intro w hSw; (try dsimp only at hSw); go_simp <;> first | with_reducible rfl | (rw [if_neg (by first | omega | (simp only [ByteArray.size_append] at *; omega))])
  simp only [Act.put, List.setIfInBounds_toArray, List.set_cons_zero, List.set_cons_succ]
  refine wpAnyH_take (i := 16) (oi := { dst := some 39, op := Go.Op.load 25 (Go.Operand.tmp 3), type := 25, pos := _, after := #[{ on := 15, ground := Go.Ground.guard }], guard := some (15, true) }) (v := ?_) rfl (by kernel_rfl) (by kernel_rfl) (by kernel_rfl) (fun _ _ _ h => h) (Or.inl ⟨by rfl, ?_⟩) (by assumption) ?_
  rotate_left
  · intro w hSw; (try dsimp only at hSw); go_simp <;> first | with_reducible rfl | (rw [if_neg (by first | omega | (simp only [ByteArray.size_append] at *; omega))])
  simp only [Act.put, List.setIfInBounds_toArray, List.set_cons_zero, List.set_cons_succ]
  refine wpAnyH_take (i := 17) (oi := { dst := some 40, op := Go.Op.load 25 (Go.Operand.tmp 1), type := 25, pos := _, after := #[{ on := 15, ground := Go.Ground.guard }], guard := some (15, true) }) (v := ?_) rfl (by kernel_rfl) (by kernel_rfl) (by kernel_rfl) (fun _ _ _ h => h) (Or.inl ⟨by rfl, ?_⟩) (by assumption) ?_
  rotate_left
  · intro w hSw; (try dsimp only at hSw); go_simp <;> first | with_reducible rfl | (rw [if_neg (by first | omega | (simp only [ByteArray.size_append] at *; omega))])
  simp only [Act.put, List.setIfInBounds_toArray, List.set_cons_zero, List.set_cons_succ]
  refine wpAnyH_ready (rs := [18]) (by kernel_rfl) (by simp) ?_
  refine AllReadyH.cons (o := { dst := some 41, op := Go.Op.call { callee := Go.Callee.value (Go.Operand.func 13), args := #[Go.Operand.tmp 39, Go.Operand.tmp 40], argTypes := #[25, 25] }, type := 4, pos := _, after := #[{ on := 16, ground := Go.Ground.data }, { on := 17, ground := Go.Ground.data }, { on := 15, ground := Go.Ground.chain }, { on := 15, ground := Go.Ground.guard }], guard := some (15, true) }) rfl (fun K hK => ?_) AllReadyH.nil
  go_simp
  refine (left_any _ x (Nat.le_refl _) _ _ _ _ T7.out S7.out).mono ?_
  rintro e w8 ⟨rfl, hw8⟩
  have B8 := hid (bstep B7.out hw8)
  have X8 : (w8.cell? ⟨w.heap.size, 0, none⟩ = some (.int .u8 (x.op : Int)) ∧ w8.cell? ⟨w.heap.size, 1, none⟩ = some (.int .i64 x.n) ∧ w8.cell? ⟨w.heap.size, 2, none⟩ = some (.string x.name) ∧ w8.cell? ⟨w.heap.size, 3, none⟩ = some (.slice ao x.args.length cap)) ∧ w8.cell? ⟨w2.heap.size, 0, none⟩ = some (.int .u8 (x.op : Int)) ∧ w8.cell? ⟨w2.heap.size, 1, none⟩ = some (.int .i64 x.n) ∧ w8.cell? ⟨w2.heap.size, 2, none⟩ = some (.string x.name) ∧ w8.cell? ⟨w2.heap.size, 3, none⟩ = some (.slice t2 x.args.length c2) := ⟨⟨cell_kept (X7).1.1 hw8, cell_kept (X7).1.2.1 hw8, cell_kept (X7).1.2.2.1 hw8, cell_kept (X7).1.2.2.2 hw8⟩, ⟨cell_kept (X7).2.1 hw8, cell_kept (X7).2.2.1 hw8, cell_kept (X7).2.2.2.1 hw8, cell_kept (X7).2.2.2.2 hw8⟩⟩
  go_wp2_with fail
  refine hK.out _ _ ?_ (fun hHeld3 => ?_)
  · exact X8
  clear hK K
  refine wpAnyH_take (i := 19) (oi := { dst := some 42, op := Go.Op.pick (Go.Operand.tmp 38) (Go.Operand.tmp 41) (Go.Operand.const (Go.Value.bool false)), type := 4, pos := _, after := #[{ on := 15, ground := Go.Ground.data }, { on := 18, ground := Go.Ground.data }], guard := none }) (v := ?_) rfl (by kernel_rfl) (by kernel_rfl) (by kernel_rfl) (fun _ _ _ h => h) (Or.inl ⟨by rfl, ?_⟩) (by assumption) ?_
  rotate_left
  · intro w hSw; (try dsimp only at hSw); go_simp <;> first | with_reducible rfl | (rw [if_neg (by first | omega | (simp only [ByteArray.size_append] at *; omega))])
  simp only [Act.put, List.setIfInBounds_toArray, List.set_cons_zero, List.set_cons_succ]
  refine wpAnyH_take (i := 20) (oi := { dst := some 2, op := Go.Op.assign (Go.Operand.tmp 42), type := 4, pos := _, after := #[{ on := 19, ground := Go.Ground.data }, { on := 18, ground := Go.Ground.chain }, { on := 0, ground := Go.Ground.phase }, { on := 1, ground := Go.Ground.phase }, { on := 2, ground := Go.Ground.phase }, { on := 3, ground := Go.Ground.phase }, { on := 4, ground := Go.Ground.phase }, { on := 5, ground := Go.Ground.phase }, { on := 6, ground := Go.Ground.phase }, { on := 7, ground := Go.Ground.phase }, { on := 8, ground := Go.Ground.phase }, { on := 9, ground := Go.Ground.phase }, { on := 10, ground := Go.Ground.phase }, { on := 11, ground := Go.Ground.phase }, { on := 12, ground := Go.Ground.phase }, { on := 13, ground := Go.Ground.phase }, { on := 14, ground := Go.Ground.phase }, { on := 15, ground := Go.Ground.phase }, { on := 16, ground := Go.Ground.phase }, { on := 17, ground := Go.Ground.phase }, { on := 18, ground := Go.Ground.phase }, { on := 19, ground := Go.Ground.phase }], guard := none }) (v := ?_) rfl (by kernel_rfl) (by kernel_rfl) (by kernel_rfl) (fun _ _ _ h => h) (Or.inl ⟨by rfl, ?_⟩) (by assumption) ?_
  rotate_left
  · intro w hSw; (try dsimp only at hSw); go_simp <;> first | with_reducible rfl | (rw [if_neg (by first | omega | (simp only [ByteArray.size_append] at *; omega))])
  simp only [Act.put, List.setIfInBounds_toArray, List.set_cons_zero, List.set_cons_succ]
  refine wpAnyH_done (by kernel_rfl) ?_ _
  go_wp2
  go_ret
  exact ⟨rfl, B8.out⟩
end Go.Proofs.YtkieljleopbhoaaDoor.Lex
