/-
  The walk of the law on what is written, whatever it is.
  What is worked out that came in, opened once.
  What the package-level variables hold when the law on what is written begins.
  The reader of tokens in memory; the contract of peek.
  The operator of two that a token is: the contract of joinAt.
  The reader goes on by a token: the contracts of yes, no, name, number, pass.
  What is worked out, in blocks of which something is known: it stays where others are written.
  What a reader's step answers; the contracts of yes, no, name, number.
  What a reader's step answers: the contracts of no, pass, name, number.
  An operator of one, read: the contract of one, over that of part.
  The three signs of one, and brackets: the contracts over those of one, part, pass.
-/
import Derived.Test.YtkieljleopbhoaaDoorA4
import Derived.Test.YtkieljleopbhoaaDoorA1
import Derived.Test.YtkieljleopbhoaaDoorTie
import Derived.Test.YtkieljleopbhoaaDoorCards
import Derived.ProofKit
import Derived.OpenShut
import Derived.ShutString
import Derived.ChangeOld
import Derived.LaidMore
import Derived.SizedLaws
import Derived.Lib.LaidTab
import Derived.Lib.SmallJoins
import Derived.Stop.LaidErr
import Derived.Test.YtkieljleopbhoaaDoorA2
import Derived.BigQuiet
import Derived.Test.YtkieljleopbhoaaDoorA3
import Derived.WalkSmall
import Derived.WalkMore
import Derived.Great.BuildSlice
namespace Go.Proofs.YtkieljleopbhoaaDoor.Lex
open Go.ChangeShapes Go.WideShapes Go.ChangeAt Go.RowKit Go.Joins
set_option maxRecDepth 100000 in
set_option maxHeartbeats 2000000 in
theorem walk3 (x : Ex) (s : Value) (w : World) (hS : St w x s) (hE : Env w) : Calls Tryd.prog 3 #[exV x s] w fun e w' => e = .returned (.bool true) ∧ Below w.heap.size w w' := by
  obtain ⟨ao, cap, sl, rfl, _⟩ := hS.out
  have b0 := (Below.refl w.heap.size w).alloc (Nat.le_refl _) (.cells #[.int .u8 (x.op : Int), .int .i64 x.n, .string x.name, .slice ao x.args.length cap] 25)
  have S0 := hid (hS.keep b0)
  have E0 := hid (hE.below b0)
  have B0 := hid b0
  have bx := fun j v => box_at w #[.int .u8 (x.op : Int), .int .i64 x.n, .string x.name, .slice ao x.args.length cap] 25 j v
  have x0 := bx 0 _ rfl
  have x1 := bx 1 _ rfl
  have x2 := bx 2 _ rfl
  have x3 := bx 3 _ rfl
  clear hS hE b0 bx
  go_enter Tryd.func3, Tryd.ntmps3
  go_wp2_with (first
    | (go_at_call 7; refine (size_any _ x (Nat.le_refl _) _ _ S0.out).mono ?_; rintro e w1 ⟨⟨m, rfl⟩, hb1⟩; have y0 := cell_kept x0 hb1; have y1 := cell_kept x1 hb1; have y2 := cell_kept x2 hb1; have y3 := cell_kept x3 hb1; have S1 := hid (S0.out.keep hb1); have E1 := hid (E0.out.below hb1); have B1 := hid (bstep B0.out hb1); clear hb1 x0 x1 x2 x3 S0 E0 B0)
    | (go_at_call 8; refine (twin_any _ x (Nat.le_refl _) _ _ S1.out).mono ?_; rintro e w2 ⟨s2, rfl, ht2, hb2⟩; obtain ⟨t2, c2, _, rfl, _⟩ := ht2.st.out; have b2 := bstep hb2 ((Below.refl w2.heap.size w2).alloc (Nat.le_refl _) (.cells #[.int .u8 (x.op : Int), .int .i64 x.n, .string x.name, .slice t2 x.args.length c2] 25)); have T2 := hid (ht2.keep ((Below.refl w2.heap.size w2).alloc (Nat.le_refl _) (.cells #[.int .u8 (x.op : Int), .int .i64 x.n, .string x.name, .slice t2 x.args.length c2] 25))); have S2 := hid (S1.out.keep b2); have E2 := hid (E1.out.below b2); have B2 := hid (bstep B1.out b2); have bx2 := fun j v => box_at w2 #[.int .u8 (x.op : Int), .int .i64 x.n, .string x.name, .slice t2 x.args.length c2] 25 j v; have z0 := cell_kept y0 b2; have z1 := cell_kept y1 b2; have z2 := cell_kept y2 b2; have z3 := cell_kept y3 b2; have u0 := bx2 0 _ rfl; have u1 := bx2 1 _ rfl; have u2 := bx2 2 _ rfl; have u3 := bx2 3 _ rfl; clear ht2 hb2 b2 S1 E1 bx2 y0 y1 y2 y3)
    | (go_at_call 9; refine (text x _ _ T2.out.st E2.out).mono ?_; rintro e w4 ⟨rfl, hb4⟩; have T4 := hid (T2.out.keep hb4); have S4 := hid (S2.out.keep hb4); have E4 := hid (E2.out.below hb4); have B4 := hid (bstep B2.out hb4); have v0 := cell_kept z0 hb4; have v1 := cell_kept z1 hb4; have v2 := cell_kept z2 hb4; have v3 := cell_kept z3 hb4; have p0 := cell_kept u0 hb4; have p1 := cell_kept u1 hb4; have p2 := cell_kept u2 hb4; have p3 := cell_kept u3 hb4; clear hb4 T2 S2 E2 B2 z0 z1 z2 z3 u0 u1 u2 u3)
    | (go_at_call 10; refine (rtext x _ _ S4.out).mono ?_; rintro e w5 ⟨rfl, hb5⟩; have T5 := hid (T4.out.keep hb5); have S5 := hid (S4.out.keep hb5); have E5 := hid (E4.out.below hb5); have B5 := hid (bstep B4.out hb5); have a0 := cell_kept v0 hb5; have a1 := cell_kept v1 hb5; have a2 := cell_kept v2 hb5; have a3 := cell_kept v3 hb5; have q0 := cell_kept p0 hb5; have q1 := cell_kept p1 hb5; have q2 := cell_kept p2 hb5; have q3 := cell_kept p3 hb5; clear hb5 T4 S4 E4 B4 v0 v1 v2 v3 p0 p1 p2 p3))
  all_goals first | (go_ret; exact ⟨rfl, B1.out⟩) | skip
  have X5 : (w5.drew.cell? ⟨w.heap.size, 0, none⟩ = some (.int .u8 (x.op : Int)) ∧ w5.drew.cell? ⟨w.heap.size, 1, none⟩ = some (.int .i64 x.n) ∧ w5.drew.cell? ⟨w.heap.size, 2, none⟩ = some (.string x.name) ∧ w5.drew.cell? ⟨w.heap.size, 3, none⟩ = some (.slice ao x.args.length cap)) ∧ w5.drew.cell? ⟨w2.heap.size, 0, none⟩ = some (.int .u8 (x.op : Int)) ∧ w5.drew.cell? ⟨w2.heap.size, 1, none⟩ = some (.int .i64 x.n) ∧ w5.drew.cell? ⟨w2.heap.size, 2, none⟩ = some (.string x.name) ∧ w5.drew.cell? ⟨w2.heap.size, 3, none⟩ = some (.slice t2 x.args.length c2) := ⟨⟨a0, a1, a2, a3⟩, q0, q1, q2, q3⟩
  clear a0 a1 a2 a3 q0 q1 q2 q3 B1
  generalize (⟨(txt x).toArray⟩ : ByteArray) = X at *
  refine wp_region_held_drew (S := fun W => (W.cell? ⟨w.heap.size, 0, none⟩ = some (.int .u8 (x.op : Int)) ∧ W.cell? ⟨w.heap.size, 1, none⟩ = some (.int .i64 x.n) ∧ W.cell? ⟨w.heap.size, 2, none⟩ = some (.string x.name) ∧ W.cell? ⟨w.heap.size, 3, none⟩ = some (.slice ao x.args.length cap)) ∧ W.cell? ⟨w2.heap.size, 0, none⟩ = some (.int .u8 (x.op : Int)) ∧ W.cell? ⟨w2.heap.size, 1, none⟩ = some (.int .i64 x.n) ∧ W.cell? ⟨w2.heap.size, 2, none⟩ = some (.string x.name) ∧ W.cell? ⟨w2.heap.size, 3, none⟩ = some (.slice t2 x.args.length c2)) (by kernel_rfl) ?_ (fun hHeld => ?_)
  · exact X5
  refine wpAnyH_take (i := 0) (oi := { dst := some 23, op := Go.Op.move (Go.Operand.tmp 4), type := 9, pos := _, after := #[], guard := none }) (v := ?_) rfl (by kernel_rfl) (by kernel_rfl) (by kernel_rfl) (fun _ _ _ h => h) (Or.inl ⟨by rfl, ?_⟩) (by assumption) ?_
  rotate_left
  · intro w hSw; (try dsimp only at hSw); go_simp <;> first | with_reducible rfl | (rw [if_neg (by first | omega | (simp only [ByteArray.size_append] at *; omega))])
  simp only [Act.put, List.setIfInBounds_toArray, List.set_cons_zero, List.set_cons_succ]
  refine wpAnyH_take (i := 1) (oi := { dst := some 24, op := Go.Op.move (Go.Operand.tmp 6), type := 9, pos := _, after := #[], guard := none }) (v := ?_) rfl (by kernel_rfl) (by kernel_rfl) (by kernel_rfl) (fun _ _ _ h => h) (Or.inl ⟨by rfl, ?_⟩) (by assumption) ?_
  rotate_left
  · intro w hSw; (try dsimp only at hSw); go_simp <;> first | with_reducible rfl | (rw [if_neg (by first | omega | (simp only [ByteArray.size_append] at *; omega))])
  simp only [Act.put, List.setIfInBounds_toArray, List.set_cons_zero, List.set_cons_succ]
  refine wpAnyH_take (i := 2) (oi := { dst := some 25, op := Go.Op.binOp Go.BinOp.eql 9 (Go.Operand.tmp 23) (Go.Operand.tmp 24) 9, type := 4, pos := _, after := #[{ on := 0, ground := Go.Ground.data }, { on := 1, ground := Go.Ground.data }], guard := none }) (v := ?_) rfl (by kernel_rfl) (by kernel_rfl) (by kernel_rfl) (fun _ _ _ h => h) (Or.inl ⟨by rfl, ?_⟩) (by assumption) ?_
  rotate_left
  · intro w hSw; (try dsimp only at hSw); go_simp <;> first | with_reducible rfl | (rw [if_neg (by first | omega | (simp only [ByteArray.size_append] at *; omega))])
  simp only [Act.put, List.setIfInBounds_toArray, List.set_cons_zero, List.set_cons_succ]
  refine wpAnyH_take (i := 3) (oi := { dst := some 26, op := Go.Op.move (Go.Operand.tmp 25), type := 4, pos := _, after := #[{ on := 2, ground := Go.Ground.data }], guard := none }) (v := ?_) rfl (by kernel_rfl) (by kernel_rfl) (by kernel_rfl) (fun _ _ _ h => h) (Or.inl ⟨by rfl, ?_⟩) (by assumption) ?_
  rotate_left
  · intro w hSw; (try dsimp only at hSw); go_simp <;> first | with_reducible rfl | (rw [if_neg (by first | omega | (simp only [ByteArray.size_append] at *; omega))])
  simp only [Act.put, List.setIfInBounds_toArray, List.set_cons_zero, List.set_cons_succ]
  refine wpAnyH_take (i := 4) (oi := { dst := some 27, op := Go.Op.move (Go.Operand.tmp 5), type := 28, pos := _, after := #[{ on := 3, ground := Go.Ground.guard }], guard := some (3, true) }) (v := ?_) rfl (by kernel_rfl) (by kernel_rfl) (by kernel_rfl) (fun _ _ _ h => h) (Or.inl ⟨by rfl, ?_⟩) (by assumption) ?_
  rotate_left
  · intro w hSw; (try dsimp only at hSw); go_simp <;> first | with_reducible rfl | (rw [if_neg (by first | omega | (simp only [ByteArray.size_append] at *; omega))])
  simp only [Act.put, List.setIfInBounds_toArray, List.set_cons_zero, List.set_cons_succ]
  refine wpAnyH_take (i := 5) (oi := { dst := some 28, op := Go.Op.move (Go.Operand.tmp 7), type := 28, pos := _, after := #[{ on := 3, ground := Go.Ground.guard }], guard := some (3, true) }) (v := ?_) rfl (by kernel_rfl) (by kernel_rfl) (by kernel_rfl) (fun _ _ _ h => h) (Or.inl ⟨by rfl, ?_⟩) (by assumption) ?_
  rotate_left
  · intro w hSw; (try dsimp only at hSw); go_simp <;> first | with_reducible rfl | (rw [if_neg (by first | omega | (simp only [ByteArray.size_append] at *; omega))])
  simp only [Act.put, List.setIfInBounds_toArray, List.set_cons_zero, List.set_cons_succ]
  refine wpAnyH_take (i := 6) (oi := { dst := some 29, op := Go.Op.binOp Go.BinOp.eql 28 (Go.Operand.tmp 27) (Go.Operand.tmp 28) 28, type := 4, pos := _, after := #[{ on := 4, ground := Go.Ground.data }, { on := 5, ground := Go.Ground.data }, { on := 3, ground := Go.Ground.guard }], guard := some (3, true) }) (v := ?_) rfl (by kernel_rfl) (by kernel_rfl) (by kernel_rfl) (fun _ _ _ h => h) (Or.inl ⟨by rfl, ?_⟩) (by assumption) ?_
  rotate_left
  · intro w hSw; (try dsimp only at hSw); go_simp <;> first | with_reducible rfl | (rw [if_neg (by first | omega | (simp only [ByteArray.size_append] at *; omega))])
  simp only [Act.put, List.setIfInBounds_toArray, List.set_cons_zero, List.set_cons_succ]
  refine wpAnyH_take (i := 7) (oi := { dst := some 30, op := Go.Op.pick (Go.Operand.tmp 26) (Go.Operand.tmp 29) (Go.Operand.const (Go.Value.bool false)), type := 4, pos := _, after := #[{ on := 3, ground := Go.Ground.data }, { on := 6, ground := Go.Ground.data }], guard := none }) (v := ?_) rfl (by kernel_rfl) (by kernel_rfl) (by kernel_rfl) (fun _ _ _ h => h) (Or.inl ⟨by rfl, ?_⟩) (by assumption) ?_
  rotate_left
  · intro w hSw; (try dsimp only at hSw); go_simp <;> first | with_reducible rfl | (rw [if_neg (by first | omega | (simp only [ByteArray.size_append] at *; omega))])
  simp only [Act.put, List.setIfInBounds_toArray, List.set_cons_zero, List.set_cons_succ]
  refine wpAnyH_take (i := 8) (oi := { dst := some 31, op := Go.Op.move (Go.Operand.tmp 30), type := 4, pos := _, after := #[{ on := 7, ground := Go.Ground.data }, { on := 3, ground := Go.Ground.chain }], guard := none }) (v := ?_) rfl (by kernel_rfl) (by kernel_rfl) (by kernel_rfl) (fun _ _ _ h => h) (Or.inl ⟨by rfl, ?_⟩) (by assumption) ?_
  rotate_left
  · intro w hSw; (try dsimp only at hSw); go_simp <;> first | with_reducible rfl | (rw [if_neg (by first | omega | (simp only [ByteArray.size_append] at *; omega))])
  simp only [Act.put, List.setIfInBounds_toArray, List.set_cons_zero, List.set_cons_succ]
  refine wpAnyH_take (i := 9) (oi := { dst := some 32, op := Go.Op.load 25 (Go.Operand.tmp 3), type := 25, pos := _, after := #[{ on := 8, ground := Go.Ground.guard }], guard := some (8, true) }) (v := ?_) rfl (by kernel_rfl) (by kernel_rfl) (by kernel_rfl) (fun _ _ _ h => h) (Or.inl ⟨by rfl, ?_⟩) (by assumption) ?_
  rotate_left
  · intro w hSw; (try dsimp only at hSw); go_simp <;> first | with_reducible rfl | (rw [if_neg (by first | omega | (simp only [ByteArray.size_append] at *; omega))])
  simp only [Act.put, List.setIfInBounds_toArray, List.set_cons_zero, List.set_cons_succ]
  refine wpAnyH_take (i := 11) (oi := { dst := some 34, op := Go.Op.load 25 (Go.Operand.tmp 1), type := 25, pos := _, after := #[{ on := 8, ground := Go.Ground.guard }], guard := some (8, true) }) (v := ?_) rfl (by kernel_rfl) (by kernel_rfl) (by kernel_rfl) (fun _ _ _ h => h) (Or.inl ⟨by rfl, ?_⟩) (by assumption) ?_
  rotate_left
  · intro w hSw; (try dsimp only at hSw); go_simp <;> first | with_reducible rfl | (rw [if_neg (by first | omega | (simp only [ByteArray.size_append] at *; omega))])
  simp only [Act.put, List.setIfInBounds_toArray, List.set_cons_zero, List.set_cons_succ]
  refine wpAnyH_ready (rs := [10]) (by kernel_rfl) (by simp) ?_
  refine AllReadyH.cons (o := { dst := some 33, op := Go.Op.call { callee := Go.Callee.value (Go.Operand.func 11), args := #[Go.Operand.tmp 32], argTypes := #[25] }, type := 4, pos := _, after := #[{ on := 9, ground := Go.Ground.data }, { on := 8, ground := Go.Ground.chain }, { on := 8, ground := Go.Ground.guard }], guard := some (8, true) }) rfl (fun K hK => ?_) AllReadyH.nil
  go_simp
  refine (check x _ _ (T5.out.keep (Below.refl _ _).drew).st (E5.out.below (Below.refl _ _).drew).res (E5.out.below (Below.refl _ _).drew).joins).mono ?_
  rintro e w6 ⟨rfl, hw6⟩
  have T6 := hid ((T5.out.keep (Below.refl _ _).drew).keep hw6)
  have S6 := hid ((S5.out.keep (Below.refl _ _).drew).keep hw6)
  have B6 := hid (bstep B5.out.drew hw6)
  have X6 : (w6.cell? ⟨w.heap.size, 0, none⟩ = some (.int .u8 (x.op : Int)) ∧ w6.cell? ⟨w.heap.size, 1, none⟩ = some (.int .i64 x.n) ∧ w6.cell? ⟨w.heap.size, 2, none⟩ = some (.string x.name) ∧ w6.cell? ⟨w.heap.size, 3, none⟩ = some (.slice ao x.args.length cap)) ∧ w6.cell? ⟨w2.heap.size, 0, none⟩ = some (.int .u8 (x.op : Int)) ∧ w6.cell? ⟨w2.heap.size, 1, none⟩ = some (.int .i64 x.n) ∧ w6.cell? ⟨w2.heap.size, 2, none⟩ = some (.string x.name) ∧ w6.cell? ⟨w2.heap.size, 3, none⟩ = some (.slice t2 x.args.length c2) := ⟨⟨cell_kept (X5).1.1 hw6, cell_kept (X5).1.2.1 hw6, cell_kept (X5).1.2.2.1 hw6, cell_kept (X5).1.2.2.2 hw6⟩, ⟨cell_kept (X5).2.1 hw6, cell_kept (X5).2.2.1 hw6, cell_kept (X5).2.2.2.1 hw6, cell_kept (X5).2.2.2.2 hw6⟩⟩
  go_wp2_with fail
  refine hK.out _ _ ?_ (fun hHeld1 => ?_)
  · exact X6
  clear hK K
  refine wpAnyH_ready (rs := [12]) (by kernel_rfl) (by simp) ?_
  refine AllReadyH.cons (o := { dst := some 35, op := Go.Op.call { callee := Go.Callee.value (Go.Operand.func 12), args := #[Go.Operand.tmp 34], argTypes := #[25] }, type := 4, pos := _, after := #[{ on := 11, ground := Go.Ground.data }, { on := 10, ground := Go.Ground.chain }, { on := 8, ground := Go.Ground.guard }], guard := some (8, true) }) rfl (fun K hK => ?_) AllReadyH.nil
  go_simp
  refine (rcheck x _ _ S6.out).mono ?_
  rintro e w7 ⟨rfl, hw7⟩
  have T7 := hid (T6.out.keep hw7)
  have S7 := hid (S6.out.keep hw7)
  have B7 := hid (bstep B6.out hw7)
  have X7 : (w7.cell? ⟨w.heap.size, 0, none⟩ = some (.int .u8 (x.op : Int)) ∧ w7.cell? ⟨w.heap.size, 1, none⟩ = some (.int .i64 x.n) ∧ w7.cell? ⟨w.heap.size, 2, none⟩ = some (.string x.name) ∧ w7.cell? ⟨w.heap.size, 3, none⟩ = some (.slice ao x.args.length cap)) ∧ w7.cell? ⟨w2.heap.size, 0, none⟩ = some (.int .u8 (x.op : Int)) ∧ w7.cell? ⟨w2.heap.size, 1, none⟩ = some (.int .i64 x.n) ∧ w7.cell? ⟨w2.heap.size, 2, none⟩ = some (.string x.name) ∧ w7.cell? ⟨w2.heap.size, 3, none⟩ = some (.slice t2 x.args.length c2) := ⟨⟨cell_kept (X6).1.1 hw7, cell_kept (X6).1.2.1 hw7, cell_kept (X6).1.2.2.1 hw7, cell_kept (X6).1.2.2.2 hw7⟩, ⟨cell_kept (X6).2.1 hw7, cell_kept (X6).2.2.1 hw7, cell_kept (X6).2.2.2.1 hw7, cell_kept (X6).2.2.2.2 hw7⟩⟩
  go_wp2_with fail
  refine hK.out _ _ ?_ (fun hHeld2 => ?_)
  · exact X7
  clear hK K
  refine wpAnyH_take (i := 13) (oi := { dst := some 36, op := Go.Op.binOp Go.BinOp.eql 4 (Go.Operand.tmp 33) (Go.Operand.tmp 35) 4, type := 4, pos := _, after := #[{ on := 10, ground := Go.Ground.data }, { on := 12, ground := Go.Ground.data }, { on := 8, ground := Go.Ground.guard }], guard := some (8, true) }) (v := ?_) rfl (by kernel_rfl) (by kernel_rfl) (by kernel_rfl) (fun _ _ _ h => h) (Or.inl ⟨by rfl, ?_⟩) (by assumption) ?_
  rotate_left
  · intro w hSw; (try dsimp only at hSw); go_simp <;> first | with_reducible rfl | (rw [if_neg (by first | omega | (simp only [ByteArray.size_append] at *; omega))])
  simp only [Act.put, List.setIfInBounds_toArray, List.set_cons_zero, List.set_cons_succ]
  refine wpAnyH_take (i := 14) (oi := { dst := some 37, op := Go.Op.pick (Go.Operand.tmp 31) (Go.Operand.tmp 36) (Go.Operand.const (Go.Value.bool false)), type := 4, pos := _, after := #[{ on := 8, ground := Go.Ground.data }, { on := 13, ground := Go.Ground.data }], guard := none }) (v := ?_) rfl (by kernel_rfl) (by kernel_rfl) (by kernel_rfl) (fun _ _ _ h => h) (Or.inl ⟨by rfl, ?_⟩) (by assumption) ?_
  rotate_left
  · intro w hSw; (try dsimp only at hSw); go_simp <;> first | with_reducible rfl | (rw [if_neg (by first | omega | (simp only [ByteArray.size_append] at *; omega))])
  simp only [Act.put, List.setIfInBounds_toArray, List.set_cons_zero, List.set_cons_succ]
  refine wpAnyH_take (i := 15) (oi := { dst := some 38, op := Go.Op.move (Go.Operand.tmp 37), type := 4, pos := _, after := #[{ on := 14, ground := Go.Ground.data }, { on := 12, ground := Go.Ground.chain }], guard := none }) (v := ?_) rfl (by kernel_rfl) (by kernel_rfl) (by kernel_rfl) (fun _ _ _ h => h) (Or.inl ⟨by rfl, ?_⟩) (by assumption) ?_
  rotate_left
  · intro w hSw; (try dsimp only at hSw); go_simp <;> first | with_reducible rfl | (rw [if_neg (by first | omega | (simp only [ByteArray.size_append] at *; omega))])
  simp only [Act.put, List.setIfInBounds_toArray, List.set_cons_zero, List.set_cons_succ]
  refine wpAnyH_take (i := 16) (oi := { dst := some 39, op := Go.Op.load 25 (Go.Operand.tmp 3), type := 25, pos := _, after := #[{ on := 15, ground := Go.Ground.guard }], guard := some (15, true) }) (v := ?_) rfl (by kernel_rfl) (by kernel_rfl) (by kernel_rfl) (fun _ _ _ h => h) (Or.inl ⟨by rfl, ?_⟩) (by assumption) ?_
  rotate_left
  · intro w hSw; (try dsimp only at hSw); go_simp <;> first | with_reducible rfl | (rw [if_neg (by first | omega | (simp only [ByteArray.size_append] at *; omega))])
  simp only [Act.put, List.setIfInBounds_toArray, List.set_cons_zero, List.set_cons_succ]
  refine wpAnyH_take (i := 17) (oi := { dst := some 40, op := Go.Op.load 25 (Go.Operand.tmp 1), type := 25, pos := _, after := #[{ on := 15, ground := Go.Ground.guard }], guard := some (15, true) }) (v := ?_) rfl (by kernel_rfl) (by kernel_rfl) (by kernel_rfl) (fun _ _ _ h => h) (Or.inl ⟨by rfl, ?_⟩) (by assumption) ?_
  rotate_left
  · intro w hSw; (try dsimp only at hSw); go_simp <;> first | with_reducible rfl | (rw [if_neg (by first | omega | (simp only [ByteArray.size_append] at *; omega))])
  simp only [Act.put, List.setIfInBounds_toArray, List.set_cons_zero, List.set_cons_succ]
  refine wpAnyH_ready (rs := [18]) (by kernel_rfl) (by simp) ?_
  refine AllReadyH.cons (o := { dst := some 41, op := Go.Op.call { callee := Go.Callee.value (Go.Operand.func 13), args := #[Go.Operand.tmp 39, Go.Operand.tmp 40], argTypes := #[25, 25] }, type := 4, pos := _, after := #[{ on := 16, ground := Go.Ground.data }, { on := 17, ground := Go.Ground.data }, { on := 15, ground := Go.Ground.chain }, { on := 15, ground := Go.Ground.guard }], guard := some (15, true) }) rfl (fun K hK => ?_) AllReadyH.nil
  go_simp
  refine (left_any _ x (Nat.le_refl _) _ _ _ _ T7.out S7.out).mono ?_
  rintro e w8 ⟨rfl, hw8⟩
  have B8 := hid (bstep B7.out hw8)
  have X8 : (w8.cell? ⟨w.heap.size, 0, none⟩ = some (.int .u8 (x.op : Int)) ∧ w8.cell? ⟨w.heap.size, 1, none⟩ = some (.int .i64 x.n) ∧ w8.cell? ⟨w.heap.size, 2, none⟩ = some (.string x.name) ∧ w8.cell? ⟨w.heap.size, 3, none⟩ = some (.slice ao x.args.length cap)) ∧ w8.cell? ⟨w2.heap.size, 0, none⟩ = some (.int .u8 (x.op : Int)) ∧ w8.cell? ⟨w2.heap.size, 1, none⟩ = some (.int .i64 x.n) ∧ w8.cell? ⟨w2.heap.size, 2, none⟩ = some (.string x.name) ∧ w8.cell? ⟨w2.heap.size, 3, none⟩ = some (.slice t2 x.args.length c2) := ⟨⟨cell_kept (X7).1.1 hw8, cell_kept (X7).1.2.1 hw8, cell_kept (X7).1.2.2.1 hw8, cell_kept (X7).1.2.2.2 hw8⟩, ⟨cell_kept (X7).2.1 hw8, cell_kept (X7).2.2.1 hw8, cell_kept (X7).2.2.2.1 hw8, cell_kept (X7).2.2.2.2 hw8⟩⟩
  go_wp2_with fail
  refine hK.out _ _ ?_ (fun hHeld3 => ?_)
  · exact X8
  clear hK K
  refine wpAnyH_take (i := 19) (oi := { dst := some 42, op := Go.Op.pick (Go.Operand.tmp 38) (Go.Operand.tmp 41) (Go.Operand.const (Go.Value.bool false)), type := 4, pos := _, after := #[{ on := 15, ground := Go.Ground.data }, { on := 18, ground := Go.Ground.data }], guard := none }) (v := ?_) rfl (by kernel_rfl) (by kernel_rfl) (by kernel_rfl) (fun _ _ _ h => h) (Or.inl ⟨by rfl, ?_⟩) (by assumption) ?_
  rotate_left
  · intro w hSw; (try dsimp only at hSw); go_simp <;> first | with_reducible rfl | (rw [if_neg (by first | omega | (simp only [ByteArray.size_append] at *; omega))])
  simp only [Act.put, List.setIfInBounds_toArray, List.set_cons_zero, List.set_cons_succ]
  refine wpAnyH_take (i := 20) (oi := { dst := some 2, op := Go.Op.assign (Go.Operand.tmp 42), type := 4, pos := _, after := #[{ on := 19, ground := Go.Ground.data }, { on := 18, ground := Go.Ground.chain }, { on := 0, ground := Go.Ground.phase }, { on := 1, ground := Go.Ground.phase }, { on := 2, ground := Go.Ground.phase }, { on := 3, ground := Go.Ground.phase }, { on := 4, ground := Go.Ground.phase }, { on := 5, ground := Go.Ground.phase }, { on := 6, ground := Go.Ground.phase }, { on := 7, ground := Go.Ground.phase }, { on := 8, ground := Go.Ground.phase }, { on := 9, ground := Go.Ground.phase }, { on := 10, ground := Go.Ground.phase }, { on := 11, ground := Go.Ground.phase }, { on := 12, ground := Go.Ground.phase }, { on := 13, ground := Go.Ground.phase }, { on := 14, ground := Go.Ground.phase }, { on := 15, ground := Go.Ground.phase }, { on := 16, ground := Go.Ground.phase }, { on := 17, ground := Go.Ground.phase }, { on := 18, ground := Go.Ground.phase }, { on := 19, ground := Go.Ground.phase }], guard := none }) (v := ?_) rfl (by kernel_rfl) (by kernel_rfl) (by kernel_rfl) (fun _ _ _ h => h) (Or.inl ⟨by rfl, ?_⟩) (by assumption) ?_
  rotate_left
  · intro w hSw; (try dsimp only at hSw); go_simp <;> first | with_reducible rfl | (rw [if_neg (by first | omega | (simp only [ByteArray.size_append] at *; omega))])
  simp only [Act.put, List.setIfInBounds_toArray, List.set_cons_zero, List.set_cons_succ]
  refine wpAnyH_done (by kernel_rfl) ?_ _
  go_wp2
  go_ret
  exact ⟨rfl, B8.out⟩
end Go.Proofs.YtkieljleopbhoaaDoor.Lex
namespace Go.Proofs.YtkieljleopbhoaaDoor.Lex
open Go.ChangeShapes Go.WideShapes Go.ChangeAt Go.RowKit Go.Joins
theorem cells25 : Tryd.prog.cellsOf 25 = 4 := by kernel_rfl
theorem cells22 : Tryd.prog.cellsOf 22 = 1 := by kernel_rfl
theorem cells2 : Tryd.prog.cellsOf 2 = 1 := by kernel_rfl
theorem cells9 : Tryd.prog.cellsOf 9 = 1 := by kernel_rfl
theorem cells23 : Tryd.prog.cellsOf 23 = 1 := by kernel_rfl
theorem bytes25 : Tryd.prog.bytesOf 25 = 56 := by kernel_rfl
theorem list4 {l : List Value} (h : l.length = 4) : ∃ a b c d, l = [a, b, c, d] := by match l, h with | [a, b, c, d], _ => exact ⟨a, b, c, d, rfl⟩
theorem all_mem {H : Type} {P : Program} {e : TypeId} : ∀ {l : List (DataW H)} {i : Nat} {d : DataW H}, l[i]? = some d → ∀ v ∈ d.weights P e, v ∈ DataW.weightsAll P e l
  | [], i, d, h => by simp at h
  | x :: l, 0, d, h => by simp at h; subst h; intro v hv; rw [DataW.weightsAll]; exact List.mem_append_left _ hv
  | x :: l, i + 1, d, h => by simp at h; intro v hv; rw [DataW.weightsAll]; exact List.mem_append_right _ (all_mem h v hv)
theorem add_off (b o n : Nat) : (⟨b, o, none⟩ : Addr).add n = ⟨b, o + n, none⟩ := by unfold Addr.add; split <;> simp_all
theorem cells4 {w : World} {a : Addr} {l : List Value} (h : w.cells? 0 a 4 = some l) : ∃ v0 v1 v2 v3, l = [v0, v1, v2, v3] ∧ w.cell? (a.add 0) = some v0 ∧ w.cell? (a.add 1) = some v1 ∧ w.cell? (a.add 2) = some v2 ∧ w.cell? (a.add 3) = some v3 := by
  unfold World.cells? at h
  rw [if_pos (Nat.zero_le _)] at h
  have hl : l.length = 4 := by have := Lib.mapM_length h; simpa using this
  obtain ⟨v0, v1, v2, v3, rfl⟩ := list4 hl
  have g : ∀ i, i < 4 → w.cell? (a.add i) = [v0, v1, v2, v3][i]? := fun i hi => by
    obtain ⟨b, hb, hf⟩ := Lib.mapM_at h i i (by simp [hi])
    rw [hf, hb]
  exact ⟨v0, v1, v2, v3, rfl, g 0 (by omega), g 1 (by omega), g 2 (by omega), g 3 (by omega)⟩
/-- What came in, as a tree. -/
theorem viewT {H : Type} {enc : TypeId × Value → H} {W : World} : ∀ (m fuel : Nat) (cs : List Value) (d : DataW H) (p : List MemPlace), fuel ≤ m → DataW.trod enc Tryd.prog W 0 (fun _ => true) true fuel 25 cs = some (d, p) → (∀ v ∈ d.weights Tryd.prog 25, v ≤ reachBytes) →
    ∃ (x : Ex) (s : Value), cs = [.int .u8 (x.op : Int), .int .i64 x.n, .string x.name, s] ∧ St W x s := by
  intro m
  induction m with
  | zero => intro fuel cs d p hm h; obtain rfl : fuel = 0 := by omega
            simp [DataW.trod] at h
  | succ m ih =>
    intro fuel cs d p hm h hw
    obtain ⟨xs, n, hn, hx, hl, hlen, hfs⟩ := DataW.trod_struct Tryd.underlying25 h
    rw [cells25] at hl
    obtain ⟨c0, c1, c2, c3, rfl⟩ := list4 hl
    match xs, hlen with
    | [y0, y1, y2, y3], _ =>
      have h0 : DataW.trod enc Tryd.prog W 0 (fun _ => true) true n 22 [c0] = some y0 := by simpa [cells22] using hfs 0 _ rfl
      have h1 : DataW.trod enc Tryd.prog W 0 (fun _ => true) true n 2 [c1] = some y1 := by simpa [cells2] using hfs 1 _ rfl
      have h2 : DataW.trod enc Tryd.prog W 0 (fun _ => true) true n 9 [c2] = some y2 := by simpa [cells9] using hfs 2 _ rfl
      have h3 : DataW.trod enc Tryd.prog W 0 (fun _ => true) true n 23 [c3] = some y3 := by simpa [cells23] using hfs 3 _ rfl
      obtain ⟨op, e0, _, w0⟩ := DataW.trod_int Tryd.underlying22 h0
      obtain ⟨k, e1, _, w1⟩ := DataW.trod_int Tryd.underlying2 h1
      obtain ⟨nm, e2, hy2, _⟩ := DataW.trod_string Tryd.underlying9 h2
      simp only [List.cons.injEq, and_true] at e0 e1 e2
      subst e0 e1 e2
      simp only [Prod.mk.injEq] at hx
      obtain ⟨rfl, _⟩ := hx
      have hw2 : ∀ v ∈ y2.1.weights Tryd.prog 9, v ≤ reachBytes := fun v hv => hw v (by simp [DataW.weights, Tryd.underlying25, DataW.weightsEach]; right; right; left; exact hv)
      have hw3 : ∀ v ∈ y3.1.weights Tryd.prog 23, v ≤ reachBytes := fun v hv => hw v (by simp [DataW.weights, Tryd.underlying25, DataW.weightsEach]; right; right; right; exact hv)
      have hnm : nm.size ≤ 140737488355328 := by
        have := hw2 nm.data.toList.length (by rw [hy2]; simp [DataW.weights])
        rw [← Lib.size_eq] at this
        unfold reachBytes at this
        omega
      have hop : 0 ≤ op ∧ op < 256 := by
        simp [Lit.wf, IntKind.min, IntKind.max, IntKind.signed, IntKind.bits] at w0
        omega
      have hk : -9223372036854775808 ≤ k ∧ k ≤ 9223372036854775807 := by
        simp [Lit.wf, IntKind.min, IntKind.max, IntKind.signed, IntKind.bits] at w1
        omega
      obtain ⟨u, rfl⟩ : ∃ u : Nat, op = (u : Int) := ⟨op.toNat, by omega⟩
      rcases DataW.trod_slice Tryd.underlying23 h3 with ⟨hc, _⟩ | ⟨a, len, cap, elems, rest, n', hn', hc, hy3, hb, hlc, hcm, hel, helem, hsp, _⟩
      · simp only [List.cons.injEq, and_true] at hc
        subst hc
        exact ⟨.mk u k nm [], .slice none 0 0, rfl, St.intro (.mk u k nm []) none 0 (fun _ => .slice none 0 0) (by show u < 256; omega) hk hnm (by show 0 ≤ _; omega) (Nat.le_refl _) (.inl rfl) (fun i hi => by cases hi)⟩
      · simp only [List.cons.injEq, and_true] at hc
        subst hc
        rw [cells25] at helem
        have hwl : (len + rest.length) * 56 ≤ reachBytes := by
          have := hw3 ((elems.map (·.1)).length + (rest.map (·.1)).length |> (· * 56)) (by rw [hy3]; simp [DataW.weights, Tryd.underlying23, bytes25])
          simpa [hel] using this
        have hlen2 : len ≤ 2513169434843 := by unfold reachBytes at hwl; omega
        have each : ∀ i, ∃ q : Ex × Value, i < len → (∃ v0 v1 v2 v3, W.cell? ((a.add (i * 4)).add 0) = some v0 ∧ W.cell? ((a.add (i * 4)).add 1) = some v1 ∧ W.cell? ((a.add (i * 4)).add 2) = some v2 ∧ W.cell? ((a.add (i * 4)).add 3) = some v3 ∧ [v0, v1, v2, v3] = [.int .u8 (q.1.op : Int), .int .i64 q.1.n, .string q.1.name, q.2]) ∧ St W q.1 q.2 := by
          intro i
          by_cases hi : i < len
          · have he := helem i hi
            rw [List.getElem?_eq_getElem (by omega)] at he
            obtain ⟨l, hl1, hl2⟩ := Option.bind_eq_some_iff.1 he
            obtain ⟨v0, v1, v2, v3, rfl, g0, g1, g2, g3⟩ := cells4 hl1
            obtain ⟨x, s, ex, hs⟩ := ih n' _ _ _ (by omega) (show DataW.trod enc Tryd.prog W 0 (fun _ => true) true n' 25 [v0, v1, v2, v3] = some ((elems[i]'(by omega)).1, (elems[i]'(by omega)).2) from hl2) (fun v hv => hw3 v (by
              rw [hy3]
              simp only [DataW.weights, Tryd.underlying23]
              refine List.mem_cons_of_mem _ (List.mem_append_left _ (all_mem (i := i) (d := (elems[i]'(by omega)).1) ?_ v hv))
              rw [List.getElem?_map, List.getElem?_eq_getElem (by omega)]
              rfl))
            exact ⟨(x, s), fun _ => ⟨⟨v0, v1, v2, v3, g0, g1, g2, g3, ex⟩, hs⟩⟩
          · exact ⟨(.mk 0 0 ByteArray.empty [], .slice none 0 0), fun h => absurd h hi⟩
        obtain ⟨f, hf⟩ := Classical.axiomOfChoice each
        have hargs : ((List.range len).map fun i => (f i).1).length = len := by simp
        have hget : ∀ i (hi : i < ((List.range len).map fun i => (f i).1).length), ((List.range len).map fun i => (f i).1)[i] = (f i).1 := fun i hi => by simp
        refine ⟨.mk u k nm ((List.range len).map fun i => (f i).1), .slice (some a) len cap, rfl, ?_⟩
        have key : St W (.mk u k nm ((List.range len).map fun i => (f i).1)) (.slice (some a) ((List.range len).map fun i => (f i).1).length cap) := by
          refine St.intro (.mk u k nm ((List.range len).map fun i => (f i).1)) (some a) cap (fun i => (f i).2) (by show u < 256; omega) hk hnm (by show ((List.range len).map fun i => (f i).1).length ≤ _; omega) (by show ((List.range len).map fun i => (f i).1).length ≤ _; omega) ?_ (fun i hi => ?_)
          · by_cases h00 : len = 0
            · exact .inl (by show ((List.range len).map fun i => (f i).1).length = 0; omega)
            · right
              obtain ⟨b, o, sp⟩ := a
              have hspt : sp = none := by
                obtain ⟨⟨v0, _, _, _, g0, _⟩, _⟩ := hf 0 (by omega)
                simpa [Addr.add] using World.cell?_spot g0
              subst hspt
              refine ⟨b, o, rfl, fun i hi => ?_⟩
              have hi' : i < len := by have : i < ((List.range len).map fun i => (f i).1).length := hi; omega
              obtain ⟨⟨v0, v1, v2, v3, g0, g1, g2, g3, ex⟩, _⟩ := hf i hi'
              simp only [List.cons.injEq, and_true] at ex
              obtain ⟨rfl, rfl, rfl, rfl⟩ := ex
              rw [add_off, add_off] at g0 g1 g2 g3
              have e : (Ex.mk u k nm ((List.range len).map fun i => (f i).1)).args[i] = (f i).1 := hget i hi
              rw [e]
              exact ⟨g0, g1, g2, g3⟩
          · have hi' : i < len := by have : i < ((List.range len).map fun i => (f i).1).length := hi; omega
            have e : (Ex.mk u k nm ((List.range len).map fun i => (f i).1)).args[i] = (f i).1 := hget i hi
            rw [e]
            exact (hf i hi').2
        rwa [hargs] at key
theorem array4 {c : Array Value} (h : c.size = 4) : ∃ a b d e, c = #[a, b, d, e] := by
  obtain ⟨l⟩ := c
  obtain ⟨a, b, d, e, rfl⟩ := list4 (by simpa using h)
  exact ⟨a, b, d, e, rfl⟩
set_option maxRecDepth 100000 in
/-- An api.Expr that came in, opened once. -/
theorem viewE {H : Type} {enc : TypeId × Value → H} {W : World} {r : Reach} {b0 : Nat} {v : Value} {d : DataW H} {p : List MemPlace} {ts : List TypeId} {ds : List (DataW H)} {j : Nat}
    (hv : Value.okWide Tryd.prog W r b0 25 v) (h : DataW.Trod enc Tryd.prog W 0 (fun _ => true) true 25 v d p)
    (hsz : (DataW.weightsEach Tryd.prog ts ds).all (· ≤ reachBytes) = true) (ht : ts[j]? = some 25) (hj : ds[j]? = some d) : ∃ (x : Ex) (s : Value), v = exV x s ∧ St W x s := by
  obtain ⟨cs, rfl, hz⟩ := okWide_struct Tryd.underlying25 hv
  obtain ⟨c0, c1, c2, c3, rfl⟩ := array4 (by rw [hz]; exact cells25)
  obtain ⟨fuel, hf⟩ := h
  obtain ⟨x, s, e, hs⟩ := viewT fuel fuel _ d p (Nat.le_refl _) hf (fun v hv => by
    have := List.all_eq_true.1 hsz _ (DataW.weights_mem_each ht hj v hv)
    simpa using this)
  have e' : [c0, c1, c2, c3] = [.int .u8 (x.op : Int), .int .i64 x.n, .string x.name, s] := by simpa [Value.cells] using e
  simp only [List.cons.injEq, and_true] at e'
  obtain ⟨rfl, rfl, rfl, rfl⟩ := e'
  exact ⟨x, _, rfl, hs⟩
end Go.Proofs.YtkieljleopbhoaaDoor.Lex
namespace Go.Proofs.YtkieljleopbhoaaDoor.Lex
open Go.ChangeShapes Go.WideShapes Go.ChangeAt Go.RowKit Go.Joins
theorem ownGo : ownKnob Tryd.prog.godebug = none := by kernel_rfl
theorem laidOut : laidOutB Tryd.prog = true := by kernel_rfl
theorem gRes : Tryd.prog.globalNamed "belfry/tokens.reserved" = some 3 := by kernel_rfl
theorem tRes : (Tryd.prog.globals[3]?).map (·.type) = some 129 := by kernel_rfl
theorem gJoin : Tryd.prog.globalNamed "belfry/exprs.joins" = some 0 := by kernel_rfl
theorem tJoin : (Tryd.prog.globals[0]?).map (·.type) = some 96 := by kernel_rfl
theorem tPow : (Tryd.prog.globals[2]?).map (·.type) = some 123 := by kernel_rfl
theorem cells129 : Tryd.prog.cellsOf 129 = 17 := by kernel_rfl
theorem cells123 : Tryd.prog.cellsOf 123 = 20 := by kernel_rfl
theorem cells110 : Tryd.prog.cellsOf 110 = 1 := by kernel_rfl
theorem cells96 : Tryd.prog.cellsOf 96 = 72 := by kernel_rfl
theorem cells83 : Tryd.prog.cellsOf 83 = 6 := by kernel_rfl
theorem cells81 : Tryd.prog.cellsOf 81 = 2 := by kernel_rfl
theorem cells5 : Tryd.prog.cellsOf 5 = 1 := by kernel_rfl
theorem cells3 : Tryd.prog.cellsOf 3 = 1 := by kernel_rfl
/-- An array of strings that reads as a table holds the table's strings, cell for cell. -/
theorem cells_of_strs {H : Type} {enc : TypeId × Value → H} {P : Program} {w : World} {base : Nat} {sp : Nat → Bool} {held : Bool} {fuel : Nat} {t e : TypeId} {n : Nat} {cs : List Value} {zs : List (List UInt8)} {p : List MemPlace}
    (ht : P.underlying t = some (.array n e)) (he : P.underlying e = some .string) (hce : P.cellsOf e = 1) (hct : P.cellsOf t = n)
    (h : DataW.trod enc P w base sp held fuel t cs = some (.agg (zs.map fun z => .lit (.string z)), p)) : cs = zs.map fun z => Value.string ⟨z.toArray⟩ := by
  cases fuel with
  | zero => simp [DataW.trod] at h
  | succ fuel =>
    simp only [DataW.trod, ht, hce, hct, Nat.mul_one] at h
    split at h
    · rename_i hl
      obtain ⟨xs, hm, hx⟩ := Option.map_eq_some_iff.1 h
      have hxs : xs.map (·.1) = zs.map fun z => (DataW.lit (.string z) : DataW H) := by
        have := congrArg Prod.fst hx
        simpa using this
      have hxl : xs.length = n := by simpa using Lib.mapM_length hm
      have hzl : zs.length = n := by
        have := congrArg List.length hxs
        simp at this
        omega
      apply List.ext_getElem?
      intro i
      by_cases hi : i < n
      · obtain ⟨b, hb, hf⟩ := Lib.mapM_at hm i i (by simp [hi])
        obtain ⟨z, hc, rfl, _⟩ := DataW.trod_string he hf
        have h1 : cs[i]? = some (.string z) := by
          have := congrArg (·[0]?) hc
          simpa [List.getElem?_take, List.getElem?_drop] using this
        have h2 : (xs.map (·.1))[i]? = some (DataW.lit (.string z.data.toList) : DataW H) := by simp [hb]
        rw [hxs] at h2
        simp only [List.getElem?_map, Option.map_eq_some_iff, DataW.lit.injEq, Lit.string.injEq] at h2
        obtain ⟨z', hz', rfl⟩ := h2
        simp [h1, hz']
      · rw [List.getElem?_eq_none (by omega), List.getElem?_eq_none (by simp; omega)]
    · cases h
def resB : List (List UInt8) := [[115, 116, 97, 116, 105, 111, 110, 115], [105, 110], [97, 116], [102, 108, 111, 119], [100, 101, 102, 97, 117, 108, 116], [111, 117, 116], [105, 102], [116, 104, 101, 110], [101, 108, 115, 101], [112, 114, 101], [97, 110, 100], [111, 114], [110, 111, 116], [116, 114, 117, 101], [102, 97, 108, 115, 101], [105, 110, 116], [98, 111, 111, 108]]
/-- A row of the table of operators, as a datum. -/
def jD {H : Type} (r : J) : DataW H := .agg [.lit (.int .u8 (r.op : Int)), .agg [.lit (.int .u8 (r.kind : Int)), .lit (.string r.text.data.toList)], .lit (.int .i64 (r.rank : Int)), .lit (.int .i64 (r.first : Int)), .lit (.int .i64 (r.second : Int))]
theorem list6 {l : List Value} (h : l.length = 6) : ∃ a b c d e f, l = [a, b, c, d, e, f] := by match l, h with | [a, b, c, d, e, f], _ => exact ⟨a, b, c, d, e, f, rfl⟩
theorem lit_int {H : Type} {enc : TypeId × Value → H} {w : World} {base : Nat} {sp : Nat → Bool} {held : Bool} {fuel : Nat} {t : TypeId} {k : IntKind} {c : Value} {z : Int} {q : List MemPlace} (ht : Tryd.prog.underlying t = some (.int k)) (h : DataW.trod enc Tryd.prog w base sp held fuel t [c] = some (.lit (.int k z), q)) : c = .int k z := by
  obtain ⟨n, e, hx, _⟩ := DataW.trod_int ht h
  simp only [Prod.mk.injEq, DataW.lit.injEq, Lit.int.injEq, true_and] at hx
  simp only [List.cons.injEq, and_true] at e
  rw [e, hx.1]
theorem lit_str {H : Type} {enc : TypeId × Value → H} {w : World} {base : Nat} {sp : Nat → Bool} {held : Bool} {fuel : Nat} {c : Value} {z : List UInt8} {q : List MemPlace} (h : DataW.trod enc Tryd.prog w base sp held fuel 9 [c] = some (.lit (.string z), q)) : c = .string ⟨z.toArray⟩ := by
  obtain ⟨s, e, hx, _⟩ := DataW.trod_string Tryd.underlying9 h
  simp only [Prod.mk.injEq, DataW.lit.injEq, Lit.string.injEq] at hx
  simp only [List.cons.injEq, and_true] at e
  rw [e, hx.1]
set_option maxRecDepth 100000 in
/-- The cells of a row. -/
theorem row_cells {H : Type} {enc : TypeId × Value → H} {w : World} {base : Nat} {sp : Nat → Bool} {held : Bool} {fuel : Nat} {cs : List Value} {q : List MemPlace} (r : J) (h : DataW.trod enc Tryd.prog w base sp held fuel 83 cs = some (jD r, q)) : cs = (jrow r).toList := by
  obtain ⟨xs, n, _, hx, hl, hlen, hfs⟩ := DataW.trod_struct Tryd.underlying83 h
  rw [cells83] at hl
  obtain ⟨c0, c1, c2, c3, c4, c5, rfl⟩ := list6 hl
  match xs, hlen with
  | [y0, y1, y2, y3, y4], _ =>
    have h0 : DataW.trod enc Tryd.prog w base sp held n 22 [c0] = some y0 := by simpa [cells22] using hfs 0 _ rfl
    have h1 : DataW.trod enc Tryd.prog w base sp held n 81 [c1, c2] = some y1 := by simpa [cells81] using hfs 1 _ rfl
    have h2 : DataW.trod enc Tryd.prog w base sp held n 3 [c3] = some y2 := by simpa [cells3] using hfs 2 _ rfl
    have h3 : DataW.trod enc Tryd.prog w base sp held n 3 [c4] = some y3 := by simpa [cells3] using hfs 3 _ rfl
    have h4 : DataW.trod enc Tryd.prog w base sp held n 3 [c5] = some y4 := by simpa [cells3] using hfs 4 _ rfl
    simp only [jD, Prod.mk.injEq, List.map_cons, List.map_nil, DataW.agg.injEq, List.cons.injEq, and_true] at hx
    obtain ⟨⟨g0, g1, g2, g3, g4⟩, _⟩ := hx
    obtain ⟨z0, z1, m, hy, _, k0, k1⟩ := trod_struct2 Tryd.underlying81 h1
    have k0' : DataW.trod enc Tryd.prog w base sp held m 5 [c1] = some z0 := by simpa [cells5] using k0
    have k1' : DataW.trod enc Tryd.prog w base sp held m 9 [c2] = some z1 := by simpa [cells9] using k1
    rw [hy] at g1
    simp only [DataW.agg.injEq, List.cons.injEq, and_true] at g1
    have f0 : c0 = .int .u8 (r.op : Int) := lit_int Tryd.underlying22 (by rw [g0]; exact h0)
    have f1 : c1 = .int .u8 (r.kind : Int) := lit_int Tryd.underlying5 (by rw [g1.1]; exact k0')
    have f2 : c2 = .string ⟨r.text.data.toList.toArray⟩ := lit_str (by rw [g1.2]; exact k1')
    have f3 : c3 = .int .i64 (r.rank : Int) := lit_int Tryd.underlying3 (by rw [g2]; exact h2)
    have f4 : c4 = .int .i64 (r.first : Int) := lit_int Tryd.underlying3 (by rw [g3]; exact h3)
    have f5 : c5 = .int .i64 (r.second : Int) := lit_int Tryd.underlying3 (by rw [g4]; exact h4)
    rw [f0, f1, f2, f3, f4, f5]
    simp [jrow]
theorem chunk {α : Type} (m : Nat) : ∀ (n : Nat) (cs : List α), cs.length = n * m → (List.range n).flatMap (fun i => (cs.drop (i * m)).take m) = cs
  | 0, cs, h => by
    have : cs = [] := List.eq_nil_of_length_eq_zero (by omega)
    subst this
    rfl
  | n + 1, cs, h => by
    have hnm : (n + 1) * m = n * m + m := Nat.succ_mul n m
    have ih := chunk m n (cs.take (n * m)) (by rw [List.length_take]; omega)
    rw [List.range_succ, List.flatMap_append]
    have e : (List.range n).flatMap (fun i => (cs.drop (i * m)).take m) = (List.range n).flatMap (fun i => ((cs.take (n * m)).drop (i * m)).take m) := by
      have hh : ∀ (l : List Nat), (∀ i ∈ l, i < n) → l.flatMap (fun i => (cs.drop (i * m)).take m) = l.flatMap (fun i => ((cs.take (n * m)).drop (i * m)).take m) := by
        intro l
        induction l with
        | nil => intro _; rfl
        | cons i l ihl =>
          intro hl
          have hi := hl i (List.mem_cons_self ..)
          have him : i * m + m ≤ n * m := by rw [← Nat.succ_mul]; exact Nat.mul_le_mul_right m hi
          rw [List.flatMap_cons, List.flatMap_cons, ihl fun j hj => hl j (List.mem_cons_of_mem _ hj), List.drop_take, List.take_take, Nat.min_eq_left (by omega)]
      exact hh _ fun i hi => List.mem_range.1 hi
    rw [e, ih]
    simp only [List.flatMap_cons, List.flatMap_nil, List.append_nil]
    have hd : (cs.drop (n * m)).take m = cs.drop (n * m) := List.take_of_length_le (by rw [List.length_drop]; omega)
    rw [hd, List.take_append_drop]
set_option maxRecDepth 100000 in
/-- The table's cells. -/
theorem join_cells {H : Type} {enc : TypeId × Value → H} {w : World} {base : Nat} {sp : Nat → Bool} {held : Bool} {fuel : Nat} {cs : List Value} {q : List MemPlace} (h : DataW.trod enc Tryd.prog w base sp held fuel 96 cs = some (.agg (JT.map jD), q)) : cs = joinV.toList := by
  cases fuel with
  | zero => simp [DataW.trod] at h
  | succ fuel =>
    simp only [DataW.trod, Tryd.underlying96, cells83, cells96] at h
    split at h
    · rename_i hl
      obtain ⟨xs, hm, hx⟩ := Option.map_eq_some_iff.1 h
      have hxs : xs.map (·.1) = JT.map jD := by
        have := congrArg Prod.fst hx
        simpa using this
      have hxl : xs.length = 12 := by simpa using Lib.mapM_length hm
      rw [← chunk 6 12 cs (by omega)]
      have hh : ∀ i, i < 12 → (cs.drop (i * 6)).take 6 = (jrow (jR i)).toList := fun i hi => by
        obtain ⟨b, hb, hf⟩ := Lib.mapM_at hm i i (by simp [hi])
        have h1 : (xs.map (·.1))[i]? = some b.1 := by simp [hb]
        rw [hxs, List.getElem?_map] at h1
        have h2 : JT[i]? = some (jR i) := by
          unfold jR
          have : i < JT.length := hi
          rw [List.getD_eq_getElem?_getD, List.getElem?_eq_getElem this]
          rfl
        rw [h2] at h1
        simp only [Option.map_some, Option.some.injEq] at h1
        exact row_cells (jR i) (q := b.2) (by rw [hf, h1])
      have e : (List.range 12).flatMap (fun i => (cs.drop (i * 6)).take 6) = (List.range 12).flatMap (fun i => (jrow (jR i)).toList) := by
        have hh2 : ∀ (l : List Nat), (∀ i ∈ l, i < 12) → l.flatMap (fun i => (cs.drop (i * 6)).take 6) = l.flatMap (fun i => (jrow (jR i)).toList) := by
          intro l
          induction l with
          | nil => intro _; rfl
          | cons i l ihl => intro hl; rw [List.flatMap_cons, List.flatMap_cons, ihl fun j hj => hl j (List.mem_cons_of_mem _ hj), hh i (hl i (List.mem_cons_self ..))]
        exact hh2 _ fun i hi => List.mem_range.1 hi
      rw [e]
      rfl
    · cases h
/-- What the package-level variables hold when a call begins. -/
def laidL : List (String × DataW Unit) := [("math/bits.deBruijn32tab", Rows.laid_math_bits_deBruijn32tab), ("math/bits.deBruijn64tab", Rows.laid_math_bits_deBruijn64tab), ("internal/strconv.uint64pow10", Rows.laid_internal_strconv_uint64pow10), ("belfry/tokens.reserved", Rows.laid_belfry_tokens_reserved), ("belfry/exprs.joins", Rows.laid_belfry_exprs_joins)]
theorem door_met (os : Os) (args : Array Value) : laidMetH Tryd.prog laidL ((World.doorLaid Tryd.prog 101 os).forCall (fun _ _ => 0) ⟨#[], args, []⟩).memory :=
  laidMetH_of_parts3 (fuel := 8) (laidMet_of_run' 8 (by kernel_rfl) (by kernel_rfl)) (by kernel_rfl) (by kernel_rfl)
theorem var_res {w : World} {x : Array Value} (h : w.var? Tryd.prog "belfry/tokens.reserved" = some x) : ∃ t fz, w.heap[3]? = some (.cells x t fz) := by
  unfold World.var? at h
  rw [gRes] at h
  simp only [Option.bind_some] at h
  split at h
  · next cs t fz he => injection h with h; subst h; exact ⟨_, _, he⟩
  · cases h
theorem var_join {w : World} {x : Array Value} (h : w.var? Tryd.prog "belfry/exprs.joins" = some x) : ∃ t fz, w.heap[0]? = some (.cells x t fz) := by
  unfold World.var? at h
  rw [gJoin] at h
  simp only [Option.bind_some] at h
  split at h
  · next cs t fz he => injection h with h; subst h; exact ⟨_, _, he⟩
  · cases h
theorem res_of {W : World} {rest : List (String × DataW Unit)} (h : laidMet Tryd.prog (("belfry/tokens.reserved", Rows.laid_belfry_tokens_reserved) :: rest) W) : TabR W := by
  obtain ⟨ps, ⟨g0, t0, cs0, f0, p0, q0, hg0, ht0, hv0, hd0, _, _⟩, _⟩ := h
  obtain rfl := Option.some.inj (gRes.symm.trans hg0)
  obtain rfl := Option.some.inj (tRes.symm.trans ht0)
  have hd : DataW.trod _ Tryd.prog W 0 _ _ f0 129 cs0.toList = some (.agg (resB.map fun z => .lit (.string z)), p0) := hd0
  have hcs := cells_of_strs Tryd.underlying129 Tryd.underlying9 cells9 cells129 hd
  obtain ⟨t, fz, hb⟩ := var_res hv0
  refine ⟨t, fz, ?_⟩
  rw [hb]
  obtain ⟨l⟩ := cs0
  simp only at hcs
  subst hcs
  rfl
theorem join_of {W : World} {rest : List (String × DataW Unit)} (h : laidMet Tryd.prog (("belfry/exprs.joins", Rows.laid_belfry_exprs_joins) :: rest) W) : TabJ W := by
  obtain ⟨ps, ⟨g0, t0, cs0, f0, p0, q0, hg0, ht0, hv0, hd0, _, _⟩, _⟩ := h
  obtain rfl := Option.some.inj (gJoin.symm.trans hg0)
  obtain rfl := Option.some.inj (tJoin.symm.trans ht0)
  have hd : DataW.trod _ Tryd.prog W 0 _ _ f0 96 cs0.toList = some (.agg (JT.map jD), p0) := hd0
  have hcs := join_cells hd
  obtain ⟨t, fz, hb⟩ := var_join hv0
  refine ⟨t, fz, ?_⟩
  rw [hb]
  obtain ⟨l⟩ := cs0
  simp only at hcs
  subst hcs
  rfl
theorem wid_of_laid {W : World} (h : laidMetH Tryd.prog laidL W) : Env W := by
  rw [MakeChecks.laidMetH_plain _ _ _ (by kernel_rfl)] at h
  have h3 : laidMet Tryd.prog [("internal/strconv.uint64pow10", Rows.laid_internal_strconv_uint64pow10), ("belfry/tokens.reserved", Rows.laid_belfry_tokens_reserved), ("belfry/exprs.joins", Rows.laid_belfry_exprs_joins)] W := h.tail.tail
  exact ⟨res_of h3.tail, join_of h3.tail.tail, Lib.tabIs_of_head (rest := [("belfry/tokens.reserved", Rows.laid_belfry_tokens_reserved), ("belfry/exprs.joins", Rows.laid_belfry_exprs_joins)]) gPow tPow Tryd.underlying123 Tryd.underlying110 cells110 cells123 h3⟩
end Go.Proofs.YtkieljleopbhoaaDoor.Lex
namespace Go.Proofs.YtkieljleopbhoaaDoor.Lex
open Go.ChangeShapes Go.WideShapes Go.ChangeAt Go.RowKit Go.Joins
/-- What a token counts by. -/
structure Mark where
  kind : Nat
  text : ByteArray
/-- The mark of the next token; behind the last one there is one of no kind. -/
def markAt (ts : List Mark) (p : Nat) : Mark := ts.getD p ⟨0, ByteArray.empty⟩
abbrev mkV (m : Mark) : Value := .agg #[.int .u8 (m.kind : Int), .string m.text]
/-- Tokens in memory, from any place of a row on. -/
def MarksAt (w : World) (v : Value) (ts : List Mark) : Prop :=
  ∃ a cap, v = .slice a ts.length cap ∧ (ts.length = 0 ∨ ∃ g o, a = some ⟨g, o, none⟩ ∧ ∀ i (h : i < ts.length), w.cell? ⟨g, o + i * 3, none⟩ = some (.int .u8 (ts[i].kind : Int)) ∧ w.cell? ⟨g, o + i * 3 + 1, none⟩ = some (.string ts[i].text) ∧ ∃ at_ : Int, w.cell? ⟨g, o + i * 3 + 2, none⟩ = some (.int .i64 at_))
/-- The reader, at a place. -/
structure Rdr (r mp : Nat) (v : Value) (ts : List Mark) (p : Nat) (W : World) : Prop where
  cell : W.heap[r]? = some (.cells #[v, .int .i64 (p : Int), .map (some mp)] 71 (0, 0))
  toks : MarksAt W v ts
  le : p ≤ ts.length
  few : ts.length ≤ 140737488355328
  far : ∀ a n c, v = .slice (some a) n c → a.block ≠ r
  own : mp ≠ r
theorem heap_drew {w : World} {b : Nat} {o : Obj} (h : w.heap[b]? = some o) (n : Nat) : (w.drewN n).heap[b]? = some o := h
theorem info81 : (Tryd.prog.info? 81).map (·.size) = some 2 := by kernel_rfl
set_option maxRecDepth 100000 in
set_option maxHeartbeats 1000000 in
/-- peek, behind the last token. -/
theorem peek_end (r mp : Nat) (v : Value) (ts : List Mark) (w : World) (h : Rdr r mp v ts ts.length w) : Calls Tryd.prog 80 #[.pointer (some ⟨r, 0, none⟩)] w fun e w' => e = .returned (.agg #[.int .u8 0, .string ⟨#[]⟩]) ∧ Below w.heap.size w w' := by
  obtain ⟨a, cap, rfl, _⟩ := h.toks
  have hR0 := heap_alloc_new w (.cells #[.int .u8 0, .string ⟨#[]⟩] 81)
  have b1 := (Below.refl w.heap.size w).alloc (Nat.le_refl _) (.cells #[.int .u8 0, .string ⟨#[]⟩] 81)
  have hlt := (Array.getElem?_eq_some_iff.1 h.cell).1
  have hc := (b1.block r hlt).trans h.cell
  have x0 : (w.alloc (.cells #[.int .u8 0, .string ⟨#[]⟩] 81)).cell? ⟨r, 0, none⟩ = some (.slice a ts.length cap) := by rw [cell_of_row _ _ _ _ 71 (0, 0) hc]; rfl
  have x1 : (w.alloc (.cells #[.int .u8 0, .string ⟨#[]⟩] 81)).cell? ⟨r, 1, none⟩ = some (.int .i64 (ts.length : Int)) := by rw [cell_of_row _ _ _ _ 71 (0, 0) hc]; rfl
  have he : ((ts.length : Int) == (ts.length : Int)) = true := by simp
  have B1 := hid b1
  clear h hc b1 hlt
  go_enter Tryd.func80, Tryd.ntmps80
  go_wp2
  go_quiet (fail)
  go_wp2_with (refine wpList_store_row rfl 81 _ _ rfl w.heap.size #[.int .u8 0, .string ⟨#[]⟩] rfl rfl 81 _ (heap_drew hR0 _) info81 rfl (by simp [Value.oneCell']) ?_)
  refine bodyPost_ret (results_cell_row rfl _ _ w.heap.size 81 #[.int .u8 0, .string ⟨#[]⟩] (0, 0) _ rfl (setRow_heap _ _ _ _ _ _ (heap_drew hR0 _)) Tryd.underlying81 rfl info81) rfl ⟨rfl, ?_⟩
  exact below_row (below_drewN B1.out _) (below_drewN B1.out _).size (Nat.le_refl _) _
set_option maxRecDepth 100000 in
set_option maxHeartbeats 1000000 in
/-- peek at a token. -/
theorem peek_at (r mp : Nat) (v : Value) (ts : List Mark) (p : Nat) (hp : p < ts.length) (w : World) (h : Rdr r mp v ts p w) : Calls Tryd.prog 80 #[.pointer (some ⟨r, 0, none⟩)] w fun e w' => e = .returned (mkV ts[p]) ∧ Below w.heap.size w w' := by
  obtain ⟨a, cap, rfl, hm⟩ := h.toks
  obtain ⟨g, o, rfl, hg⟩ := hm.resolve_left (by omega)
  obtain ⟨m0, m1, at_, m2⟩ := hg p hp
  have hR0 := heap_alloc_new w (.cells #[.int .u8 0, .string ⟨#[]⟩] 81)
  have b1 := (Below.refl w.heap.size w).alloc (Nat.le_refl _) (.cells #[.int .u8 0, .string ⟨#[]⟩] 81)
  have hlt := (Array.getElem?_eq_some_iff.1 h.cell).1
  have hc := (b1.block r hlt).trans h.cell
  have x0 : (w.alloc (.cells #[.int .u8 0, .string ⟨#[]⟩] 81)).cell? ⟨r, 0, none⟩ = some (.slice (some ⟨g, o, none⟩) ts.length cap) := by rw [cell_of_row _ _ _ _ 71 (0, 0) hc]; rfl
  have x1 : (w.alloc (.cells #[.int .u8 0, .string ⟨#[]⟩] 81)).cell? ⟨r, 1, none⟩ = some (.int .i64 (p : Int)) := by rw [cell_of_row _ _ _ _ 71 (0, 0) hc]; rfl
  have y0 := cell_kept m0 b1
  have y1 := cell_kept m1 b1
  have y2 := cell_kept m2 b1
  have he : ((p : Int) == (ts.length : Int)) = false := by simp; omega
  have hp' : (p : Int) < (ts.length : Int) := by omega
  have hp0 : (0 : Int) ≤ (p : Int) := by omega
  have hfew := h.few
  have B1 := hid b1
  generalize ts[p] = m at *
  clear h hc b1 hlt hg hm m0 m1 m2
  go_enter Tryd.func80, Tryd.ntmps80
  go_wp2
  go_quiet (fail)
  go_wp2
  have zz : ∀ q v, (w.alloc (.cells #[.int .u8 0, .string ⟨#[]⟩] 81)).cell? q = some v → (((w.alloc (.cells #[.int .u8 0, .string ⟨#[]⟩] 81)).drewN (nq + 1)).alloc (.cells #[.int .u8 0, .string ⟨#[]⟩, .int .i64 0] 45)).cell? q = some v := fun q v h => cell_kept (w := (w.alloc (.cells #[.int .u8 0, .string ⟨#[]⟩] 81)).drewN (nq + 1)) h ((Below.refl _ _).alloc (Nat.le_refl _) _)
  have a0 := zz _ _ x0
  have a1 := zz _ _ x1
  have d0 := zz _ _ y0
  have d1 := zz _ _ y1
  have d2 := zz _ _ y2
  clear zz
  have hR1 : (((w.alloc (.cells #[.int .u8 0, .string ⟨#[]⟩] 81)).drewN (nq + 1)).alloc (.cells #[.int .u8 (m.kind : Int), .string m.text, .int .i64 at_] 45)).heap[w.heap.size]? = some (.cells #[.int .u8 0, .string ⟨#[]⟩] 81 (0, 0)) := by
    rw [Below.heap_alloc _ _ _ (by have := (Array.getElem?_eq_some_iff.1 hR0).1; exact this)]; exact hR0
  have B2 := hid (bstep (below_drewN B1.out (nq + 1)) ((Below.refl _ _).alloc (Nat.le_refl _) (.cells #[.int .u8 (m.kind : Int), .string m.text, .int .i64 at_] 45)))
  go_region
  go_wp2_with (refine wpList_store_row rfl 81 _ _ rfl w.heap.size #[.int .u8 (m.kind : Int), .string m.text] rfl rfl 81 _ hR1 info81 rfl (by simp [Value.oneCell']) ?_)
  refine bodyPost_ret (results_cell_row rfl _ _ w.heap.size 81 #[.int .u8 (m.kind : Int), .string m.text] (0, 0) _ rfl (setRow_heap _ _ _ _ _ _ hR1) Tryd.underlying81 rfl info81) rfl ⟨rfl, ?_⟩
  exact below_row B2.out B2.out.size (Nat.le_refl _) _
/-- peek. -/
theorem peek (r mp : Nat) (v : Value) (ts : List Mark) (p : Nat) (w : World) (h : Rdr r mp v ts p w) : Calls Tryd.prog 80 #[.pointer (some ⟨r, 0, none⟩)] w fun e w' => e = .returned (mkV (markAt ts p)) ∧ Below w.heap.size w w' := by
  by_cases hp : p < ts.length
  · have e : markAt ts p = ts[p] := by unfold markAt; rw [List.getD_eq_getElem?_getD, List.getElem?_eq_getElem hp]; rfl
    rw [e]
    exact peek_at r mp v ts p hp w h
  · have hl := h.le
    obtain rfl : p = ts.length := by omega
    have e : markAt ts ts.length = ⟨0, ByteArray.empty⟩ := by unfold markAt; rw [List.getD_eq_getElem?_getD, List.getElem?_eq_none (Nat.le_refl _)]; rfl
    rw [e]
    exact peek_end r mp v ts w h
end Go.Proofs.YtkieljleopbhoaaDoor.Lex
namespace Go.Proofs.YtkieljleopbhoaaDoor.Lex
open Go.ChangeShapes Go.WideShapes Go.ChangeAt Go.RowKit Go.Joins
/-- Are a row's token and a mark the same? -/
def jIs (r : J) (m : Mark) : Bool := r.kind == m.kind && r.text.toList == m.text.toList
def jAt (m : Mark) : Option J := JT.find? fun r => jIs r m
theorem jAt_some {m : Mark} (k : Nat) (hk : k < 12) (h : ∀ j, j < k → jIs (jR j) m = false) (he : jIs (jR k) m = true) : jAt m = some (jR k) := by
  unfold jAt
  rw [List.find?_eq_some_iff_getElem]
  have hget : ∀ j (hj : j < JT.length), JT[j]'hj = jR j := fun j hj => by unfold jR; rw [List.getD_eq_getElem?_getD, List.getElem?_eq_getElem hj]; rfl
  have hk' : k < JT.length := hk
  refine ⟨he, k, hk', hget k hk', fun j hj => ?_⟩
  have e := hget j (by omega)
  have hn := h j hj
  rw [← e] at hn
  rw [hn]
  rfl
theorem jAt_none {m : Mark} (h : ∀ j, j < 12 → jIs (jR j) m = false) : jAt m = none := by
  unfold jAt
  rw [List.find?_eq_none]
  intro r hr
  obtain ⟨j, hj, e⟩ := List.getElem_of_mem hr
  have := h j hj
  unfold jR at this
  rw [List.getD_eq_getElem?_getD, List.getElem?_eq_getElem hj, e] at this
  simp only [Option.getD_some] at this
  rw [this]
  simp
def jAtOut (m : Mark) : Array Value := jrow ((jAt m).getD j0)
set_option maxRecDepth 100000 in
set_option maxHeartbeats 1000000 in
theorem joinAt (m : Mark) (w : World) (hT : TabJ w) : Calls Tryd.prog 85 #[mkV m] w fun e w' => e = .returned (.tuple #[.agg (jAtOut m), .bool (jAt m).isSome]) ∧ Below w.heap.size w w' := by
  obtain ⟨w0, hw0⟩ : ∃ w0, w0 = w.alloc (.cells #[.int .u8 (m.kind : Int), .string m.text] 81) := ⟨_, rfl⟩
  obtain ⟨w1, hw1⟩ : ∃ w1, w1 = w0.alloc (.cells (jrow j0) 83) := ⟨_, rfl⟩
  have hs0 : w0.heap.size = w.heap.size + 1 := by rw [hw0]; simp
  have hb0 : Below w.heap.size w w0 := by rw [hw0]; exact (Below.refl _ _).alloc (Nat.le_refl _) _
  have hb1' : Below w0.heap.size w0 w1 := by rw [hw1]; exact (Below.refl _ _).alloc (Nat.le_refl _) _
  have hb1 := bstep hb0 hb1'
  have hR1 : w1.heap[w.heap.size + 1]? = some (.cells (jrow j0) 83 (0, 0)) := by rw [hw1, ← hs0]; exact heap_alloc_new w0 _
  have hm1 : w1.heap[w.heap.size]? = some (.cells #[.int .u8 (m.kind : Int), .string m.text] 81 (0, 0)) := by
    rw [hb1'.block _ (by rw [hs0]; omega), hw0]; exact heap_alloc_new w _
  obtain ⟨t, fz, h0⟩ := hT.below hb1
  have HR := hid hR1
  have HM := hid hm1
  have HB := hid hb1
  clear hT hR1 hb1 hb0 hb1' hm1
  go_enter Tryd.func85, Tryd.ntmps85
  go_wp2_with (refine wpList_load_row rfl 96 _ rfl 0 rfl t joinV fz _ (by first | exact h0 | (rw [hw1, hw0] at h0; exact h0)) Tryd.underlying96 rfl (by kernel_rfl) ?_)
  go_loopw [7] (fun i wr => ∃ k : Nat, k ≤ 12 ∧ i = .int .i64 (k : Int) ∧ Hid (∀ j, j < k → jIs (jR j) m = false) ∧ Hid (Below w1.heap.size w1 wr)) (fun i _ => 12 - (intOf i).toNat)
  case atStart => exact ⟨0, by omega, rfl, fun j hj => by omega, by rw [hw1, hw0]; exact Below.refl _ _⟩
  case round =>
    obtain ⟨k, hk, rfl, hall, hB⟩ := hrel
    have hmr := (hB.out.block _ (Array.getElem?_eq_some_iff.1 HM.out).1).trans HM.out
    have q0 : wr.cell? ⟨w.heap.size, 0, none⟩ = some (.int .u8 (m.kind : Int)) := by rw [cell_of_row _ _ _ _ 81 (0, 0) hmr]; rfl
    have q1 : wr.cell? ⟨w.heap.size, 1, none⟩ = some (.string m.text) := by rw [cell_of_row _ _ _ _ 81 (0, 0) hmr]; rfl
    have qq := fun (C : Obj) => cell_kept q0 ((Below.refl wr.heap.size wr).alloc (Nat.le_refl _) C)
    have qr := fun (C : Obj) => cell_kept q1 ((Below.refl wr.heap.size wr).alloc (Nat.le_refl _) C)
    by_cases hlt : k < 12
    · have hlt' : (k : Int) < 12 := by omega
      have hx := fun W => j_index k hlt W
      unfold jrow at hx
      have y0 := qq (.cells (jrow (jR k)) 83)
      have y1 := qr (.cells (jrow (jR k)) 83)
      unfold jrow at y0 y1
      generalize hv : joinV = V at hx ⊢
      clear hv h0 hw1 hw0 qq qr q0 q1 hmr
      cases he : jIs (jR k) m
      · have Hnew : Hid (∀ j, j < k + 1 → jIs (jR j) m = false) := fun j hj => by
          by_cases e : j = k
          · rw [e]; exact he
          · exact hall.out j (by omega)
        have hsplit : (¬ (jR k).kind = m.kind) ∨ ((jR k).kind = m.kind ∧ ((jR k).text.toList == m.text.toList) = false) := by
          unfold jIs at he
          by_cases h : (jR k).kind = m.kind
          · right
            refine ⟨h, ?_⟩
            rw [h] at he
            simpa using he
          · exact .inl h
        clear hall he
        generalize (jR k).kind = K at *
        generalize (jR k).text = T at *
        rcases hsplit with h | ⟨rfl, h⟩
        · have h1 : ((K : Int) == (m.kind : Int)) = false := neN h
          go_wp2
          go_roundw
          case rel => exact ⟨k + 1, by omega, by go_num, Hnew, bstep hB.out ((Below.refl _ _).alloc (Nat.le_refl _) _)⟩
          case measure => simp [intOf]; omega
        · have h1 : ((m.kind : Int) == (m.kind : Int)) = true := by simp
          go_wp2
          go_roundw
          case rel => exact ⟨k + 1, by omega, by go_num, Hnew, bstep hB.out ((Below.refl _ _).alloc (Nat.le_refl _) _)⟩
          case measure => simp [intOf]; omega
      · have Hr : Hid (jAt m = some (jR k)) := jAt_some k hlt hall.out he
        have hboth : (jR k).kind = m.kind ∧ ((jR k).text.toList == m.text.toList) = true := by
          unfold jIs at he
          simpa using he
        have hRr : (wr.alloc (.cells (jrow (jR k)) 83)).heap[w.heap.size + 1]? = some (.cells (jrow j0) 83 (0, 0)) := by
          have hb := bstep hB.out ((Below.refl wr.heap.size wr).alloc (Nat.le_refl _) (.cells (jrow (jR k)) 83))
          exact (hb.block _ (Array.getElem?_eq_some_iff.1 HR.out).1).trans HR.out
        unfold jrow at hRr
        clear hall he
        obtain ⟨e1, e2⟩ := hboth
        have h1 : (((jR k).kind : Int) == (m.kind : Int)) = true := eqN e1
        clear e1
        go_wp2_with (refine wpList_store_row rfl 83 _ _ rfl (w.heap.size + 1) (jrow (jR k)) rfl rfl 83 _ hRr info83 rfl (by simp [Value.oneCell', jrow]) ?_)
        refine bodyPost_ret (results_row_tmp rfl _ _ (w.heap.size + 1) (jrow (jR k)) rfl (run_loadVar_row _ _ 83 83 (jrow (jR k)) (0, 0) _ (setRow_heap _ _ _ _ _ _ hRr) Tryd.underlying83 rfl info83)) rfl ⟨?_, ?_⟩
        · rw [jAtOut, Hr.out]; rfl
        · exact below_row (bstep (bstep HB.out hB.out) ((Below.refl _ _).alloc (Nat.le_refl _) _)) (by have := HB.out.size; have := hB.out.size; simp; omega) (by omega) _
    · have hlt' : ¬ (k : Int) < 12 := by omega
      have Hr : Hid (jAt m = none) := jAt_none fun j hj => hall.out j (by omega)
      have hRr : wr.heap[w.heap.size + 1]? = some (.cells (jrow j0) 83 (0, 0)) := (hB.out.block _ (Array.getElem?_eq_some_iff.1 HR.out).1).trans HR.out
      unfold jrow at hRr
      clear hall h0 hw1 hw0 qq qr q0 q1 hmr
      go_wp2_with (refine wpList_store_row rfl 83 _ _ rfl (w.heap.size + 1) (jrow j0) rfl rfl 83 _ hRr info83 rfl (by simp [Value.oneCell', jrow]) ?_)
      refine bodyPost_ret (results_row_tmp rfl _ _ (w.heap.size + 1) (jrow j0) rfl (run_loadVar_row _ _ 83 83 (jrow j0) (0, 0) _ (setRow_heap _ _ _ _ _ _ hRr) Tryd.underlying83 rfl info83)) rfl ⟨?_, ?_⟩
      · rw [jAtOut, Hr.out]; rfl
      · exact below_row (bstep HB.out hB.out) (by have := HB.out.size; have := hB.out.size; omega) (by omega) _
end Go.Proofs.YtkieljleopbhoaaDoor.Lex
namespace Go.Proofs.YtkieljleopbhoaaDoor.Lex
open Go.ChangeShapes Go.WideShapes Go.ChangeAt Go.RowKit Go.Joins
theorem MarksAt.carry {w w' : World} {v : Value} {ts : List Mark} (h : MarksAt w v ts) (hb : ∀ a n c, v = .slice (some a) n c → a.block < w.heap.size → w'.heap[a.block]? = w.heap[a.block]?) : MarksAt w' v ts := by
  obtain ⟨a, cap, rfl, hc⟩ := h
  refine ⟨a, cap, rfl, ?_⟩
  rcases hc with h0 | ⟨g, o, rfl, hc⟩
  · exact .inl h0
  · refine .inr ⟨g, o, rfl, fun i hi => ?_⟩
    obtain ⟨m0, m1, at_, m2⟩ := hc i hi
    have hlt : g < w.heap.size := World.block_lt_of_cell? w ⟨g, o + i * 3, none⟩ m0
    have hk : ∀ {q x}, w.cell? ⟨g, q, none⟩ = some x → w'.cell? ⟨g, q, none⟩ = some x := fun {q x} hx => by
      rw [World.cell?_of_block (w := w) (a := ⟨g, q, none⟩) (hb ⟨g, o, none⟩ _ _ rfl hlt)]
      exact hx
    exact ⟨hk m0, hk m1, at_, hk m2⟩
theorem Rdr.step {r mp : Nat} {v : Value} {ts : List Mark} {p : Nat} {w w' : World} (h : Rdr r mp v ts p w) (hb : Below w.heap.size w w') : Rdr r mp v ts p w' :=
  ⟨(hb.block r (Array.getElem?_eq_some_iff.1 h.cell).1).trans h.cell, h.toks.carry fun a _ _ _ hlt => hb.block a.block hlt, h.le, h.few, h.far, h.own⟩
theorem set_same' {w : World} {b : Nat} {c : Array Value} {t : TypeId} {f : Nat × Nat} (h : w.heap[b]? = some (.cells c t f)) (i : Nat) (u : Value) : (w.setCell ⟨b, i, none⟩ u).heap[b]? = some (.cells (c.setIfInBounds i u) t f) := by
  obtain ⟨hlt, hk⟩ := Array.getElem?_eq_some_iff.1 h
  show (w.heap.modify b _)[b]? = _
  rw [Array.getElem?_eq_getElem (by rw [Array.size_modify]; exact hlt), Array.getElem_modify_self, hk]
  rfl
/-- The reader goes to another place. -/
theorem Rdr.move {r mp : Nat} {v : Value} {ts : List Mark} {p : Nat} {w : World} (h : Rdr r mp v ts p w) (q : Nat) (hq : q ≤ ts.length) : Rdr r mp v ts q (w.setCell ⟨r, 1, none⟩ (.int .i64 (q : Int))) :=
  ⟨set_same' h.cell 1 _, h.toks.carry fun a n c e _ => Below.heap_setCell w ⟨r, 1, none⟩ _ a.block (h.far a n c e), hq, h.few, h.far, h.own⟩
end Go.Proofs.YtkieljleopbhoaaDoor.Lex
namespace Go.Proofs.YtkieljleopbhoaaDoor.Lex
open Go.ChangeShapes Go.WideShapes Go.ChangeAt Go.RowKit Go.Joins
/-- It stands in memory, in blocks that are so, looked at so deep. -/
def StPN (ok : Nat → Prop) (w : World) : Nat → Ex → Value → Prop
  | 0, _, _ => False
  | k + 1, x, s => ∃ (ao : Option Addr) (cap : Nat) (sl : Nat → Value), s = .slice ao x.args.length cap ∧ x.op < 256 ∧ (-9223372036854775808 ≤ x.n ∧ x.n ≤ 9223372036854775807) ∧ x.name.size ≤ 140737488355328 ∧ x.args.length ≤ 2513169434843 ∧ x.args.length ≤ cap ∧
    (x.args.length = 0 ∨ ∃ b o, ao = some ⟨b, o, none⟩ ∧ ok b ∧ ∀ i (h : i < x.args.length), w.cell? ⟨b, o + i * 4, none⟩ = some (.int .u8 (x.args[i].op : Int)) ∧ w.cell? ⟨b, o + i * 4 + 1, none⟩ = some (.int .i64 x.args[i].n) ∧
        w.cell? ⟨b, o + i * 4 + 2, none⟩ = some (.string x.args[i].name) ∧ w.cell? ⟨b, o + i * 4 + 3, none⟩ = some (sl i)) ∧ ∀ i (h : i < x.args.length), StPN ok w k x.args[i] (sl i)
theorem StPN.up {ok : Nat → Prop} {w : World} : ∀ (k' k : Nat) (x : Ex) (s : Value), StPN ok w k x s → SizeOf.sizeOf x ≤ k' → StPN ok w k' x s
  | 0, k, x, s, _, hs => by have := x.pos; omega
  | k' + 1, 0, x, s, h, _ => h.elim
  | k' + 1, k + 1, x, s, h, hs => by
    obtain ⟨ao, cap, sl, h1, h2, h3, h4, h5, h6, h7, h8⟩ := h
    exact ⟨ao, cap, sl, h1, h2, h3, h4, h5, h6, h7, fun i hi => StPN.up k' k _ _ (h8 i hi) (by have := x.part_lt i hi; omega)⟩
/-- It stands in memory, in blocks that are so. -/
def StP (ok : Nat → Prop) (w : World) (x : Ex) (s : Value) : Prop := StPN ok w (SizeOf.sizeOf x) x s
theorem StP.intro {ok : Nat → Prop} {w : World} (x : Ex) (ao : Option Addr) (cap : Nat) (sl : Nat → Value) (hop : x.op < 256) (hn : -9223372036854775808 ≤ x.n ∧ x.n ≤ 9223372036854775807) (hnm : x.name.size ≤ 140737488355328) (hlen : x.args.length ≤ 2513169434843) (hcap : x.args.length ≤ cap)
      (hc : x.args.length = 0 ∨ ∃ b o, ao = some ⟨b, o, none⟩ ∧ ok b ∧ ∀ i (h : i < x.args.length), w.cell? ⟨b, o + i * 4, none⟩ = some (.int .u8 (x.args[i].op : Int)) ∧ w.cell? ⟨b, o + i * 4 + 1, none⟩ = some (.int .i64 x.args[i].n) ∧
        w.cell? ⟨b, o + i * 4 + 2, none⟩ = some (.string x.args[i].name) ∧ w.cell? ⟨b, o + i * 4 + 3, none⟩ = some (sl i))
      (hs : ∀ i (h : i < x.args.length), StP ok w x.args[i] (sl i)) : StP ok w x (.slice ao x.args.length cap) := by
  unfold StP
  obtain ⟨m, hm⟩ : ∃ m, SizeOf.sizeOf x = m + 1 := ⟨SizeOf.sizeOf x - 1, by have := x.pos; omega⟩
  rw [hm]
  exact ⟨ao, cap, sl, rfl, hop, hn, hnm, hlen, hcap, hc, fun i hi => StPN.up m _ _ _ (hs i hi) (by have := x.part_lt i hi; omega)⟩
theorem StP.out {ok : Nat → Prop} {w : World} {x : Ex} {s : Value} (h : StP ok w x s) : ∃ (ao : Option Addr) (cap : Nat) (sl : Nat → Value), s = .slice ao x.args.length cap ∧ x.op < 256 ∧ (-9223372036854775808 ≤ x.n ∧ x.n ≤ 9223372036854775807) ∧ x.name.size ≤ 140737488355328 ∧ x.args.length ≤ 2513169434843 ∧ x.args.length ≤ cap ∧
    (x.args.length = 0 ∨ ∃ b o, ao = some ⟨b, o, none⟩ ∧ ok b ∧ ∀ i (h : i < x.args.length), w.cell? ⟨b, o + i * 4, none⟩ = some (.int .u8 (x.args[i].op : Int)) ∧ w.cell? ⟨b, o + i * 4 + 1, none⟩ = some (.int .i64 x.args[i].n) ∧
        w.cell? ⟨b, o + i * 4 + 2, none⟩ = some (.string x.args[i].name) ∧ w.cell? ⟨b, o + i * 4 + 3, none⟩ = some (sl i)) ∧ ∀ i (h : i < x.args.length), StP ok w x.args[i] (sl i) := by
  unfold StP at h
  obtain ⟨m, hm⟩ : ∃ m, SizeOf.sizeOf x = m + 1 := ⟨SizeOf.sizeOf x - 1, by have := x.pos; omega⟩
  rw [hm] at h
  obtain ⟨ao, cap, sl, h1, h2, h3, h4, h5, h6, h7, h8⟩ := h
  exact ⟨ao, cap, sl, h1, h2, h3, h4, h5, h6, h7, fun i hi => StPN.up _ m _ _ (h8 i hi) (Nat.le_refl _)⟩
theorem StP.carryN {ok ok' : Nat → Prop} {w w' : World} (hb : ∀ b, ok b → b < w.heap.size → w'.heap[b]? = w.heap[b]?) (ho : ∀ b, b < w.heap.size → ok b → ok' b) : ∀ (m : Nat) (x : Ex) (s : Value), SizeOf.sizeOf x ≤ m → StP ok w x s → StP ok' w' x s
  | 0, x, s, hm, _ => by have := x.pos; omega
  | m + 1, x, s, hm, h => by
    obtain ⟨ao, cap, sl, rfl, hop, hn, hnm, hlen, hcap, hc, hs⟩ := h.out
    refine StP.intro x ao cap sl hop hn hnm hlen hcap ?_ (fun i hi => StP.carryN hb ho m _ _ (by have := x.part_lt i hi; omega) (hs i hi))
    by_cases h00 : x.args.length = 0
    · exact .inl h00
    · obtain ⟨b, o, ha, hok, hc⟩ := hc.resolve_left h00
      have hlt : b < w.heap.size := World.block_lt_of_cell? w ⟨b, o + 0 * 4, none⟩ (hc 0 (by omega)).1
      have hk : ∀ {q v}, w.cell? ⟨b, q, none⟩ = some v → w'.cell? ⟨b, q, none⟩ = some v := fun {q v} h => by
        rw [World.cell?_of_block (w := w) (a := ⟨b, q, none⟩) (hb b hok hlt)]
        exact h
      refine .inr ⟨b, o, ha, ho b hlt hok, fun i hi => ?_⟩
      obtain ⟨h0, h1, h2, h3⟩ := hc i hi
      exact ⟨hk h0, hk h1, hk h2, hk h3⟩
theorem StP.carry {ok : Nat → Prop} {w w' : World} {x : Ex} {s : Value} (h : StP ok w x s) (hb : ∀ b, ok b → b < w.heap.size → w'.heap[b]? = w.heap[b]?) : StP ok w' x s := StP.carryN hb (fun _ _ h => h) _ x s (Nat.le_refl _) h
theorem StP.stN {ok : Nat → Prop} {w : World} : ∀ (m : Nat) (x : Ex) (s : Value), SizeOf.sizeOf x ≤ m → StP ok w x s → St w x s
  | 0, x, s, hm, _ => by have := x.pos; omega
  | m + 1, x, s, hm, h => by
    obtain ⟨ao, cap, sl, rfl, hop, hn, hnm, hlen, hcap, hc, hs⟩ := h.out
    refine St.intro x ao cap sl hop hn hnm hlen hcap ?_ (fun i hi => StP.stN m _ _ (by have := x.part_lt i hi; omega) (hs i hi))
    rcases hc with h0 | ⟨b, o, ha, _, hc⟩
    · exact .inl h0
    · exact .inr ⟨b, o, ha, hc⟩
theorem StP.st {ok : Nat → Prop} {w : World} {x : Ex} {s : Value} (h : StP ok w x s) : St w x s := StP.stN _ x s (Nat.le_refl _) h
/-- What has no parts stands anywhere. -/
theorem StP.leaf {ok : Nat → Prop} {w : World} (op : Nat) (n : Int) (nm : ByteArray) (hop : op < 256) (hn : -9223372036854775808 ≤ n ∧ n ≤ 9223372036854775807) (hnm : nm.size ≤ 140737488355328) : StP ok w ⟨op, n, nm, []⟩ (.slice none 0 0) :=
  StP.intro ⟨op, n, nm, []⟩ none 0 (fun _ => .slice none 0 0) hop hn hnm (Nat.zero_le _) (Nat.le_refl _) (.inl rfl) (fun i hi => by cases hi)
end Go.Proofs.YtkieljleopbhoaaDoor.Lex
namespace Go.Proofs.YtkieljleopbhoaaDoor.Lex
open Go.ChangeShapes Go.WideShapes Go.ChangeAt Go.RowKit Go.Joins
/-- What reading answers: it, and the place behind it; or an error, and its place. -/
abbrev Res := Except (Nat × Nat) (Ex × Nat)
/-- A panic with an error of the language. -/
abbrev panicE (e : Nat) : Ending := .panicked [{ v := .iface 28 (.int .i64 (e : Int)), recovered := false }]
/-- A step of the reader: nothing but its own place is written; what is read lies elsewhere. -/
def Post (r mp : Nat) (v : Value) (ts : List Mark) (w : World) (res : Res) (e : Ending) (w' : World) : Prop :=
  w.grownBy w' (some r) ∧ match res with
    | .ok (x, q) => ∃ s, e = .returned (exV x s) ∧ StP (fun b => w.heap.size ≤ b) w' x s ∧ Rdr r mp v ts q w'
    | .error (n, q) => e = panicE n ∧ Rdr r mp v ts q w'
theorem Rdr.at1 {r mp : Nat} {v : Value} {ts : List Mark} {p : Nat} {w : World} (h : Rdr r mp v ts p w) : w.cell? ⟨r, 1, none⟩ = some (.int .i64 (p : Int)) ∧ w.frozen? ⟨r, 1, none⟩ = false :=
  ⟨by rw [cell_of_row _ _ _ _ 71 (0, 0) h.cell]; rfl, frozen_of_row _ _ _ _ _ h.cell⟩
theorem Rdr.lt {r mp : Nat} {v : Value} {ts : List Mark} {p : Nat} {w : World} (h : Rdr r mp v ts p w) : r < w.heap.size := (Array.getElem?_eq_some_iff.1 h.cell).1
/-- Behind a box, a step of the place, and a value in the box. -/
theorem stepped {r mp : Nat} {v : Value} {ts : List Mark} {p : Nat} {w : World} (h : Rdr r mp v ts p w) (hp : p < ts.length) (c d : Array Value) (t : TypeId) :
    ∃ W1, (w.alloc (.cells c t)).setCell ⟨r, 1, none⟩ (.int .i64 ((p : Int) + 1)) = W1 ∧ W1.heap[w.heap.size]? = some (.cells c t (0, 0)) ∧ (w.alloc (.cells c t)).cell? ⟨r, 1, none⟩ = some (.int .i64 (p : Int)) ∧ (w.alloc (.cells c t)).frozen? ⟨r, 1, none⟩ = false ∧
      w.grownBy (W1.setRow w.heap.size d) (some r) ∧ Rdr r mp v ts (p + 1) (W1.setRow w.heap.size d) := by
  have hb := (Below.refl w.heap.size w).alloc (Nat.le_refl _) (.cells c t)
  have h1 := h.step hb
  have h2 := h1.move (p + 1) (by omega)
  have hlt := h.lt
  have hne : w.heap.size ≠ r := by omega
  refine ⟨_, rfl, ?_, h1.at1.1, h1.at1.2, ?_, ?_⟩
  · rw [Below.heap_setCell _ _ _ _ hne]; exact heap_alloc_new w _
  · refine ⟨rfl, rfl, rfl, by simp [World.setRow, World.setCell], fun k hk hkr => ?_⟩
    have hkr' : k ≠ r := fun e => hkr (by rw [e])
    rw [setRow_other _ _ _ _ (by omega), Below.heap_setCell _ _ _ _ hkr', Below.heap_alloc _ _ _ hk]
  · have e : ((p : Int) + 1) = ((p + 1 : Nat) : Int) := by omega
    rw [e]
    have hfar : ∀ k, k ≠ w.heap.size → (((w.alloc (.cells c t)).setCell ⟨r, 1, none⟩ (.int .i64 ((p + 1 : Nat) : Int))).setRow w.heap.size d).heap[k]? = ((w.alloc (.cells c t)).setCell ⟨r, 1, none⟩ (.int .i64 ((p + 1 : Nat) : Int))).heap[k]? := fun k hk => setRow_other _ _ _ _ hk
    refine ⟨(hfar r (by omega)).trans h2.cell, ?_, h2.le, h2.few, h2.far, h2.own⟩
    obtain ⟨a, cap, rfl, hc⟩ := h.toks
    refine h2.toks.carry fun a' n c' ev hl => hfar a'.block ?_
    intro he
    injection ev with e1 e2 e3
    rcases hc with h0 | ⟨g, o, hg, hcc⟩
    · have := h.le; omega
    · rw [hg] at e1
      injection e1 with e1
      have hlt2 : g < w.heap.size := World.block_lt_of_cell? w ⟨g, o + 0 * 3, none⟩ (hcc 0 (by omega)).1
      rw [← e1] at he
      simp only at he
      omega
set_option maxRecDepth 100000 in
set_option maxHeartbeats 1000000 in
theorem yes_at (r mp : Nat) (v : Value) (ts : List Mark) (p : Nat) (w : World) (h : Rdr r mp v ts p w) (hp : p < ts.length) : Calls Tryd.prog 56 #[.pointer (some ⟨r, 0, none⟩)] w (Post r mp v ts w (.ok (⟨2, 1, ByteArray.empty, []⟩, p + 1))) := by
  obtain ⟨W1, hW1, hbx, y0, y1, hg, hr⟩ := stepped h hp #[.int .u8 0, .int .i64 0, .string ⟨#[]⟩, .slice none 0 0] #[.int .u8 2, .int .i64 1, .string ⟨#[]⟩, .slice none 0 0] 25
  have hfew : (p : Int) < 140737488355328 := by have := h.few; omega
  have HG := hid hg
  have HR := hid hr
  clear h hp hg hr
  go_enter Tryd.func56, Tryd.ntmps56
  go_wp2_with (refine wpList_store_row rfl 25 _ _ rfl w.heap.size #[.int .u8 2, .int .i64 1, .string ⟨#[]⟩, .slice none 0 0] rfl rfl 25 _ hbx info25 rfl (by simp [Value.oneCell']) ?_)
  refine bodyPost_ret (results_cell_row rfl _ _ w.heap.size 25 #[.int .u8 2, .int .i64 1, .string ⟨#[]⟩, .slice none 0 0] (0, 0) _ rfl (setRow_heap _ _ _ _ _ _ hbx) Tryd.underlying25 rfl info25) rfl ⟨HG.out, _, rfl, ?_, HR.out⟩
  exact StP.leaf 2 1 _ (by omega) (by omega) (by decide)
end Go.Proofs.YtkieljleopbhoaaDoor.Lex
namespace Go.Proofs.YtkieljleopbhoaaDoor.Lex
open Go.ChangeShapes Go.WideShapes Go.ChangeAt Go.RowKit Go.Joins
set_option maxRecDepth 100000 in
set_option maxHeartbeats 1000000 in
theorem no_at (r mp : Nat) (v : Value) (ts : List Mark) (p : Nat) (w : World) (h : Rdr r mp v ts p w) (hp : p < ts.length) : Calls Tryd.prog 57 #[.pointer (some ⟨r, 0, none⟩)] w (Post r mp v ts w (.ok (⟨2, 0, ByteArray.empty, []⟩, p + 1))) := by
  obtain ⟨W1, hW1, hbx, y0, y1, hg, hr⟩ := stepped h hp #[.int .u8 0, .int .i64 0, .string ⟨#[]⟩, .slice none 0 0] #[.int .u8 2, .int .i64 0, .string ⟨#[]⟩, .slice none 0 0] 25
  have hfew : (p : Int) < 140737488355328 := by have := h.few; omega
  have HG := hid hg
  have HR := hid hr
  clear h hp hg hr
  go_enter Tryd.func57, Tryd.ntmps57
  go_wp2_with (refine wpList_store_row rfl 25 _ _ rfl w.heap.size #[.int .u8 2, .int .i64 0, .string ⟨#[]⟩, .slice none 0 0] rfl rfl 25 _ hbx info25 rfl (by simp [Value.oneCell']) ?_)
  refine bodyPost_ret (results_cell_row rfl _ _ w.heap.size 25 #[.int .u8 2, .int .i64 0, .string ⟨#[]⟩, .slice none 0 0] (0, 0) _ rfl (setRow_heap _ _ _ _ _ _ hbx) Tryd.underlying25 rfl info25) rfl ⟨HG.out, _, rfl, ?_, HR.out⟩
  exact StP.leaf 2 0 _ (by omega) (by omega) (by decide)
/-- Is a mark this kind and text? -/
def isMk (m : Mark) (kind : Nat) (text : ByteArray) : Bool := m.kind == kind && m.text.toList == text.toList
theorem isMk_no {m : Mark} {kind : Nat} {text : ByteArray} (h : isMk m kind text = false) : (¬ (m.kind : Int) = (kind : Int)) ∨ ((m.kind : Int) = (kind : Int) ∧ ¬ m.text.toList = text.toList) := by
  unfold isMk at h
  by_cases e : m.kind = kind
  · refine .inr ⟨by omega, ?_⟩
    rw [e] at h
    simpa using h
  · exact .inl (by omega)
theorem isMk_yes {m : Mark} {kind : Nat} {text : ByteArray} (h : isMk m kind text = true) : (m.kind : Int) = (kind : Int) ∧ m.text.toList = text.toList := by
  unfold isMk at h
  have := h
  simp at this
  exact ⟨by omega, this.2⟩
set_option maxRecDepth 100000 in
set_option maxHeartbeats 1000000 in
theorem pass_bad (kind : Nat) (text : ByteArray) (r mp : Nat) (v : Value) (ts : List Mark) (p : Nat) (w : World) (h : Rdr r mp v ts p w) (hm : isMk (markAt ts p) kind text = false) : Calls Tryd.prog 82 #[.pointer (some ⟨r, 0, none⟩), .int .u8 (kind : Int), .string text] w fun e w' => e = panicE 5 ∧ Below w.heap.size w w' := by
  have c := peek r mp v ts p w h
  generalize markAt ts p = m at *
  clear h
  rcases isMk_no hm with h1 | ⟨h1, h2⟩ <;> clear hm
  · go_enter Tryd.func82, Tryd.ntmps82
    go_wp2_with (go_at_call 80; refine c.mono ?_; rintro e w2 ⟨rfl, b2⟩; have B2 := hid b2; clear b2 c)
    exact ⟨rfl, rfl, B2.out⟩
  · go_enter Tryd.func82, Tryd.ntmps82
    go_wp2_with (go_at_call 80; refine c.mono ?_; rintro e w2 ⟨rfl, b2⟩; have B2 := hid b2; clear b2 c)
    exact ⟨rfl, rfl, B2.out⟩
/-- The place goes on by one. -/
theorem moved {r mp : Nat} {v : Value} {ts : List Mark} {p : Nat} {w : World} (h : Rdr r mp v ts p w) (hp : p < ts.length) : w.cell? ⟨r, 1, none⟩ = some (.int .i64 (p : Int)) ∧ w.frozen? ⟨r, 1, none⟩ = false ∧ w.grownBy (w.setCell ⟨r, 1, none⟩ (.int .i64 ((p : Int) + 1))) (some r) ∧ Rdr r mp v ts (p + 1) (w.setCell ⟨r, 1, none⟩ (.int .i64 ((p : Int) + 1))) := by
  have h2 := h.move (p + 1) (by omega)
  refine ⟨h.at1.1, h.at1.2, ⟨rfl, rfl, rfl, by simp [World.setCell], fun k hk hkr => ?_⟩, h2⟩
  have hkr' : k ≠ r := fun e => hkr (by rw [e])
  rw [Below.heap_setCell _ _ _ _ hkr']
theorem grown_below {w w1 : World} (h : Below w.heap.size w w1) (r : Option Nat) : w.grownBy w1 r := ⟨h.os, h.tape, h.output, h.size, fun k hk _ => h.block k hk⟩
theorem grown_on {a b c : World} {r : Option Nat} (h : a.grownBy b r) (k : b.grownBy c r) : a.grownBy c r :=
  ⟨k.os.trans h.os, k.tape.trans h.tape, k.output.trans h.output, Nat.le_trans h.size k.size, fun i hi hr => (k.block i (Nat.lt_of_lt_of_le hi h.size) hr).trans (h.block i hi hr)⟩
theorem markAt_lt {ts : List Mark} {p : Nat} (hl : p ≤ ts.length) (h : (markAt ts p).kind ≠ 0) : p < ts.length := by
  by_cases e : p < ts.length
  · exact e
  · exfalso
    apply h
    unfold markAt
    rw [List.getD_eq_getElem?_getD, List.getElem?_eq_none (by omega)]
    rfl
set_option maxRecDepth 100000 in
set_option maxHeartbeats 1000000 in
theorem pass_ok (kind : Nat) (hk : kind ≠ 0) (text : ByteArray) (r mp : Nat) (v : Value) (ts : List Mark) (p : Nat) (w : World) (h : Rdr r mp v ts p w) (hm : isMk (markAt ts p) kind text = true) : Calls Tryd.prog 82 #[.pointer (some ⟨r, 0, none⟩), .int .u8 (kind : Int), .string text] w fun e w' => e = .returned (.tuple #[]) ∧ w.grownBy w' (some r) ∧ Rdr r mp v ts (p + 1) w' := by
  have c := peek r mp v ts p w h
  obtain ⟨h1, h2⟩ := isMk_yes hm
  have hp : p < ts.length := markAt_lt h.le (by omega)
  have hfew : (p : Int) < 140737488355328 := by have := h.few; omega
  clear hm hk
  generalize markAt ts p = m at *
  have H := hid h
  have HP := hid hp
  clear h hp
  go_enter Tryd.func82, Tryd.ntmps82
  go_wp2_with (go_at_call 80; refine c.mono ?_; rintro e w2 ⟨rfl, b2⟩; obtain ⟨y0, y1, hg, hr⟩ := moved (H.out.step b2) HP.out; have B2 := hid b2; have HG := hid hg; have HR := hid hr; clear b2 c hg hr)
  exact bodyPost_end (by simp [results]) rfl ⟨rfl, grown_on (grown_below B2.out _) HG.out, HR.out⟩
/-- Behind a box: the place goes on by one, other memory is made, and the box is written. -/
theorem boxed_on {r mp : Nat} {v : Value} {ts : List Mark} {p : Nat} {w : World} (h : Rdr r mp v ts p w) (hp : p < ts.length) (c : Array Value) (t : TypeId) (w2 : World) (b : Below (w.alloc (.cells c t)).heap.size (w.alloc (.cells c t)) w2) :
    w2.cell? ⟨r, 1, none⟩ = some (.int .i64 (p : Int)) ∧ w2.frozen? ⟨r, 1, none⟩ = false ∧ ∀ W4, Below (w2.setCell ⟨r, 1, none⟩ (.int .i64 ((p : Int) + 1))).heap.size (w2.setCell ⟨r, 1, none⟩ (.int .i64 ((p : Int) + 1))) W4 →
      W4.heap[w.heap.size]? = some (.cells c t (0, 0)) ∧ ∀ d, w.grownBy (W4.setRow w.heap.size d) (some r) ∧ Rdr r mp v ts (p + 1) (W4.setRow w.heap.size d) := by
  have hb := (Below.refl w.heap.size w).alloc (Nat.le_refl _) (.cells c t)
  have b02 := bstep hb b
  have h2 := h.step b02
  obtain ⟨y0, y1, hg, hr⟩ := moved h2 hp
  have hlt := h.lt
  have hne : w.heap.size ≠ r := by omega
  have hsz : w.heap.size < w2.heap.size := by have := b.size; simp at this; omega
  refine ⟨y0, y1, fun W4 b4 => ?_⟩
  have hr4 := hr.step b4
  have e4 : W4.heap[w.heap.size]? = some (.cells c t (0, 0)) := by
    rw [b4.block _ (by simp [World.setCell]; exact hsz), Below.heap_setCell _ _ _ _ hne, b.block _ (by simp)]
    exact heap_alloc_new w _
  refine ⟨e4, fun d => ⟨?_, ?_⟩⟩
  · have g := grown_on (grown_on (grown_below b02 (some r)) hg) (grown_below b4 _)
    exact ⟨g.os, g.tape, g.output, by have := g.size; simpa [World.setRow] using this, fun k hk hkr => (setRow_other _ _ _ _ (by omega)).trans (g.block k hk hkr)⟩
  · refine ⟨(setRow_other _ _ _ _ (by omega)).trans hr4.cell, ?_, hr4.le, hr4.few, hr4.far, hr4.own⟩
    obtain ⟨a, cap, rfl, hc⟩ := h.toks
    refine hr4.toks.carry fun a' n c' ev hl => setRow_other _ _ _ _ ?_
    intro he
    injection ev with e1 e2 e3
    rcases hc with h0 | ⟨g, o, hg, hcc⟩
    · have := h.le; omega
    · rw [hg] at e1
      injection e1 with e1
      have hlt2 : g < w.heap.size := World.block_lt_of_cell? w ⟨g, o + 0 * 3, none⟩ (hcc 0 (by omega)).1
      rw [← e1] at he
      simp only at he
      omega
set_option maxRecDepth 100000 in
set_option maxHeartbeats 1000000 in
theorem name_bad (r mp : Nat) (v : Value) (ts : List Mark) (p : Nat) (w : World) (h : Rdr r mp v ts p w) (hT : TabR w) (hn : isName (markAt ts p).text = false) : Calls Tryd.prog 55 #[.pointer (some ⟨r, 0, none⟩)] w (Post r mp v ts w (.error (5, p))) := by
  have b0 := (Below.refl w.heap.size w).alloc (Nat.le_refl _) (.cells #[.int .u8 0, .int .i64 0, .string ⟨#[]⟩, .slice none 0 0] 25)
  have c := fun W hW => peek r mp v ts p W (h.step hW)
  have cn := fun W hW => name (markAt ts p).text W (hT.below hW)
  generalize markAt ts p = m at *
  have H := hid h
  have B0 := hid b0
  clear h hT b0
  go_enter Tryd.func55, Tryd.ntmps55
  go_wp2_with (go_at_call 80; refine (c _ B0.out).mono ?_; rintro e w2 ⟨rfl, b2⟩; have B2 := hid (bstep B0.out b2); clear b2 c)
  rename_i K hK
  refine (show K (Act.put _ (some 6) (Value.string m.text)) w2 from ?_)
  go_wp2_with (first
    | (go_at_call 71; refine (cn _ B2.out).mono ?_; rw [hn]; rintro e w3 ⟨rfl, b3⟩; have B3 := hid (bstep B2.out b3); clear b3 cn))
  exact ⟨rfl, grown_below B3.out _, rfl, H.out.step B3.out⟩
set_option maxRecDepth 100000 in
set_option maxHeartbeats 1000000 in
theorem name_ok (r mp : Nat) (v : Value) (ts : List Mark) (p : Nat) (w : World) (h : Rdr r mp v ts p w) (hp : p < ts.length) (hT : TabR w) (hn : isName (markAt ts p).text = true) : Calls Tryd.prog 55 #[.pointer (some ⟨r, 0, none⟩)] w (Post r mp v ts w (.ok (⟨3, 0, (markAt ts p).text, []⟩, p + 1))) := by
  have b0 := (Below.refl w.heap.size w).alloc (Nat.le_refl _) (.cells #[.int .u8 0, .int .i64 0, .string ⟨#[]⟩, .slice none 0 0] 25)
  have c := fun W hW => peek r mp v ts p W (h.step hW)
  have cn := fun W hW => name (markAt ts p).text W (hT.below hW)
  have hs : (markAt ts p).text.size ≤ 40 := by
    unfold isName at hn
    simp at hn
    omega
  have cc := fun W => clone (markAt ts p).text W (by omega)
  have K := hid (boxed_on h hp #[.int .u8 0, .int .i64 0, .string ⟨#[]⟩, .slice none 0 0] 25)
  have hfew : (p : Int) < 140737488355328 := by have := h.few; omega
  generalize markAt ts p = m at *
  have B0 := hid b0
  have HS := hid hs
  clear h hT b0 hp hs
  go_enter Tryd.func55, Tryd.ntmps55
  go_wp2_with (go_at_call 80; refine (c _ B0.out).mono ?_; rintro e w2 ⟨rfl, b2⟩; have B2 := hid b2; clear b2 c)
  rename_i K hK
  refine (show K (Act.put _ (some 6) (Value.string m.text)) w2 from ?_)
  go_wp2_with (first
    | (go_at_call 71; refine (cn _ (bstep B0.out B2.out)).mono ?_; rw [hn]; rintro e w3 ⟨rfl, b3⟩; obtain ⟨y0, y1, k4⟩ := K.out w3 (bstep B2.out b3); have K4 := hid k4; clear b3 cn K k4)
    | (go_at_call 38; refine (cc _).mono ?_; rintro e w4 ⟨rfl, b4⟩; obtain ⟨hbx, k5⟩ := K4.out w4 b4; have K5 := hid k5; clear b4 K4 cc k5)
    | (refine wpList_store_row rfl 25 _ _ rfl w.heap.size #[.int .u8 3, .int .i64 0, .string m.text, .slice none 0 0] rfl rfl 25 _ hbx info25 rfl (by simp [Value.oneCell']) ?_))
  refine bodyPost_ret (results_cell_row rfl _ _ w.heap.size 25 #[.int .u8 3, .int .i64 0, .string m.text, .slice none 0 0] (0, 0) _ rfl (setRow_heap _ _ _ _ _ _ hbx) Tryd.underlying25 rfl info25) rfl ⟨(K5.out _).1, _, rfl, ?_, (K5.out _).2⟩
  exact StP.leaf 3 0 _ (by omega) (by omega) (by have := HS.out; omega)
theorem numN_range (s : ByteArray) : -9223372036854775808 ≤ numN s ∧ numN s ≤ 9223372036854775807 := by
  unfold numN
  split
  · omega
  · cases e : mag 0 s.data.toList with
    | none => simp [outN]
    | some k =>
      have := mag_top _ 0 k (by omega) e
      simp only [outN]
      omega
theorem numE_nat (s : ByteArray) : ((numE s).toNat : Int) = numE s := by
  have : 0 ≤ numE s := by
    unfold numE
    split
    · omega
    · cases mag 0 s.data.toList <;> simp [outE]
  omega
set_option maxRecDepth 100000 in
set_option maxHeartbeats 1000000 in
theorem number_bad (r mp : Nat) (v : Value) (ts : List Mark) (p : Nat) (w : World) (h : Rdr r mp v ts p w) (tp : TypeId) (pv : Value) (hvar : w.var? Tryd.prog "strconv.ErrRange" = some #[.iface tp pv]) (hs : (markAt ts p).text.size ≤ 1048576) (hn : ¬ numE (markAt ts p).text = 0) : Calls Tryd.prog 58 #[.pointer (some ⟨r, 0, none⟩)] w (Post r mp v ts w (.error ((numE (markAt ts p).text).toNat, p))) := by
  have b0 := (Below.refl w.heap.size w).alloc (Nat.le_refl _) (.cells #[.int .u8 0, .int .i64 0, .string ⟨#[]⟩, .slice none 0 0] 25)
  have c := fun W hW => peek r mp v ts p W (h.step hW)
  have cn := fun W hW => number (markAt ts p).text W hs tp pv (varAt hvar hW)
  have en := hid (numE_nat (markAt ts p).text)
  generalize markAt ts p = m at *
  generalize numE m.text = E at *
  have H := hid h
  have B0 := hid b0
  clear h hvar hs b0
  go_enter Tryd.func58, Tryd.ntmps58
  go_wp2_with (go_at_call 80; refine (c _ B0.out).mono ?_; rintro e w2 ⟨rfl, b2⟩; have B2 := hid (bstep B0.out b2); clear b2 c)
  rename_i K hK
  refine (show K (Act.put _ (some 8) (Value.string m.text)) w2 from ?_)
  go_wp2_with (go_at_call 81; refine (cn _ B2.out).mono ?_; rintro e w3 ⟨rfl, b3⟩; have B3 := hid (bstep B2.out b3); clear b3 cn)
  refine ⟨rfl, grown_below B3.out _, ?_, H.out.step B3.out⟩
  rw [panicE, en.out]
set_option maxRecDepth 100000 in
set_option maxHeartbeats 1000000 in
theorem number_ok (r mp : Nat) (v : Value) (ts : List Mark) (p : Nat) (w : World) (h : Rdr r mp v ts p w) (hp : p < ts.length) (tp : TypeId) (pv : Value) (hvar : w.var? Tryd.prog "strconv.ErrRange" = some #[.iface tp pv]) (hs : (markAt ts p).text.size ≤ 1048576) (hn : numE (markAt ts p).text = 0) : Calls Tryd.prog 58 #[.pointer (some ⟨r, 0, none⟩)] w (Post r mp v ts w (.ok (⟨1, numN (markAt ts p).text, ByteArray.empty, []⟩, p + 1))) := by
  have b0 := (Below.refl w.heap.size w).alloc (Nat.le_refl _) (.cells #[.int .u8 0, .int .i64 0, .string ⟨#[]⟩, .slice none 0 0] 25)
  have c := fun W hW => peek r mp v ts p W (h.step hW)
  have cn := fun W hW => number (markAt ts p).text W hs tp pv (varAt hvar hW)
  have K := hid (boxed_on h hp #[.int .u8 0, .int .i64 0, .string ⟨#[]⟩, .slice none 0 0] 25)
  have hfew : (p : Int) < 140737488355328 := by have := h.few; omega
  generalize markAt ts p = m at *
  rw [hn] at cn
  have HN := hid (numN_range m.text)
  generalize numN m.text = N at *
  have B0 := hid b0
  clear h hvar hs b0 hp hn
  go_enter Tryd.func58, Tryd.ntmps58
  go_wp2_with (go_at_call 80; refine (c _ B0.out).mono ?_; rintro e w2 ⟨rfl, b2⟩; have B2 := hid b2; clear b2 c)
  rename_i K' hK
  refine (show K' (Act.put _ (some 8) (Value.string m.text)) w2 from ?_)
  go_wp2_with (first
    | (go_at_call 81; refine (cn _ (bstep B0.out B2.out)).mono ?_; rintro e w3 ⟨rfl, b3⟩; obtain ⟨y0, y1, k4⟩ := K.out w3 (bstep B2.out b3); obtain ⟨hbx, k5⟩ := k4 _ (Below.refl _ _); have K5 := hid k5; clear b3 cn K k4 k5)
    | (refine wpList_store_row rfl 25 _ _ rfl w.heap.size #[.int .u8 1, .int .i64 N, .string ⟨#[]⟩, .slice none 0 0] rfl rfl 25 _ hbx info25 rfl (by simp [Value.oneCell']) ?_))
  refine bodyPost_ret (results_cell_row rfl _ _ w.heap.size 25 #[.int .u8 1, .int .i64 N, .string ⟨#[]⟩, .slice none 0 0] (0, 0) _ rfl (setRow_heap _ _ _ _ _ _ hbx) Tryd.underlying25 rfl info25) rfl ⟨(K5.out _).1, _, rfl, ?_, (K5.out _).2⟩
  exact StP.leaf 1 N _ (by omega) HN.out (by decide)
end Go.Proofs.YtkieljleopbhoaaDoor.Lex
namespace Go.Proofs.YtkieljleopbhoaaDoor.Lex
open Go.ChangeShapes Go.WideShapes Go.ChangeAt Go.RowKit Go.Joins
theorem StP.form {ok : Nat → Prop} {w : World} {x : Ex} {s : Value} (h : StP ok w x s) : ∃ ao cap, s = .slice ao x.args.length cap := by
  obtain ⟨ao, cap, _, hs, _⟩ := h.out
  exact ⟨ao, cap, hs⟩
abbrev z25 : Value := .agg #[.int .u8 0, .int .i64 0, .string ⟨#[]⟩, .slice none 0 0]
theorem inf25 : ∃ ie, Tryd.prog.info? 25 = some ie ∧ ie.zero = some z25 ∧ ie.size = 4 := by
  have h : (Tryd.prog.info? 25).map (fun i => (i.zero, i.size)) = some (some z25, 4) := by kernel_rfl
  obtain ⟨ie, h1, h2⟩ := Option.map_eq_some_iff.1 h
  injection h2 with h2 h3
  exact ⟨ie, h1, h2, h3⟩
abbrev ex4 (x : Ex) (s : Value) : Array Value := #[.int .u8 (x.op : Int), .int .i64 x.n, .string x.name, s]
theorem fill1 (x : Ex) (ao : Option Addr) (n cap : Nat) : Instr.fill (fun i => some (i * 4, 4)) ((Array.range (1 * 4)).map (z25.cells[· % z25.cells.size]!)) [(0, exV x (.slice ao n cap))] = some (ex4 x (.slice ao n cap)) := by
  have e : ((Array.range (1 * 4)).map (z25.cells[· % z25.cells.size]!)) = #[.int .u8 0, .int .i64 0, .string ⟨#[]⟩, .slice none 0 0] := by kernel_rfl
  rw [e]
  simp [Instr.fill]
  exact ⟨⟨rfl, Nat.le_refl 4⟩, rfl⟩
set_option maxRecDepth 100000 in
set_option maxHeartbeats 1000000 in
theorem one_bad (r mp : Nat) (v : Value) (ts : List Mark) (p op n q : Nat) (w : World) (h : Rdr r mp v ts p w) (hp : p < ts.length)
    (cp : ∀ W, w.grownBy W (some r) → Rdr r mp v ts (p + 1) W → Calls Tryd.prog 65 #[.pointer (some ⟨r, 0, none⟩), .int .i64 6] W (Post r mp v ts W (.error (n, q)))) :
    Calls Tryd.prog 61 #[.pointer (some ⟨r, 0, none⟩), .int .u8 (op : Int)] w (Post r mp v ts w (.error (n, q))) := by
  have b0 := (Below.refl w.heap.size w).alloc (Nat.le_refl _) (.cells #[.int .u8 0, .int .i64 0, .string ⟨#[]⟩, .slice none 0 0] 25)
  obtain ⟨y0, y1, hg, hr⟩ := moved (h.step b0) hp
  have hfew : (p : Int) < 140737488355328 := by have := h.few; omega
  have HG := hid (grown_on (grown_below b0 (some r)) hg)
  have HR := hid hr
  clear h hp hg hr b0
  go_enter Tryd.func61, Tryd.ntmps61
  go_wp2_with (go_at_call 65; refine (cp _ HG.out HR.out).mono ?_; rintro e w2 ⟨g2, rfl, h2⟩; have G2 := hid g2; have H2 := hid h2; clear g2 h2 cp)
  exact ⟨rfl, grown_on HG.out G2.out, rfl, H2.out⟩
/-- Tokens lie ahead of what is made behind them. -/
theorem Rdr.setRow {r mp : Nat} {v : Value} {ts : List Mark} {p q : Nat} {w W : World} (h : Rdr r mp v ts p w) (h2 : Rdr r mp v ts q W) (d : Array Value) : Rdr r mp v ts q (W.setRow w.heap.size d) := by
  have hlt := h.lt
  refine ⟨(setRow_other _ _ _ _ (by omega)).trans h2.cell, ?_, h2.le, h2.few, h2.far, h2.own⟩
  obtain ⟨a, cap, rfl, hc⟩ := h.toks
  rcases hc with h0 | ⟨g, o, hg, hcc⟩
  · obtain ⟨a2, cap2, e2, _⟩ := h2.toks
    exact ⟨a2, cap2, e2, .inl h0⟩
  · by_cases h0 : ts.length = 0
    · obtain ⟨a2, cap2, e2, _⟩ := h2.toks
      exact ⟨a2, cap2, e2, .inl h0⟩
    · refine h2.toks.carry fun a' n c' ev hl => setRow_other _ _ _ _ ?_
      intro he
      injection ev with e1 e2 e3
      rw [hg] at e1
      injection e1 with e1
      have hlt2 : g < w.heap.size := World.block_lt_of_cell? w ⟨g, o + 0 * 3, none⟩ (hcc 0 (by omega)).1
      rw [← e1] at he
      simp only at he
      omega
theorem grown_setRow {w W : World} {r : Option Nat} (g : w.grownBy W r) (d : Array Value) : w.grownBy (W.setRow w.heap.size d) r :=
  ⟨g.os, g.tape, g.output, by have := g.size; simpa [World.setRow] using this, fun k hk hkr => (setRow_other _ _ _ _ (by omega)).trans (g.block k hk hkr)⟩
/-- A box stays where others are written. -/
theorem box_kept {w w2 : World} {r : Nat} {c : Array Value} {t : TypeId} {u : Value} (hr : r < w.heap.size) (g : ((w.alloc (.cells c t)).setCell ⟨r, 1, none⟩ u).grownBy w2 (some r)) : w2.heap[w.heap.size]? = some (.cells c t (0, 0)) := by
  rw [g.block _ (by simp [World.setCell]) (fun e => by injection e; omega), Below.heap_setCell _ _ _ _ (by show w.heap.size ≠ r; omega)]
  exact heap_alloc_new w _
/-- What has one part, in new memory. -/
theorem StP.one {ok : Nat → Prop} {W : World} {x : Ex} {s : Value} (op : Nat) (hop : op < 256) (g : Nat) (hg : ok g) (hst : StP ok W x s) (hc : W.heap[g]? = some (.cells (ex4 x s) 25 (0, 0))) : StP ok W ⟨op, 0, ByteArray.empty, [x]⟩ (.slice (some ⟨g, 0, none⟩) 1 1) := by
  refine StP.intro ⟨op, 0, ByteArray.empty, [x]⟩ (some ⟨g, 0, none⟩) 1 (fun _ => s) hop (by simp) (by show ByteArray.empty.size ≤ _; decide) (by simp) (by simp) (.inr ⟨g, 0, rfl, hg, fun i hi => ?_⟩) (fun i hi => ?_)
  · obtain rfl : i = 0 := by simpa using hi
    refine ⟨?_, ?_, ?_, ?_⟩ <;> (rw [cell_of_row _ _ _ _ 25 (0, 0) hc]; rfl)
  · obtain rfl : i = 0 := by simpa using hi
    exact hst
set_option maxRecDepth 100000 in
set_option maxHeartbeats 1000000 in
theorem one_ok (r mp : Nat) (v : Value) (ts : List Mark) (p op q : Nat) (x : Ex) (w : World) (h : Rdr r mp v ts p w) (hp : p < ts.length) (hop : op < 256)
    (cp : ∀ W, w.grownBy W (some r) → Rdr r mp v ts (p + 1) W → Calls Tryd.prog 65 #[.pointer (some ⟨r, 0, none⟩), .int .i64 6] W (Post r mp v ts W (.ok (x, q)))) :
    Calls Tryd.prog 61 #[.pointer (some ⟨r, 0, none⟩), .int .u8 (op : Int)] w (Post r mp v ts w (.ok (⟨op, 0, ByteArray.empty, [x]⟩, q))) := by
  have b0 := (Below.refl w.heap.size w).alloc (Nat.le_refl _) (.cells #[.int .u8 0, .int .i64 0, .string ⟨#[]⟩, .slice none 0 0] 25)
  obtain ⟨y0, y1, hg, hr⟩ := moved (h.step b0) hp
  have hfew : (p : Int) < 140737488355328 := by have := h.few; omega
  have HG := hid (grown_on (grown_below b0 (some r)) hg)
  have HR := hid hr
  have H := hid h
  have HOP := hid hop
  clear h hp hg hr b0 hop
  go_enter Tryd.func61, Tryd.ntmps61
  go_wp2_with (fail)
  refine (cp _ HG.out HR.out).mono ?_
  rintro e w2 ⟨g2, s, rfl, st, h2⟩
  obtain ⟨ao, cap, rfl⟩ := st.form
  have hbx := box_kept H.out.lt g2
  have b3 := (Below.refl w2.heap.size w2).alloc (Nat.le_refl _) (.cells (ex4 x (.slice ao x.args.length cap)) 25)
  have hbx3 := (b3.block _ (Array.getElem?_eq_some_iff.1 hbx).1).trans hbx
  have hlt2 := (Array.getElem?_eq_some_iff.1 hbx).1
  have G2 := hid (grown_on (grown_on HG.out g2) (grown_below b3 _))
  have H2 := hid (h2.step b3)
  have ST := hid st
  have B3 := hid b3
  have HL := hid hlt2
  clear g2 h2 st cp b3 hbx hlt2 y0 y1
  rename_i K hK
  refine hK _ _ ?_
  clear hK K
  obtain ⟨ie, hie, hz, hsz⟩ := inf25
  refine wpList_buildSlice rfl 23 25 1 _ rfl (ex4 x (.slice ao x.args.length cap)) ie z25 Tryd.underlying23 hie hz (by rw [hsz]; decide) (by rw [hsz]; decide) (by rw [hsz]; simp only [List.map_toArray, List.map_cons, List.map_nil]; exact fill1 x ao x.args.length cap) ?_
  clear hie hz hsz
  go_wp2_with (refine wpList_store_row rfl 25 _ _ rfl w.heap.size #[.int .u8 (op : Int), .int .i64 0, .string ⟨#[]⟩, .slice (some ⟨w2.heap.size, 0, none⟩) 1 1] rfl rfl 25 _ hbx3 info25 rfl (by simp [Value.oneCell']) ?_)
  refine bodyPost_ret (results_cell_row rfl _ _ w.heap.size 25 #[.int .u8 (op : Int), .int .i64 0, .string ⟨#[]⟩, .slice (some ⟨w2.heap.size, 0, none⟩) 1 1] (0, 0) _ rfl (setRow_heap _ _ _ _ _ _ hbx3) Tryd.underlying25 rfl info25) rfl ⟨grown_setRow G2.out _, _, rfl, ?_, H.out.setRow H2.out _⟩
  refine StP.one op HOP.out w2.heap.size (by have := HL.out; omega) ?_ ((setRow_other _ _ _ _ (by have := HL.out; omega)).trans (heap_alloc_new w2 _))
  refine StP.carryN (fun b hb hl => ?_) (fun b _ hb => ?_) _ x _ (Nat.le_refl _) ST.out
  · simp [World.setCell] at hb
    exact (setRow_other _ _ _ _ (by omega)).trans (B3.out.block b hl)
  · simp [World.setCell] at hb
    show w.heap.size ≤ b
    omega
end Go.Proofs.YtkieljleopbhoaaDoor.Lex
namespace Go.Proofs.YtkieljleopbhoaaDoor.Lex
open Go.ChangeShapes Go.WideShapes Go.ChangeAt Go.RowKit Go.Joins
/-- What comes of a call, handed on from a box. -/
theorem Post.boxed {r mp : Nat} {v : Value} {ts : List Mark} {p q : Nat} {x : Ex} {s : Value} {w w2 : World} (h : Rdr r mp v ts p w) (b0 : Below w.heap.size w (w.alloc (.cells #[.int .u8 0, .int .i64 0, .string ⟨#[]⟩, .slice none 0 0] 25))) (g2 : (w.alloc (.cells #[.int .u8 0, .int .i64 0, .string ⟨#[]⟩, .slice none 0 0] 25)).grownBy w2 (some r)) (st : StP (fun b => (w.alloc (.cells #[.int .u8 0, .int .i64 0, .string ⟨#[]⟩, .slice none 0 0] 25)).heap.size ≤ b) w2 x s) (h2 : Rdr r mp v ts q w2) (d : Array Value) :
    w.grownBy (w2.setRow w.heap.size d) (some r) ∧ StP (fun b => w.heap.size ≤ b) (w2.setRow w.heap.size d) x s ∧ Rdr r mp v ts q (w2.setRow w.heap.size d) := by
  refine ⟨grown_setRow (grown_on (grown_below b0 _) g2) d, ?_, h.setRow h2 d⟩
  refine StP.carryN (fun b hb hl => ?_) (fun b _ hb => ?_) _ x _ (Nat.le_refl _) st
  · simp at hb
    exact setRow_other _ _ _ _ (by omega)
  · simp at hb
    show w.heap.size ≤ b
    omega
theorem box_there {w w2 : World} {r : Nat} {c : Array Value} {t : TypeId} (hr : r < w.heap.size) (g : (w.alloc (.cells c t)).grownBy w2 (some r)) : w2.heap[w.heap.size]? = some (.cells c t (0, 0)) := by
  rw [g.block _ (by simp) (fun e => by injection e; omega)]
  exact heap_alloc_new w _
set_option maxRecDepth 100000 in
set_option maxHeartbeats 1000000 in
theorem neg_ok (r mp : Nat) (v : Value) (ts : List Mark) (p q : Nat) (x : Ex) (w : World) (h : Rdr r mp v ts p w)
    (c : ∀ W, Below w.heap.size w W → Calls Tryd.prog 61 #[.pointer (some ⟨r, 0, none⟩), .int .u8 4] W (Post r mp v ts W (.ok (x, q)))) : Calls Tryd.prog 60 #[.pointer (some ⟨r, 0, none⟩)] w (Post r mp v ts w (.ok (x, q))) := by
  have b0 := (Below.refl w.heap.size w).alloc (Nat.le_refl _) (.cells #[.int .u8 0, .int .i64 0, .string ⟨#[]⟩, .slice none 0 0] 25)
  have B0 := hid b0
  have H := hid h
  clear h b0
  go_enter Tryd.func60, Tryd.ntmps60
  go_wp2_with (first
    | (go_at_call 61; refine (c _ B0.out).mono ?_; rintro e w2 ⟨g2, s, rfl, st, h2⟩; obtain ⟨ao, cap, rfl⟩ := st.form; have hbx := box_there H.out.lt g2; have Q := hid (Post.boxed H.out B0.out g2 st h2 (ex4 x (.slice ao x.args.length cap))); clear g2 st h2 c)
    | (refine wpList_store_row rfl 25 _ _ rfl w.heap.size (ex4 x (.slice ao x.args.length cap)) rfl rfl 25 _ hbx info25 rfl (by simp [Value.oneCell', ex4]) ?_))
  exact bodyPost_ret (results_cell_row rfl _ _ w.heap.size 25 (ex4 x (.slice ao x.args.length cap)) (0, 0) _ rfl (setRow_heap _ _ _ _ _ _ hbx) Tryd.underlying25 rfl info25) rfl ⟨Q.out.1, _, rfl, Q.out.2.1, Q.out.2.2⟩
set_option maxRecDepth 100000 in
set_option maxHeartbeats 1000000 in
theorem neg_bad (r mp : Nat) (v : Value) (ts : List Mark) (n q : Nat) (w : World)
    (c : ∀ W, Below w.heap.size w W → Calls Tryd.prog 61 #[.pointer (some ⟨r, 0, none⟩), .int .u8 4] W (Post r mp v ts W (.error (n, q)))) : Calls Tryd.prog 60 #[.pointer (some ⟨r, 0, none⟩)] w (Post r mp v ts w (.error (n, q))) := by
  have b0 := (Below.refl w.heap.size w).alloc (Nat.le_refl _) (.cells #[.int .u8 0, .int .i64 0, .string ⟨#[]⟩, .slice none 0 0] 25)
  have B0 := hid b0
  clear b0
  go_enter Tryd.func60, Tryd.ntmps60
  go_wp2_with (go_at_call 61; refine (c _ B0.out).mono ?_; rintro e w2 ⟨g2, rfl, h2⟩; have G2 := hid g2; have H2 := hid h2; clear g2 h2 c)
  exact ⟨rfl, grown_on (grown_below B0.out _) G2.out, rfl, H2.out⟩
set_option maxRecDepth 100000 in
set_option maxHeartbeats 1000000 in
theorem not_ok (r mp : Nat) (v : Value) (ts : List Mark) (p q : Nat) (x : Ex) (w : World) (h : Rdr r mp v ts p w)
    (c : ∀ W, Below w.heap.size w W → Calls Tryd.prog 61 #[.pointer (some ⟨r, 0, none⟩), .int .u8 5] W (Post r mp v ts W (.ok (x, q)))) : Calls Tryd.prog 62 #[.pointer (some ⟨r, 0, none⟩)] w (Post r mp v ts w (.ok (x, q))) := by
  have b0 := (Below.refl w.heap.size w).alloc (Nat.le_refl _) (.cells #[.int .u8 0, .int .i64 0, .string ⟨#[]⟩, .slice none 0 0] 25)
  have B0 := hid b0
  have H := hid h
  clear h b0
  go_enter Tryd.func62, Tryd.ntmps62
  go_wp2_with (first
    | (go_at_call 61; refine (c _ B0.out).mono ?_; rintro e w2 ⟨g2, s, rfl, st, h2⟩; obtain ⟨ao, cap, rfl⟩ := st.form; have hbx := box_there H.out.lt g2; have Q := hid (Post.boxed H.out B0.out g2 st h2 (ex4 x (.slice ao x.args.length cap))); clear g2 st h2 c)
    | (refine wpList_store_row rfl 25 _ _ rfl w.heap.size (ex4 x (.slice ao x.args.length cap)) rfl rfl 25 _ hbx info25 rfl (by simp [Value.oneCell', ex4]) ?_))
  exact bodyPost_ret (results_cell_row rfl _ _ w.heap.size 25 (ex4 x (.slice ao x.args.length cap)) (0, 0) _ rfl (setRow_heap _ _ _ _ _ _ hbx) Tryd.underlying25 rfl info25) rfl ⟨Q.out.1, _, rfl, Q.out.2.1, Q.out.2.2⟩
set_option maxRecDepth 100000 in
set_option maxHeartbeats 1000000 in
theorem not_bad (r mp : Nat) (v : Value) (ts : List Mark) (n q : Nat) (w : World)
    (c : ∀ W, Below w.heap.size w W → Calls Tryd.prog 61 #[.pointer (some ⟨r, 0, none⟩), .int .u8 5] W (Post r mp v ts W (.error (n, q)))) : Calls Tryd.prog 62 #[.pointer (some ⟨r, 0, none⟩)] w (Post r mp v ts w (.error (n, q))) := by
  have b0 := (Below.refl w.heap.size w).alloc (Nat.le_refl _) (.cells #[.int .u8 0, .int .i64 0, .string ⟨#[]⟩, .slice none 0 0] 25)
  have B0 := hid b0
  clear b0
  go_enter Tryd.func62, Tryd.ntmps62
  go_wp2_with (go_at_call 61; refine (c _ B0.out).mono ?_; rintro e w2 ⟨g2, rfl, h2⟩; have G2 := hid g2; have H2 := hid h2; clear g2 h2 c)
  exact ⟨rfl, grown_on (grown_below B0.out _) G2.out, rfl, H2.out⟩
set_option maxRecDepth 100000 in
set_option maxHeartbeats 1000000 in
theorem pre_ok (r mp : Nat) (v : Value) (ts : List Mark) (p q : Nat) (x : Ex) (w : World) (h : Rdr r mp v ts p w)
    (c : ∀ W, Below w.heap.size w W → Calls Tryd.prog 61 #[.pointer (some ⟨r, 0, none⟩), .int .u8 19] W (Post r mp v ts W (.ok (x, q)))) : Calls Tryd.prog 63 #[.pointer (some ⟨r, 0, none⟩)] w (Post r mp v ts w (.ok (x, q))) := by
  have b0 := (Below.refl w.heap.size w).alloc (Nat.le_refl _) (.cells #[.int .u8 0, .int .i64 0, .string ⟨#[]⟩, .slice none 0 0] 25)
  have B0 := hid b0
  have H := hid h
  clear h b0
  go_enter Tryd.func63, Tryd.ntmps63
  go_wp2_with (first
    | (go_at_call 61; refine (c _ B0.out).mono ?_; rintro e w2 ⟨g2, s, rfl, st, h2⟩; obtain ⟨ao, cap, rfl⟩ := st.form; have hbx := box_there H.out.lt g2; have Q := hid (Post.boxed H.out B0.out g2 st h2 (ex4 x (.slice ao x.args.length cap))); clear g2 st h2 c)
    | (refine wpList_store_row rfl 25 _ _ rfl w.heap.size (ex4 x (.slice ao x.args.length cap)) rfl rfl 25 _ hbx info25 rfl (by simp [Value.oneCell', ex4]) ?_))
  exact bodyPost_ret (results_cell_row rfl _ _ w.heap.size 25 (ex4 x (.slice ao x.args.length cap)) (0, 0) _ rfl (setRow_heap _ _ _ _ _ _ hbx) Tryd.underlying25 rfl info25) rfl ⟨Q.out.1, _, rfl, Q.out.2.1, Q.out.2.2⟩
set_option maxRecDepth 100000 in
set_option maxHeartbeats 1000000 in
theorem pre_bad (r mp : Nat) (v : Value) (ts : List Mark) (n q : Nat) (w : World)
    (c : ∀ W, Below w.heap.size w W → Calls Tryd.prog 61 #[.pointer (some ⟨r, 0, none⟩), .int .u8 19] W (Post r mp v ts W (.error (n, q)))) : Calls Tryd.prog 63 #[.pointer (some ⟨r, 0, none⟩)] w (Post r mp v ts w (.error (n, q))) := by
  have b0 := (Below.refl w.heap.size w).alloc (Nat.le_refl _) (.cells #[.int .u8 0, .int .i64 0, .string ⟨#[]⟩, .slice none 0 0] 25)
  have B0 := hid b0
  clear b0
  go_enter Tryd.func63, Tryd.ntmps63
  go_wp2_with (go_at_call 61; refine (c _ B0.out).mono ?_; rintro e w2 ⟨g2, rfl, h2⟩; have G2 := hid g2; have H2 := hid h2; clear g2 h2 c)
  exact ⟨rfl, grown_on (grown_below B0.out _) G2.out, rfl, H2.out⟩
set_option maxRecDepth 100000 in
set_option maxHeartbeats 1000000 in
theorem brackets_bad (r mp : Nat) (v : Value) (ts : List Mark) (p n q : Nat) (w : World) (h : Rdr r mp v ts p w) (hp : p < ts.length)
    (cp : ∀ W, w.grownBy W (some r) → Rdr r mp v ts (p + 1) W → Calls Tryd.prog 65 #[.pointer (some ⟨r, 0, none⟩), .int .i64 0] W (Post r mp v ts W (.error (n, q)))) :
    Calls Tryd.prog 59 #[.pointer (some ⟨r, 0, none⟩)] w (Post r mp v ts w (.error (n, q))) := by
  have b0 := (Below.refl w.heap.size w).alloc (Nat.le_refl _) (.cells #[.int .u8 0, .int .i64 0, .string ⟨#[]⟩, .slice none 0 0] 25)
  obtain ⟨y0, y1, hg, hr⟩ := moved (h.step b0) hp
  have hfew : (p : Int) < 140737488355328 := by have := h.few; omega
  have HG := hid (grown_on (grown_below b0 (some r)) hg)
  have HR := hid hr
  clear h hp hg hr b0
  go_enter Tryd.func59, Tryd.ntmps59
  go_wp2_with (go_at_call 65; refine (cp _ HG.out HR.out).mono ?_; rintro e w2 ⟨g2, rfl, h2⟩; have G2 := hid g2; have H2 := hid h2; clear g2 h2 cp)
  exact ⟨rfl, grown_on HG.out G2.out, rfl, H2.out⟩
set_option maxRecDepth 100000 in
set_option maxHeartbeats 1000000 in
theorem brackets_open (r mp : Nat) (v : Value) (ts : List Mark) (p q : Nat) (x : Ex) (w : World) (h : Rdr r mp v ts p w) (hp : p < ts.length)
    (cp : ∀ W, w.grownBy W (some r) → Rdr r mp v ts (p + 1) W → Calls Tryd.prog 65 #[.pointer (some ⟨r, 0, none⟩), .int .i64 0] W (Post r mp v ts W (.ok (x, q))))
    (hm : isMk (markAt ts q) 3 ⟨#[41]⟩ = false) :
    Calls Tryd.prog 59 #[.pointer (some ⟨r, 0, none⟩)] w (Post r mp v ts w (.error (5, q))) := by
  have b0 := (Below.refl w.heap.size w).alloc (Nat.le_refl _) (.cells #[.int .u8 0, .int .i64 0, .string ⟨#[]⟩, .slice none 0 0] 25)
  obtain ⟨y0, y1, hg, hr⟩ := moved (h.step b0) hp
  have hfew : (p : Int) < 140737488355328 := by have := h.few; omega
  have HG := hid (grown_on (grown_below b0 (some r)) hg)
  have HR := hid hr
  have c3 := fun W hW => pass_bad 3 ⟨#[41]⟩ r mp v ts q W hW hm
  simp only [Int.cast_ofNat_Int] at c3
  clear h hp hg hr b0 hm
  go_enter Tryd.func59, Tryd.ntmps59
  go_wp2_with (first
    | (go_at_call 65; refine (cp _ HG.out HR.out).mono ?_; rintro e w2 ⟨g2, s, rfl, st, h2⟩; obtain ⟨ao, cap, rfl⟩ := st.form; have b3 := (Below.refl w2.heap.size w2).alloc (Nat.le_refl _) (.cells (ex4 x (.slice ao x.args.length cap)) 25); have G2 := hid (grown_on (grown_on HG.out g2) (grown_below b3 _)); have H2 := hid (h2.step b3); clear g2 h2 st b3 cp)
    | (go_at_call 82; refine (c3 _ H2.out).mono ?_; rintro e w4 ⟨rfl, b4⟩; have B4 := hid b4; clear b4 c3))
  exact ⟨rfl, grown_on G2.out (grown_below B4.out _), rfl, H2.out.step B4.out⟩
set_option maxRecDepth 100000 in
set_option maxHeartbeats 1000000 in
theorem brackets_ok (r mp : Nat) (v : Value) (ts : List Mark) (p q : Nat) (x : Ex) (w : World) (h : Rdr r mp v ts p w) (hp : p < ts.length)
    (cp : ∀ W, w.grownBy W (some r) → Rdr r mp v ts (p + 1) W → Calls Tryd.prog 65 #[.pointer (some ⟨r, 0, none⟩), .int .i64 0] W (Post r mp v ts W (.ok (x, q))))
    (hm : isMk (markAt ts q) 3 ⟨#[41]⟩ = true) :
    Calls Tryd.prog 59 #[.pointer (some ⟨r, 0, none⟩)] w (Post r mp v ts w (.ok (x, q + 1))) := by
  have b0 := (Below.refl w.heap.size w).alloc (Nat.le_refl _) (.cells #[.int .u8 0, .int .i64 0, .string ⟨#[]⟩, .slice none 0 0] 25)
  obtain ⟨y0, y1, hg, hr⟩ := moved (h.step b0) hp
  have hfew : (p : Int) < 140737488355328 := by have := h.few; omega
  have HG := hid (grown_on (grown_below b0 (some r)) hg)
  have HR := hid hr
  have H := hid h
  have c3 := fun W hW => pass_ok 3 (by omega) ⟨#[41]⟩ r mp v ts q W hW hm
  simp only [Int.cast_ofNat_Int] at c3
  clear h hp hg hr b0 hm
  go_enter Tryd.func59, Tryd.ntmps59
  go_wp2_with (first
    | (go_at_call 65; refine (cp _ HG.out HR.out).mono ?_; rintro e w2 ⟨g2, s, rfl, st, h2⟩; obtain ⟨ao, cap, rfl⟩ := st.form; have b3 := (Below.refl w2.heap.size w2).alloc (Nat.le_refl _) (.cells (ex4 x (.slice ao x.args.length cap)) 25); have hbx := box_kept H.out.lt g2; have HBX := hid ((b3.block _ (Array.getElem?_eq_some_iff.1 hbx).1).trans hbx); have HL := hid (Array.getElem?_eq_some_iff.1 hbx).1; have ST := hid st; have B3 := hid b3; have G2 := hid (grown_on (grown_on HG.out g2) (grown_below b3 _)); have H2 := hid (h2.step b3); clear g2 h2 st b3 cp hbx)
    | (go_at_call 82; refine (c3 _ H2.out).mono ?_; rintro e w4 ⟨rfl, g4, h4⟩; have hbx4 := (g4.block _ (Array.getElem?_eq_some_iff.1 HBX.out).1 (fun e => by injection e; have := H.out.lt; omega)).trans HBX.out; have hx4 := (g4.block _ (Array.getElem?_eq_some_iff.1 (heap_alloc_new w2 _)).1 (fun e => by injection e; have := H.out.lt; have := HL.out; omega)).trans (heap_alloc_new w2 _); have G4 := hid g4; have H4 := hid h4; clear g4 h4 c3)
    | (refine wpList_load_row rfl 25 _ rfl w2.heap.size rfl 25 (ex4 x (.slice ao x.args.length cap)) (0, 0) _ hx4 Tryd.underlying25 rfl info25 ?_)
    | (refine wpList_store_row rfl 25 _ _ rfl w.heap.size (ex4 x (.slice ao x.args.length cap)) rfl rfl 25 _ hbx4 info25 rfl (by simp [Value.oneCell', ex4]) ?_))
  refine bodyPost_ret (results_cell_row rfl _ _ w.heap.size 25 (ex4 x (.slice ao x.args.length cap)) (0, 0) _ rfl (setRow_heap _ _ _ _ _ _ hbx4) Tryd.underlying25 rfl info25) rfl ⟨grown_setRow (grown_on G2.out G4.out) _, _, rfl, ?_, H.out.setRow H4.out _⟩
  refine StP.carryN (fun b hb hl => ?_) (fun b _ hb => ?_) _ x _ (Nat.le_refl _) ST.out
  · simp [World.setCell] at hb
    refine (setRow_other _ _ _ _ (by omega)).trans ((G4.out.block b (by have := B3.out.size; omega) (fun e => by injection e; have := H.out.lt; omega)).trans (B3.out.block b hl))
  · simp [World.setCell] at hb
    show w.heap.size ≤ b
    omega
end Go.Proofs.YtkieljleopbhoaaDoor.Lex
