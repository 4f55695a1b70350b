/-
  Whether each flow of any program is of its type is as the document says: the walk of the law.
-/
import Derived.Test.YtakjkhfglihggaaDoorG10
import Derived.Test.YtakjkhfglihggaaDoorG6
import Derived.Test.YtakjkhfglihggaaDoorG7
namespace Go.Proofs.YtakjkhfglihggaaDoor.Lex
open Go.ChangeShapes Go.WideShapes Go.ChangeAt Go.RowKit Go.Shelf
set_option maxRecDepth 100000 in
set_option maxHeartbeats 4000000 in
theorem walk4 (p : Pg) (w : World) (a b c : Value) (hP : PgAt w p a b c) (hR : TabR w) (hJ : TabJ w) : Calls Tryd.prog 4 #[pgV p a b c] w fun e w' => e = .returned (.bool true) ∧ Below w.heap.size w w' := by
  obtain ⟨a0, a1, rfl, _⟩ := hP.ins
  obtain ⟨b0, b1, sl, rfl, _⟩ := hP.flows
  obtain ⟨c0, c1, rfl, _⟩ := hP.outs
  have F0 := hid (FV.new hP hR hJ)
  have c8 := great p _ _ _ _ F0.out.P
  clear hP hR hJ
  go_enter Tryd.func4, Tryd.ntmps4
  go_wp2_with (fail)
  refine c8.mono ?_
  rintro e w2 ⟨⟨g, rfl, hg⟩, hb2⟩
  have F2 := hid (F0.out.keep hb2)
  obtain ⟨p0, p1, p2, p3⟩ := row4 F2.out.row
  clear hb2 F0 hg c8
  cases g with
  | true =>
    have hB := F2.out.below
    go_wp2_with (fail)
    go_ret
    exact ⟨rfl, hB⟩
  | false =>
    go_wp2_with (fail)
    refine (twin_prog p _ _ _ _ F2.out.P).mono ?_
    rintro e w9 ⟨a', b', c', rfl, hT, hb9⟩
    obtain ⟨ib, ic, rfl, _⟩ := id hT.ins
    obtain ⟨fb, fc, _, rfl, _⟩ := id hT.flows
    obtain ⟨ob, oc, rfl, _⟩ := id hT.outs
    have F9 := hid (F2.out.keep hb9)
    have BA := hid ((Below.refl w9.heap.size w9).alloc (Nat.le_refl _) (.cells #[.int .i64 p.st, .slice (some ⟨ib, 0, none⟩) p.ins.length ic, .slice (some ⟨fb, 0, none⟩) p.flows.length fc, .slice (some ⟨ob, 0, none⟩) p.outs.length oc] 26))
    have T0 := hid (hT.keep BA.out)
    have G0 := hid (F9.out.keep BA.out)
    have K0 := hid (heap_alloc_new w9 (.cells #[.int .i64 p.st, .slice (some ⟨ib, 0, none⟩) p.ins.length ic, .slice (some ⟨fb, 0, none⟩) p.flows.length fc, .slice (some ⟨ob, 0, none⟩) p.outs.length oc] 26))
    clear hT hb9 p0 p1 p2 p3 F2
    obtain ⟨s0, s1, s2, s3⟩ := row4 G0.out.row
    obtain ⟨q0, q1, q2, q3⟩ := row4 K0.out
    go_wp2_with (fail)
    generalize w9.alloc (.cells #[.int .i64 p.st, .slice (some ⟨ib, 0, none⟩) p.ins.length ic, .slice (some ⟨fb, 0, none⟩) p.flows.length fc, .slice (some ⟨ob, 0, none⟩) p.outs.length oc] 26) = W9 at *
    have c10 := types_check p _ _ _ _ (T0.out.at.keep (Below.refl _ _).drew) (G0.out.R.below (Below.refl _ _).drew) (G0.out.J.below (Below.refl _ _).drew)
    have hee : (ckV p == ckV p) = true := by simp
    refine wp_region_held_drew (S := fun W => W.cell? ⟨w.heap.size, 0, none⟩ = some (.int .i64 p.st) ∧ W.cell? ⟨w.heap.size, 1, none⟩ = some (.slice a0 p.ins.length a1) ∧ W.cell? ⟨w.heap.size, 2, none⟩ = some (.slice b0 p.flows.length b1) ∧ W.cell? ⟨w.heap.size, 3, none⟩ = some (.slice c0 p.outs.length c1) ∧ W.cell? ⟨w9.heap.size, 0, none⟩ = some (.int .i64 p.st) ∧ W.cell? ⟨w9.heap.size, 1, none⟩ = some (.slice (some ⟨ib, 0, none⟩) p.ins.length ic) ∧ W.cell? ⟨w9.heap.size, 2, none⟩ = some (.slice (some ⟨fb, 0, none⟩) p.flows.length fc) ∧ W.cell? ⟨w9.heap.size, 3, none⟩ = some (.slice (some ⟨ob, 0, none⟩) p.outs.length oc)) (by kernel_rfl) ?_ (fun hHeld => ?_)
    · exact ⟨s0, s1, s2, s3, q0, q1, q2, q3⟩
    refine wpAnyH_take (i := 0) (oi := { dst := some 8, op := Go.Op.load 26 (Go.Operand.tmp 3), type := 26, pos := _, after := #[], guard := none }) (v := ?_) rfl (by kernel_rfl) (by kernel_rfl) (by kernel_rfl) (fun _ _ _ h => h) (Or.inl ⟨by rfl, ?_⟩) (by assumption) ?_
    rotate_left
    · intro w hSw; (try dsimp only at hSw); go_simp <;> first | with_reducible rfl | (rw [if_neg (by first | omega | (simp only [ByteArray.size_append] at *; omega))])
    simp only [Act.put, List.setIfInBounds_toArray, List.set_cons_zero, List.set_cons_succ]
    refine wpAnyH_take (i := 2) (oi := { dst := some 10, op := Go.Op.load 26 (Go.Operand.tmp 1), type := 26, pos := _, after := #[], guard := none }) (v := ?_) rfl (by kernel_rfl) (by kernel_rfl) (by kernel_rfl) (fun _ _ _ h => h) (Or.inl ⟨by rfl, ?_⟩) (by assumption) ?_
    rotate_left
    · intro w hSw; (try dsimp only at hSw); go_simp <;> first | with_reducible rfl | (rw [if_neg (by first | omega | (simp only [ByteArray.size_append] at *; omega))])
    simp only [Act.put, List.setIfInBounds_toArray, List.set_cons_zero, List.set_cons_succ]
    refine wpAnyH_ready (rs := [1]) (by kernel_rfl) (by simp) ?_
    refine AllReadyH.cons (o := { dst := some 9, op := Go.Op.call { callee := Go.Callee.value (Go.Operand.func 17), args := #[Go.Operand.tmp 8], argTypes := #[26] }, type := 36, pos := _, after := #[{ on := 0, ground := Go.Ground.data }], guard := none }) rfl (fun K hK => ?_) AllReadyH.nil
    go_simp
    refine c10.mono ?_
    rintro e v1 ⟨rfl, hb1⟩
    have G1 := hid (G0.out.keep ((Below.refl _ _).drew.trans (hb1.mono (by simp))))
    have T1 := hid (T0.out.keep ((Below.refl _ _).drew.trans (hb1.mono (by simp))))
    have K1 := hid (keep_row K0.out ((Below.refl _ _).drew.trans (hb1.mono (by simp))))
    obtain ⟨x10, x11, x12, x13⟩ := row4 G1.out.row
    obtain ⟨z10, z11, z12, z13⟩ := row4 K1.out
    clear hb1
    go_wp2_with fail
    refine hK.out _ _ ?_ (fun hHeld1 => ?_)
    · exact ⟨x10, x11, x12, x13, z10, z11, z12, z13⟩
    clear hK K
    refine wpAnyH_ready (rs := [3]) (by kernel_rfl) (by simp) ?_
    refine AllReadyH.cons (o := { dst := some 11, op := Go.Op.call { callee := Go.Callee.value (Go.Operand.func 18), args := #[Go.Operand.tmp 10], argTypes := #[26] }, type := 36, pos := _, after := #[{ on := 2, ground := Go.Ground.data }, { on := 1, ground := Go.Ground.chain }], guard := none }) rfl (fun K hK => ?_) AllReadyH.nil
    go_simp
    have c11 := rtypes_check p (fun x hx => rof_ok p x hx) _ _ _ _ G1.out.P G1.out.R G1.out.J
    rw [rck_eq] at c11
    refine c11.mono ?_
    rintro e v2 ⟨rfl, hb2⟩
    have G2 := hid (G1.out.keep hb2)
    have T2 := hid (T1.out.keep hb2)
    have K2 := hid (keep_row K1.out hb2)
    obtain ⟨x20, x21, x22, x23⟩ := row4 G2.out.row
    obtain ⟨z20, z21, z22, z23⟩ := row4 K2.out
    clear hb2
    go_wp2_with fail
    refine hK.out _ _ ?_ (fun hHeld2 => ?_)
    · exact ⟨x20, x21, x22, x23, z20, z21, z22, z23⟩
    clear hK K
    refine wpAnyH_take (i := 4) (oi := { dst := some 12, op := Go.Op.binOp Go.BinOp.eql 36 (Go.Operand.tmp 9) (Go.Operand.tmp 11) 36, type := 4, pos := _, after := #[{ on := 1, ground := Go.Ground.data }, { on := 3, ground := Go.Ground.data }], guard := none }) (v := ?_) rfl (by kernel_rfl) (by kernel_rfl) (by kernel_rfl) (fun _ _ _ h => h) (Or.inl ⟨by rfl, ?_⟩) (by assumption) ?_
    rotate_left
    · intro w hSw; (try dsimp only at hSw); go_simp <;> first | with_reducible rfl | (rw [if_neg (by first | omega | (simp only [ByteArray.size_append] at *; omega))])
    simp only [Act.put, List.setIfInBounds_toArray, List.set_cons_zero, List.set_cons_succ]
    refine wpAnyH_take (i := 5) (oi := { dst := some 13, op := Go.Op.move (Go.Operand.tmp 12), type := 4, pos := _, after := #[{ on := 4, ground := Go.Ground.data }, { on := 3, ground := Go.Ground.chain }], guard := none }) (v := ?_) rfl (by kernel_rfl) (by kernel_rfl) (by kernel_rfl) (fun _ _ _ h => h) (Or.inl ⟨by rfl, ?_⟩) (by assumption) ?_
    rotate_left
    · intro w hSw; (try dsimp only at hSw); go_simp <;> first | with_reducible rfl | (rw [if_neg (by first | omega | (simp only [ByteArray.size_append] at *; omega))])
    simp only [Act.put, List.setIfInBounds_toArray, List.set_cons_zero, List.set_cons_succ]
    refine wpAnyH_take (i := 6) (oi := { dst := some 14, op := Go.Op.load 26 (Go.Operand.tmp 3), type := 26, pos := _, after := #[{ on := 5, ground := Go.Ground.guard }], guard := some (5, true) }) (v := ?_) rfl (by kernel_rfl) (by kernel_rfl) (by kernel_rfl) (fun _ _ _ h => h) (Or.inl ⟨by rfl, ?_⟩) (by assumption) ?_
    rotate_left
    · intro w hSw; (try dsimp only at hSw); go_simp <;> first | with_reducible rfl | (rw [if_neg (by first | omega | (simp only [ByteArray.size_append] at *; omega))])
    simp only [Act.put, List.setIfInBounds_toArray, List.set_cons_zero, List.set_cons_succ]
    refine wpAnyH_take (i := 7) (oi := { dst := some 15, op := Go.Op.load 26 (Go.Operand.tmp 1), type := 26, pos := _, after := #[{ on := 5, ground := Go.Ground.guard }], guard := some (5, true) }) (v := ?_) rfl (by kernel_rfl) (by kernel_rfl) (by kernel_rfl) (fun _ _ _ h => h) (Or.inl ⟨by rfl, ?_⟩) (by assumption) ?_
    rotate_left
    · intro w hSw; (try dsimp only at hSw); go_simp <;> first | with_reducible rfl | (rw [if_neg (by first | omega | (simp only [ByteArray.size_append] at *; omega))])
    simp only [Act.put, List.setIfInBounds_toArray, List.set_cons_zero, List.set_cons_succ]
    refine wpAnyH_ready (rs := [8]) (by kernel_rfl) (by simp) ?_
    refine AllReadyH.cons (o := { dst := some 16, op := Go.Op.call { callee := Go.Callee.value (Go.Operand.func 15), args := #[Go.Operand.tmp 14, Go.Operand.tmp 15], argTypes := #[26, 26] }, type := 4, pos := _, after := #[{ on := 6, ground := Go.Ground.data }, { on := 7, ground := Go.Ground.data }, { on := 5, ground := Go.Ground.chain }, { on := 5, ground := Go.Ground.guard }], guard := some (5, true) }) rfl (fun K hK => ?_) AllReadyH.nil
    go_simp
    have c12 := left_prog p _ _ _ _ _ _ _ _ T2.out G2.out.P
    refine c12.mono ?_
    rintro e v3 ⟨rfl, hb3⟩
    have G3 := hid (G2.out.keep hb3)
    have T3 := hid (T2.out.keep hb3)
    have K3 := hid (keep_row K2.out hb3)
    obtain ⟨x30, x31, x32, x33⟩ := row4 G3.out.row
    obtain ⟨z30, z31, z32, z33⟩ := row4 K3.out
    clear hb3
    go_wp2_with fail
    refine hK.out _ _ ?_ (fun hHeld3 => ?_)
    · exact ⟨x30, x31, x32, x33, z30, z31, z32, z33⟩
    clear hK K
    refine wpAnyH_take (i := 9) (oi := { dst := some 17, op := Go.Op.pick (Go.Operand.tmp 13) (Go.Operand.tmp 16) (Go.Operand.const (Go.Value.bool false)), type := 4, pos := _, after := #[{ on := 5, ground := Go.Ground.data }, { on := 8, ground := Go.Ground.data }], guard := none }) (v := ?_) rfl (by kernel_rfl) (by kernel_rfl) (by kernel_rfl) (fun _ _ _ h => h) (Or.inl ⟨by rfl, ?_⟩) (by assumption) ?_
    rotate_left
    · intro w hSw; (try dsimp only at hSw); go_simp <;> first | with_reducible rfl | (rw [if_neg (by first | omega | (simp only [ByteArray.size_append] at *; omega))])
    simp only [Act.put, List.setIfInBounds_toArray, List.set_cons_zero, List.set_cons_succ]
    refine wpAnyH_take (i := 10) (oi := { dst := some 2, op := Go.Op.assign (Go.Operand.tmp 17), type := 4, pos := _, after := #[{ on := 9, ground := Go.Ground.data }, { on := 8, ground := Go.Ground.chain }, { on := 0, ground := Go.Ground.phase }, { on := 1, ground := Go.Ground.phase }, { on := 2, ground := Go.Ground.phase }, { on := 3, ground := Go.Ground.phase }, { on := 4, ground := Go.Ground.phase }, { on := 5, ground := Go.Ground.phase }, { on := 6, ground := Go.Ground.phase }, { on := 7, ground := Go.Ground.phase }, { on := 8, ground := Go.Ground.phase }, { on := 9, ground := Go.Ground.phase }], guard := none }) (v := ?_) rfl (by kernel_rfl) (by kernel_rfl) (by kernel_rfl) (fun _ _ _ h => h) (Or.inl ⟨by rfl, ?_⟩) (by assumption) ?_
    rotate_left
    · intro w hSw; (try dsimp only at hSw); go_simp <;> first | with_reducible rfl | (rw [if_neg (by first | omega | (simp only [ByteArray.size_append] at *; omega))])
    simp only [Act.put, List.setIfInBounds_toArray, List.set_cons_zero, List.set_cons_succ]
    refine wpAnyH_done (by kernel_rfl) ?_ _
    have hB := G3.out.below
    go_wp2_with (fail)
    go_ret
    exact ⟨rfl, hB⟩
end Go.Proofs.YtakjkhfglihggaaDoor.Lex
