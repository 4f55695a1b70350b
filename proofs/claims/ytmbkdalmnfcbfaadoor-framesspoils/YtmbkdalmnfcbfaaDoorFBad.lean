/-
  frames.Get, where the sum is wrong.
-/
import Derived.Test.YtmbkdalmnfcbfaaDoorFGet
namespace Go.Proofs.YtmbkdalmnfcbfaaDoor.Bits
open Go.ChangeShapes Go.WideShapes Go.ChangeAt Go.RowKit Go.Shelf Go.Maps
set_option maxRecDepth 100000 in
set_option maxHeartbeats 1000000 in
theorem fget_sum (b o len cap : Nat) (B : List Int) (w : World) (hE : Elems w (some ⟨b, o, none⟩) len B) (hW : Wid w) (hcap : len ≤ cap) (hl : 13 + H5 B 4 ≤ len) (hgl : len = 13 + H5 B 4) (hbad : val (part B (8 * (9 + H5 B 4)) 32) ≠ sumOf (B.take (9 + H5 B 4))) :
    Calls Tryd.prog 7 #[.slice (some ⟨b, o, none⟩) len cap] w fun e w' => Below w.heap.size w w' ∧ e = .returned (.tuple #[fr0, .int .i64 5]) := by
  have hl' : (13 : Int) ≤ (len : Int) := by omega
  have hH' : H5 B 4 < 4096 := by have h := H5_lt B 4; rw [show K5 4 = 12 from rfl] at h; omega
  have hb0 : Below w.heap.size w (w.alloc (.cells #[.int .i64 0, .int .u32 0, .int .u8 0, .int .u16 0, .slice none 0 0] 26)) := (Below.refl _ _).alloc (Nat.le_refl _) _
  have hE0 := hE.below hb0
  have hW0 := hW.below hb0
  have hlt : 9 + (H5 B 4 : Int) + 4 ≤ (len : Int) := by omega
  have HR0 : Hid ((w.alloc (.cells #[.int .i64 0, .int .u32 0, .int .u8 0, .int .u16 0, .slice none 0 0] 26)).heap[w.heap.size]? = some (.cells #[.int .i64 0, .int .u32 0, .int .u8 0, .int .u16 0, .slice none 0 0] 26)) := heap_alloc_new w _
  have hpb := val_lt (part B (8 * (9 + H5 B 4)) 32)
  rw [part_length] at hpb
  have hh0 : H5 B 0 < 16 := by have h := H5_lt B 0; rw [show K5 0 = 4 from rfl] at h; omega
  have hh1 : H5 B 1 < 4294967296 := by have h := H5_lt B 1; rw [show K5 1 = 32 from rfl] at h; omega
  have hh2 : H5 B 2 < 256 := by have h := H5_lt B 2; rw [show K5 2 = 8 from rfl] at h; omega
  have hh3 : H5 B 3 < 65536 := by have h := H5_lt B 3; rw [show K5 3 = 16 from rfl] at h; omega
  obtain ⟨n, hn⟩ : ∃ n, H5 B 4 = n := ⟨_, rfl⟩
  obtain ⟨n0, hn0⟩ : ∃ n, H5 B 0 = n := ⟨_, rfl⟩
  obtain ⟨n1, hn1⟩ : ∃ n, H5 B 1 = n := ⟨_, rfl⟩
  obtain ⟨n2, hn2⟩ : ∃ n, H5 B 2 = n := ⟨_, rfl⟩
  obtain ⟨n3, hn3⟩ : ∃ n, H5 B 3 = n := ⟨_, rfl⟩
  rw [hn] at hH' hlt hl hpb hgl hbad
  have Hgl : Hid (len = 13 + n) := hgl
  clear hgl
  rw [hn0] at hh0
  rw [hn1] at hh1
  rw [hn2] at hh2
  rw [hn3] at hh3
  obtain ⟨sm, hsm⟩ : ∃ q, val (part B (8 * (9 + n)) 32) = q := ⟨_, rfl⟩
  rw [hsm] at hpb hbad
  obtain ⟨cs, hcs⟩ : ∃ c, sumOf (B.take (9 + n)) = c := ⟨_, rfl⟩
  rw [hcs] at hbad
  have hne3 : ((sm : Int) != (cs : Int)) = true := by simp; omega
  clear hbad
  have hcsl : cs < 4294967296 := by rw [← hcs]; have h := sumOf_lt (B.take (9 + n)); omega
  have Hn : Hid (H5 B 4 = n) := hn
  have Hn0 : Hid (H5 B 0 = n0) := hn0
  have Hn1 : Hid (H5 B 1 = n1) := hn1
  have Hn2 : Hid (H5 B 2 = n2) := hn2
  have Hn3 : Hid (H5 B 3 = n3) := hn3
  have Hsm : Hid (val (part B (8 * (9 + n)) 32) = sm) := hsm
  have Hcs : Hid (sumOf (B.take (9 + n)) = cs) := hcs
  clear hn hn0 hn1 hn2 hn3 hsm hcs
  go_enter Tryd.func7, Tryd.ntmps7
  go_wp2_with (first
    | (go_at_call 20; refine (head _ len cap B _ hE0 hW0 (by omega)).mono ?_; rintro e w1 ⟨rfl, hk1⟩; rw [Hn.out, Hn0.out, Hn1.out, Hn2.out, Hn3.out]; have hR1 : Hid (w1.heap[w.heap.size]? = some (.cells #[.int .i64 0, .int .u32 0, .int .u8 0, .int .u16 0, .slice none 0 0] 26 (0, 0))) := row_kept HR0.out hk1; have hE1 := hE0.below hk1; have hb1 := bstep hb0 hk1; have hw1 : w1.cell? ⟨0, 5, none⟩ = some (.int .i64 32) := hW.below hb1 5 (by decide); have hne1 : 0 < w1.heap.size := World.block_lt_of_cell? w1 _ hw1; have hne2 : ¬ (0 = w1.heap.size) := (by omega); have hlw : w.heap.size < w1.heap.size := row_lt hR1.out)
    | (go_at_call 21; refine (get_ok_c _ len cap B (8 * (9 + n)) 32 _ (hE1.below (below_alloc _ _)) (by decide) (by omega) _ _ (by omega) (by rfl)).mono ?_; rintro e w2 ⟨rfl, hk2⟩; rw [Hsm.out]; have hN2 : Hid (w2.heap[w1.heap.size]? = some (.cells #[.int .u64 (n0 : Int), .int .u64 (n1 : Int), .int .u64 (n2 : Int), .int .u64 (n3 : Int), .int .u64 (n : Int), .int .u64 0] 50 (0, 0))) := row_kept (heap_alloc_new _ _) hk2; obtain ⟨old, hold, hfr⟩ := row_at (i := 5) hN2.out (by simp); have hk2' := bstep (below_alloc w1 _) hk2))
  have hb3 : Below w.heap.size w (w2.setCell ⟨w1.heap.size, 5, none⟩ (.int .u64 (sm : Int))) := below_set (bstep hb1 hk2') (by omega) _ _
  have hk3 : Below w1.heap.size w1 (w2.setCell ⟨w1.heap.size, 5, none⟩ (.int .u64 (sm : Int))) := below_set hk2' (Nat.le_refl _) _ _
  have hR3 := row_kept hR1.out hk3
  have hE3 := hE1.below hk3
  have hN3 := heap_set_same hN2.out 5 (.int .u64 (sm : Int))
  generalize w2.setCell ⟨w1.heap.size, 5, none⟩ (.int .u64 (sm : Int)) = W3 at hb3 hR3 hE3 hN3 ⊢
  have HR3 : Hid (W3.heap[w.heap.size]? = some (.cells #[.int .i64 0, .int .u32 0, .int .u8 0, .int .u16 0, .slice none 0 0] 26 (0, 0))) := hR3
  obtain ⟨x0, x1, x2, x3, x4, x5⟩ := row6 (x0 := .int .u64 (n0 : Int)) (x1 := .int .u64 (n1 : Int)) (x2 := .int .u64 (n2 : Int)) (x3 := .int .u64 (n3 : Int)) (x4 := .int .u64 (n : Int)) (x5 := .int .u64 (sm : Int)) hN3
  clear hN3 hR3 hN2 hold hfr hk2 hk2' hk1 hE1 hE0 hW0 HR0 hb0 hR1 hw1 hb1 hk3 hE
  generalize w1.heap.size = nb at x0 x1 x2 x3 x4 x5 hlw hne1 hne2 ⊢
  obtain ⟨⟨c0, c1, c2, c3, c4⟩, f0, f1, f2, f3, f4⟩ := row5 HR3.out
  have hc := Hgl.out
  have hlt2 : (len : Int) ≤ 9 + (n : Int) + 4 := by omega
  have hET := hE3.take (9 + n) (by omega)
  have hi0 : (0 : Int) ≤ 9 + (n : Int) := by omega
  have hi1 : 9 + (n : Int) ≤ (cap : Int) := by omega
  have hwr : IntKind.i64.wrap (9 + (n : Int) + 4) = 9 + (n : Int) + 4 := by rw [IntKind.wrap_i64]; omega
  have hdec : decide (9 + (n : Int) + 4 < (len : Int)) = false := decide_eq_false (by omega)
  have hwc : IntKind.u64.wrap (cs : Int) = (cs : Int) := by rw [IntKind.wrap_u64]; omega
  have hwn0 : IntKind.i64.wrap (n0 : Int) = (n0 : Int) := by rw [IntKind.wrap_i64]; omega
  clear hc
  refine wp_region_held_drew (S := fun w' => w'.cell? ⟨nb, 5, none⟩ = some (.int .u64 (sm : Int))) (by kernel_rfl) ?_ (fun hHeld => ?_)
  · exact x5
  refine wpAnyH_take (i := 0) (oi := { dst := some 33, op := Op.move (Operand.tmp 0), type := 24, pos := _, after := #[], guard := none }) (v := ?_) rfl (by kernel_rfl) (by kernel_rfl) (by kernel_rfl) (fun _ _ _ h => h) (Or.inl ⟨by rfl, ?_⟩) (by assumption) ?_
  rotate_left
  · intro w hSw; (try dsimp only at hSw); go_simp <;> with_reducible rfl
  simp only [Act.put, List.setIfInBounds_toArray, List.set_cons_zero, List.set_cons_succ]
  refine wpAnyH_take (i := 1) (oi := { dst := some 34, op := Op.call { callee := Callee.builtin Builtin.len, args := #[Operand.tmp 33], argTypes := #[24] }, type := 3, pos := _, after := #[{ on := 0, ground := Ground.data }], guard := none }) (v := ?_) rfl (by kernel_rfl) (by kernel_rfl) (by kernel_rfl) (fun _ _ _ h => h) (Or.inl ⟨by rfl, ?_⟩) (by assumption) ?_
  rotate_left
  · intro w hSw; (try dsimp only at hSw); go_simp <;> with_reducible rfl
  simp only [Act.put, List.setIfInBounds_toArray, List.set_cons_zero, List.set_cons_succ]
  refine wpAnyH_take (i := 2) (oi := { dst := some 35, op := Op.move (Operand.tmp 5), type := 3, pos := _, after := #[], guard := none }) (v := ?_) rfl (by kernel_rfl) (by kernel_rfl) (by kernel_rfl) (fun _ _ _ h => h) (Or.inl ⟨by rfl, ?_⟩) (by assumption) ?_
  rotate_left
  · intro w hSw; (try dsimp only at hSw); go_simp <;> with_reducible rfl
  simp only [Act.put, List.setIfInBounds_toArray, List.set_cons_zero, List.set_cons_succ]
  refine wpAnyH_take (i := 3) (oi := { dst := some 36, op := Op.binOp BinOp.add 3 (Operand.tmp 35) (Operand.const (Value.int IntKind.i64 4)) 3, type := 3, pos := _, after := #[{ on := 2, ground := Ground.data }], guard := none }) (v := ?_) rfl (by kernel_rfl) (by kernel_rfl) (by kernel_rfl) (fun _ _ _ h => h) (Or.inl ⟨by rfl, ?_⟩) (by assumption) ?_
  rotate_left
  · intro w hSw; (try dsimp only at hSw); go_simp <;> with_reducible rfl
  simp only [Act.put, List.setIfInBounds_toArray, List.set_cons_zero, List.set_cons_succ]
  refine wpAnyH_take (i := 4) (oi := { dst := some 37, op := Op.binOp BinOp.gtr 3 (Operand.tmp 34) (Operand.tmp 36) 3, type := 4, pos := _, after := #[{ on := 1, ground := Ground.data }, { on := 3, ground := Ground.data }], guard := none }) (v := ?_) rfl (by kernel_rfl) (by kernel_rfl) (by kernel_rfl) (fun _ _ _ h => h) (Or.inl ⟨by rfl, ?_⟩) (by assumption) ?_
  rotate_left
  · intro w hSw; (try dsimp only at hSw); go_simp <;> with_reducible rfl
  simp only [Act.put, List.setIfInBounds_toArray, List.set_cons_zero, List.set_cons_succ]
  refine wpAnyH_take (i := 5) (oi := { dst := some 38, op := Op.move (Operand.tmp 37), type := 4, pos := _, after := #[{ on := 4, ground := Ground.data }], guard := none }) (v := ?_) rfl (by kernel_rfl) (by kernel_rfl) (by kernel_rfl) (fun _ _ _ h => h) (Or.inl ⟨by rfl, ?_⟩) (by assumption) ?_
  rotate_left
  · intro w hSw; (try dsimp only at hSw); go_simp <;> with_reducible rfl
  simp only [Act.put, List.setIfInBounds_toArray, List.set_cons_zero, List.set_cons_succ]
  refine wpAnyH_take (i := 6) (oi := { dst := some 39, op := Op.indexAddr 50 (Operand.tmp 4) (Operand.const (Value.int IntKind.i64 5)), type := 0, pos := _, after := #[{ on := 5, ground := Ground.guard }], guard := some (5, false) }) (v := ?_) rfl (by kernel_rfl) (by kernel_rfl) (by kernel_rfl) (fun _ _ _ h => h) (Or.inl ⟨by rfl, ?_⟩) (by assumption) ?_
  rotate_left
  · intro w hSw; (try dsimp only at hSw); go_simp <;> with_reducible rfl
  simp only [Act.put, List.setIfInBounds_toArray, List.set_cons_zero, List.set_cons_succ]
  refine wpAnyH_take (i := 7) (oi := { dst := some 40, op := Op.load 49 (Operand.tmp 39), type := 49, pos := _, after := #[{ on := 6, ground := Ground.data }, { on := 5, ground := Ground.guard }], guard := some (5, false) }) (v := ?_) rfl (by kernel_rfl) (by kernel_rfl) (by kernel_rfl) (fun _ _ _ h => h) (Or.inl ⟨by rfl, ?_⟩) (by assumption) ?_
  rotate_left
  · intro w hSw; (try dsimp only at hSw); go_simp <;> with_reducible rfl
  simp only [Act.put, List.setIfInBounds_toArray, List.set_cons_zero, List.set_cons_succ]
  refine wpAnyH_take (i := 8) (oi := { dst := some 41, op := Op.move (Operand.tmp 0), type := 24, pos := _, after := #[{ on := 5, ground := Ground.guard }], guard := some (5, false) }) (v := ?_) rfl (by kernel_rfl) (by kernel_rfl) (by kernel_rfl) (fun _ _ _ h => h) (Or.inl ⟨by rfl, ?_⟩) (by assumption) ?_
  rotate_left
  · intro w hSw; (try dsimp only at hSw); go_simp <;> with_reducible rfl
  simp only [Act.put, List.setIfInBounds_toArray, List.set_cons_zero, List.set_cons_succ]
  refine wpAnyH_take (i := 9) (oi := { dst := some 42, op := Op.move (Operand.tmp 5), type := 3, pos := _, after := #[{ on := 5, ground := Ground.guard }], guard := some (5, false) }) (v := ?_) rfl (by kernel_rfl) (by kernel_rfl) (by kernel_rfl) (fun _ _ _ h => h) (Or.inl ⟨by rfl, ?_⟩) (by assumption) ?_
  rotate_left
  · intro w hSw; (try dsimp only at hSw); go_simp <;> with_reducible rfl
  simp only [Act.put, List.setIfInBounds_toArray, List.set_cons_zero, List.set_cons_succ]
  refine wpAnyH_take (i := 10) (oi := { dst := some 43, op := Op.slice 24 (Operand.tmp 41) none (some (Operand.tmp 42)) none, type := 24, pos := _, after := #[{ on := 8, ground := Ground.data }, { on := 9, ground := Ground.data }, { on := 5, ground := Ground.guard }], guard := some (5, false) }) (v := ?_) rfl (by kernel_rfl) (by kernel_rfl) (by kernel_rfl) (fun _ _ _ h => h) (Or.inl ⟨by rfl, ?_⟩) (by assumption) ?_
  rotate_left
  · intro w hSw; (try dsimp only at hSw); go_simp <;> with_reducible rfl
  simp only [Act.put, List.setIfInBounds_toArray, List.set_cons_zero, List.set_cons_succ]
  refine wpAnyH_ready (rs := [11]) (by kernel_rfl) (by simp) ?_
  refine AllReadyH.cons (o := { dst := some 44, op := Op.call { callee := Callee.value (Operand.func 18), args := #[Operand.tmp 43], argTypes := #[24] }, type := 22, pos := _, after := #[{ on := 10, ground := Ground.data }, { on := 5, ground := Ground.chain }, { on := 5, ground := Ground.guard }], guard := some (5, false) }) rfl (fun K hK => ?_) AllReadyH.nil
  go_simp
  refine (crcOf _ (9 + n) _ (B.take (9 + n)) _ (by first | exact hET | exact hET.below (below_drew (Below.refl _ _)))).mono ?_
  rintro e w7 ⟨rfl, hk7⟩
  rw [Hcs.out]
  have hk8 : Below W3.heap.size W3 w7 := by first | exact hk7 | exact bstep (below_drew (Below.refl _ _)) hk7
  go_wp2_with fail
  refine hK.out _ _ ?_ (fun hHeld2 => ?_)
  · exact (hk8.cell (World.block_lt_of_cell? W3 _ x5)).trans x5
  clear hK K
  refine wpAnyH_take (i := 12) (oi := { dst := some 45, op := Op.convert 22 49 (Operand.tmp 44), type := 49, pos := _, after := #[{ on := 11, ground := Ground.data }, { on := 5, ground := Ground.guard }], guard := some (5, false) }) (v := ?_) rfl (by kernel_rfl) (by kernel_rfl) (by kernel_rfl) (fun _ _ _ h => h) (Or.inl ⟨by rfl, ?_⟩) (by assumption) ?_
  rotate_left
  · intro w hSw; (try dsimp only at hSw); go_simp <;> with_reducible rfl
  simp only [Act.put, List.setIfInBounds_toArray, List.set_cons_zero, List.set_cons_succ]
  refine wpAnyH_take (i := 13) (oi := { dst := some 46, op := Op.binOp BinOp.neq 49 (Operand.tmp 40) (Operand.tmp 45) 49, type := 4, pos := _, after := #[{ on := 7, ground := Ground.data }, { on := 12, ground := Ground.data }, { on := 5, ground := Ground.guard }], guard := some (5, false) }) (v := ?_) rfl (by kernel_rfl) (by kernel_rfl) (by kernel_rfl) (fun _ _ _ h => h) (Or.inl ⟨by rfl, ?_⟩) (by assumption) ?_
  rotate_left
  · intro w hSw; (try dsimp only at hSw); go_simp <;> with_reducible rfl
  simp only [Act.put, List.setIfInBounds_toArray, List.set_cons_zero, List.set_cons_succ]
  refine wpAnyH_take (i := 14) (oi := { dst := some 47, op := Op.pick (Operand.tmp 38) (Operand.const (Value.bool true)) (Operand.tmp 46), type := 4, pos := _, after := #[{ on := 5, ground := Ground.data }, { on := 13, ground := Ground.data }], guard := none }) (v := ?_) rfl (by kernel_rfl) (by kernel_rfl) (by kernel_rfl) (fun _ _ _ h => h) (Or.inl ⟨by rfl, ?_⟩) (by assumption) ?_
  rotate_left
  · intro w hSw; (try dsimp only at hSw); go_simp <;> with_reducible rfl
  simp only [Act.put, List.setIfInBounds_toArray, List.set_cons_zero, List.set_cons_succ]
  refine wpAnyH_take (i := 15) (oi := { dst := some 48, op := Op.move (Operand.tmp 47), type := 4, pos := _, after := #[{ on := 14, ground := Ground.data }, { on := 11, ground := Ground.chain }], guard := none }) (v := ?_) rfl (by kernel_rfl) (by kernel_rfl) (by kernel_rfl) (fun _ _ _ h => h) (Or.inl ⟨by rfl, ?_⟩) (by assumption) ?_
  rotate_left
  · intro w hSw; (try dsimp only at hSw); go_simp <;> with_reducible rfl
  simp only [Act.put, List.setIfInBounds_toArray, List.set_cons_zero, List.set_cons_succ]
  refine wpAnyH_take (i := 16) (oi := { dst := some 49, op := Op.indexAddr 50 (Operand.tmp 4) (Operand.const (Value.int IntKind.i64 0)), type := 0, pos := _, after := #[{ on := 15, ground := Ground.guard }], guard := some (15, false) }) (v := undef) rfl (by kernel_rfl) (by kernel_rfl) (by kernel_rfl) (fun _ _ _ h => h) (Or.inr ⟨by rfl, rfl⟩) (by assumption) ?_
  simp only [Act.put, List.setIfInBounds_toArray, List.set_cons_zero, List.set_cons_succ]
  refine wpAnyH_take (i := 17) (oi := { dst := some 50, op := Op.load 49 (Operand.tmp 49), type := 49, pos := _, after := #[{ on := 16, ground := Ground.data }, { on := 15, ground := Ground.guard }], guard := some (15, false) }) (v := undef) rfl (by kernel_rfl) (by kernel_rfl) (by kernel_rfl) (fun _ _ _ h => h) (Or.inr ⟨by rfl, rfl⟩) (by assumption) ?_
  simp only [Act.put, List.setIfInBounds_toArray, List.set_cons_zero, List.set_cons_succ]
  refine wpAnyH_take (i := 18) (oi := { dst := some 51, op := Op.convert 49 3 (Operand.tmp 50), type := 3, pos := _, after := #[{ on := 17, ground := Ground.data }, { on := 15, ground := Ground.guard }], guard := some (15, false) }) (v := undef) rfl (by kernel_rfl) (by kernel_rfl) (by kernel_rfl) (fun _ _ _ h => h) (Or.inr ⟨by rfl, rfl⟩) (by assumption) ?_
  simp only [Act.put, List.setIfInBounds_toArray, List.set_cons_zero, List.set_cons_succ]
  refine wpAnyH_take (i := 19) (oi := { dst := some 52, op := Op.call { callee := Callee.value (Operand.func 15), args := #[Operand.tmp 51], argTypes := #[3] }, type := 4, pos := _, after := #[{ on := 18, ground := Ground.data }, { on := 15, ground := Ground.chain }, { on := 15, ground := Ground.guard }], guard := some (15, false) }) (v := undef) rfl (by kernel_rfl) (by kernel_rfl) (by kernel_rfl) (fun _ _ _ h => h) (Or.inr ⟨by rfl, rfl⟩) (by assumption) ?_
  simp only [Act.put, List.setIfInBounds_toArray, List.set_cons_zero, List.set_cons_succ]
  refine wpAnyH_take (i := 20) (oi := { dst := some 53, op := Op.unOp UnOp.not 4 (Operand.tmp 52), type := 4, pos := _, after := #[{ on := 19, ground := Ground.data }, { on := 15, ground := Ground.guard }], guard := some (15, false) }) (v := undef) rfl (by kernel_rfl) (by kernel_rfl) (by kernel_rfl) (fun _ _ _ h => h) (Or.inr ⟨by rfl, rfl⟩) (by assumption) ?_
  simp only [Act.put, List.setIfInBounds_toArray, List.set_cons_zero, List.set_cons_succ]
  refine wpAnyH_take (i := 21) (oi := { dst := some 54, op := Op.pick (Operand.tmp 48) (Operand.const (Value.bool true)) (Operand.tmp 53), type := 4, pos := _, after := #[{ on := 15, ground := Ground.data }, { on := 20, ground := Ground.data }], guard := none }) (v := ?_) rfl (by kernel_rfl) (by kernel_rfl) (by kernel_rfl) (fun _ _ _ h => h) (Or.inl ⟨by rfl, ?_⟩) (by assumption) ?_
  rotate_left
  · intro w hSw; (try dsimp only at hSw); go_simp <;> with_reducible rfl
  simp only [Act.put, List.setIfInBounds_toArray, List.set_cons_zero, List.set_cons_succ]
  refine wpAnyH_done (by kernel_rfl) ?_ _
  obtain ⟨⟨d0, d1, d2, d3, d4⟩, e0, e1, e2, e3, e4⟩ := row5 (row_kept HR3.out hk8)
  go_wp2
  refine bodyPost_ret (v := .tuple #[fr0, .int .i64 5]) (res5 rfl rfl (set5 (w := w7) (row_kept HR3.out hk8) _ _ _ _ _)) rfl ⟨?_, rfl⟩
  exact below_set5 (bstep hb3 hk8) (Nat.le_refl _) _ _ _ _ _
set_option maxRecDepth 100000 in
set_option maxHeartbeats 1000000 in
theorem fget_station (b o len cap : Nat) (B : List Int) (w : World) (hE : Elems w (some ⟨b, o, none⟩) len B) (hW : Wid w) (hcap : len ≤ cap) (hl : 13 + H5 B 4 ≤ len) (hgl : len = 13 + H5 B 4) (hbad : val (part B (8 * (9 + H5 B 4)) 32) = sumOf (B.take (9 + H5 B 4))) (hst : ¬ (1 ≤ H5 B 0 ∧ H5 B 0 ≤ 8)) :
    Calls Tryd.prog 7 #[.slice (some ⟨b, o, none⟩) len cap] w fun e w' => Below w.heap.size w w' ∧ e = .returned (.tuple #[fr0, .int .i64 5]) := by
  have hl' : (13 : Int) ≤ (len : Int) := by omega
  have hH' : H5 B 4 < 4096 := by have h := H5_lt B 4; rw [show K5 4 = 12 from rfl] at h; omega
  have hb0 : Below w.heap.size w (w.alloc (.cells #[.int .i64 0, .int .u32 0, .int .u8 0, .int .u16 0, .slice none 0 0] 26)) := (Below.refl _ _).alloc (Nat.le_refl _) _
  have hE0 := hE.below hb0
  have hW0 := hW.below hb0
  have hlt : 9 + (H5 B 4 : Int) + 4 ≤ (len : Int) := by omega
  have HR0 : Hid ((w.alloc (.cells #[.int .i64 0, .int .u32 0, .int .u8 0, .int .u16 0, .slice none 0 0] 26)).heap[w.heap.size]? = some (.cells #[.int .i64 0, .int .u32 0, .int .u8 0, .int .u16 0, .slice none 0 0] 26)) := heap_alloc_new w _
  have hpb := val_lt (part B (8 * (9 + H5 B 4)) 32)
  rw [part_length] at hpb
  have hh0 : H5 B 0 < 16 := by have h := H5_lt B 0; rw [show K5 0 = 4 from rfl] at h; omega
  have hh1 : H5 B 1 < 4294967296 := by have h := H5_lt B 1; rw [show K5 1 = 32 from rfl] at h; omega
  have hh2 : H5 B 2 < 256 := by have h := H5_lt B 2; rw [show K5 2 = 8 from rfl] at h; omega
  have hh3 : H5 B 3 < 65536 := by have h := H5_lt B 3; rw [show K5 3 = 16 from rfl] at h; omega
  obtain ⟨n, hn⟩ : ∃ n, H5 B 4 = n := ⟨_, rfl⟩
  obtain ⟨n0, hn0⟩ : ∃ n, H5 B 0 = n := ⟨_, rfl⟩
  obtain ⟨n1, hn1⟩ : ∃ n, H5 B 1 = n := ⟨_, rfl⟩
  obtain ⟨n2, hn2⟩ : ∃ n, H5 B 2 = n := ⟨_, rfl⟩
  obtain ⟨n3, hn3⟩ : ∃ n, H5 B 3 = n := ⟨_, rfl⟩
  rw [hn] at hH' hlt hl hpb hgl hbad
  have Hgl : Hid (len = 13 + n) := hgl
  clear hgl
  rw [hn0] at hh0 hst
  rw [hn1] at hh1
  rw [hn2] at hh2
  rw [hn3] at hh3
  obtain ⟨sm, hsm⟩ : ∃ q, val (part B (8 * (9 + n)) 32) = q := ⟨_, rfl⟩
  rw [hsm] at hpb hbad
  obtain ⟨cs, hcs⟩ : ∃ c, sumOf (B.take (9 + n)) = c := ⟨_, rfl⟩
  rw [hcs] at hbad
  have hne3 : ((sm : Int) != (cs : Int)) = false := by simp; omega
  have hde : decide (1 ≤ (n0 : Int) ∧ (n0 : Int) ≤ 8) = false := decide_eq_false (by omega)
  clear hst
  clear hbad
  have hcsl : cs < 4294967296 := by rw [← hcs]; have h := sumOf_lt (B.take (9 + n)); omega
  have Hn : Hid (H5 B 4 = n) := hn
  have Hn0 : Hid (H5 B 0 = n0) := hn0
  have Hn1 : Hid (H5 B 1 = n1) := hn1
  have Hn2 : Hid (H5 B 2 = n2) := hn2
  have Hn3 : Hid (H5 B 3 = n3) := hn3
  have Hsm : Hid (val (part B (8 * (9 + n)) 32) = sm) := hsm
  have Hcs : Hid (sumOf (B.take (9 + n)) = cs) := hcs
  clear hn hn0 hn1 hn2 hn3 hsm hcs
  go_enter Tryd.func7, Tryd.ntmps7
  go_wp2_with (first
    | (go_at_call 20; refine (head _ len cap B _ hE0 hW0 (by omega)).mono ?_; rintro e w1 ⟨rfl, hk1⟩; rw [Hn.out, Hn0.out, Hn1.out, Hn2.out, Hn3.out]; have hR1 : Hid (w1.heap[w.heap.size]? = some (.cells #[.int .i64 0, .int .u32 0, .int .u8 0, .int .u16 0, .slice none 0 0] 26 (0, 0))) := row_kept HR0.out hk1; have hE1 := hE0.below hk1; have hb1 := bstep hb0 hk1; have hw1 : w1.cell? ⟨0, 5, none⟩ = some (.int .i64 32) := hW.below hb1 5 (by decide); have hne1 : 0 < w1.heap.size := World.block_lt_of_cell? w1 _ hw1; have hne2 : ¬ (0 = w1.heap.size) := (by omega); have hlw : w.heap.size < w1.heap.size := row_lt hR1.out)
    | (go_at_call 21; refine (get_ok_c _ len cap B (8 * (9 + n)) 32 _ (hE1.below (below_alloc _ _)) (by decide) (by omega) _ _ (by omega) (by rfl)).mono ?_; rintro e w2 ⟨rfl, hk2⟩; rw [Hsm.out]; have hN2 : Hid (w2.heap[w1.heap.size]? = some (.cells #[.int .u64 (n0 : Int), .int .u64 (n1 : Int), .int .u64 (n2 : Int), .int .u64 (n3 : Int), .int .u64 (n : Int), .int .u64 0] 50 (0, 0))) := row_kept (heap_alloc_new _ _) hk2; obtain ⟨old, hold, hfr⟩ := row_at (i := 5) hN2.out (by simp); have hk2' := bstep (below_alloc w1 _) hk2))
  have hb3 : Below w.heap.size w (w2.setCell ⟨w1.heap.size, 5, none⟩ (.int .u64 (sm : Int))) := below_set (bstep hb1 hk2') (by omega) _ _
  have hk3 : Below w1.heap.size w1 (w2.setCell ⟨w1.heap.size, 5, none⟩ (.int .u64 (sm : Int))) := below_set hk2' (Nat.le_refl _) _ _
  have hR3 := row_kept hR1.out hk3
  have hE3 := hE1.below hk3
  have hN3 := heap_set_same hN2.out 5 (.int .u64 (sm : Int))
  generalize w2.setCell ⟨w1.heap.size, 5, none⟩ (.int .u64 (sm : Int)) = W3 at hb3 hR3 hE3 hN3 ⊢
  have HR3 : Hid (W3.heap[w.heap.size]? = some (.cells #[.int .i64 0, .int .u32 0, .int .u8 0, .int .u16 0, .slice none 0 0] 26 (0, 0))) := hR3
  obtain ⟨x0, x1, x2, x3, x4, x5⟩ := row6 (x0 := .int .u64 (n0 : Int)) (x1 := .int .u64 (n1 : Int)) (x2 := .int .u64 (n2 : Int)) (x3 := .int .u64 (n3 : Int)) (x4 := .int .u64 (n : Int)) (x5 := .int .u64 (sm : Int)) hN3
  clear hN3 hR3 hN2 hold hfr hk2 hk2' hk1 hE1 hE0 hW0 HR0 hb0 hR1 hw1 hb1 hk3 hE
  generalize w1.heap.size = nb at x0 x1 x2 x3 x4 x5 hlw hne1 hne2 ⊢
  obtain ⟨⟨c0, c1, c2, c3, c4⟩, f0, f1, f2, f3, f4⟩ := row5 HR3.out
  have hc := Hgl.out
  have hlt2 : (len : Int) ≤ 9 + (n : Int) + 4 := by omega
  have hET := hE3.take (9 + n) (by omega)
  have hi0 : (0 : Int) ≤ 9 + (n : Int) := by omega
  have hi1 : 9 + (n : Int) ≤ (cap : Int) := by omega
  have hwr : IntKind.i64.wrap (9 + (n : Int) + 4) = 9 + (n : Int) + 4 := by rw [IntKind.wrap_i64]; omega
  have hdec : decide (9 + (n : Int) + 4 < (len : Int)) = false := decide_eq_false (by omega)
  have hwc : IntKind.u64.wrap (cs : Int) = (cs : Int) := by rw [IntKind.wrap_u64]; omega
  have hwn0 : IntKind.i64.wrap (n0 : Int) = (n0 : Int) := by rw [IntKind.wrap_i64]; omega
  clear hc
  refine wp_region_held_drew (S := fun w' => w'.cell? ⟨nb, 5, none⟩ = some (.int .u64 (sm : Int)) ∧ w'.cell? ⟨nb, 0, none⟩ = some (.int .u64 (n0 : Int))) (by kernel_rfl) ?_ (fun hHeld => ?_)
  · exact ⟨x5, x0⟩
  refine wpAnyH_take (i := 0) (oi := { dst := some 33, op := Op.move (Operand.tmp 0), type := 24, pos := _, after := #[], guard := none }) (v := ?_) rfl (by kernel_rfl) (by kernel_rfl) (by kernel_rfl) (fun _ _ _ h => h) (Or.inl ⟨by rfl, ?_⟩) (by assumption) ?_
  rotate_left
  · intro w hSw; (try dsimp only at hSw); go_simp <;> with_reducible rfl
  simp only [Act.put, List.setIfInBounds_toArray, List.set_cons_zero, List.set_cons_succ]
  refine wpAnyH_take (i := 1) (oi := { dst := some 34, op := Op.call { callee := Callee.builtin Builtin.len, args := #[Operand.tmp 33], argTypes := #[24] }, type := 3, pos := _, after := #[{ on := 0, ground := Ground.data }], guard := none }) (v := ?_) rfl (by kernel_rfl) (by kernel_rfl) (by kernel_rfl) (fun _ _ _ h => h) (Or.inl ⟨by rfl, ?_⟩) (by assumption) ?_
  rotate_left
  · intro w hSw; (try dsimp only at hSw); go_simp <;> with_reducible rfl
  simp only [Act.put, List.setIfInBounds_toArray, List.set_cons_zero, List.set_cons_succ]
  refine wpAnyH_take (i := 2) (oi := { dst := some 35, op := Op.move (Operand.tmp 5), type := 3, pos := _, after := #[], guard := none }) (v := ?_) rfl (by kernel_rfl) (by kernel_rfl) (by kernel_rfl) (fun _ _ _ h => h) (Or.inl ⟨by rfl, ?_⟩) (by assumption) ?_
  rotate_left
  · intro w hSw; (try dsimp only at hSw); go_simp <;> with_reducible rfl
  simp only [Act.put, List.setIfInBounds_toArray, List.set_cons_zero, List.set_cons_succ]
  refine wpAnyH_take (i := 3) (oi := { dst := some 36, op := Op.binOp BinOp.add 3 (Operand.tmp 35) (Operand.const (Value.int IntKind.i64 4)) 3, type := 3, pos := _, after := #[{ on := 2, ground := Ground.data }], guard := none }) (v := ?_) rfl (by kernel_rfl) (by kernel_rfl) (by kernel_rfl) (fun _ _ _ h => h) (Or.inl ⟨by rfl, ?_⟩) (by assumption) ?_
  rotate_left
  · intro w hSw; (try dsimp only at hSw); go_simp <;> with_reducible rfl
  simp only [Act.put, List.setIfInBounds_toArray, List.set_cons_zero, List.set_cons_succ]
  refine wpAnyH_take (i := 4) (oi := { dst := some 37, op := Op.binOp BinOp.gtr 3 (Operand.tmp 34) (Operand.tmp 36) 3, type := 4, pos := _, after := #[{ on := 1, ground := Ground.data }, { on := 3, ground := Ground.data }], guard := none }) (v := ?_) rfl (by kernel_rfl) (by kernel_rfl) (by kernel_rfl) (fun _ _ _ h => h) (Or.inl ⟨by rfl, ?_⟩) (by assumption) ?_
  rotate_left
  · intro w hSw; (try dsimp only at hSw); go_simp <;> with_reducible rfl
  simp only [Act.put, List.setIfInBounds_toArray, List.set_cons_zero, List.set_cons_succ]
  refine wpAnyH_take (i := 5) (oi := { dst := some 38, op := Op.move (Operand.tmp 37), type := 4, pos := _, after := #[{ on := 4, ground := Ground.data }], guard := none }) (v := ?_) rfl (by kernel_rfl) (by kernel_rfl) (by kernel_rfl) (fun _ _ _ h => h) (Or.inl ⟨by rfl, ?_⟩) (by assumption) ?_
  rotate_left
  · intro w hSw; (try dsimp only at hSw); go_simp <;> with_reducible rfl
  simp only [Act.put, List.setIfInBounds_toArray, List.set_cons_zero, List.set_cons_succ]
  refine wpAnyH_take (i := 6) (oi := { dst := some 39, op := Op.indexAddr 50 (Operand.tmp 4) (Operand.const (Value.int IntKind.i64 5)), type := 0, pos := _, after := #[{ on := 5, ground := Ground.guard }], guard := some (5, false) }) (v := ?_) rfl (by kernel_rfl) (by kernel_rfl) (by kernel_rfl) (fun _ _ _ h => h) (Or.inl ⟨by rfl, ?_⟩) (by assumption) ?_
  rotate_left
  · intro w hSw; (try dsimp only at hSw); go_simp <;> with_reducible rfl
  simp only [Act.put, List.setIfInBounds_toArray, List.set_cons_zero, List.set_cons_succ]
  refine wpAnyH_take (i := 7) (oi := { dst := some 40, op := Op.load 49 (Operand.tmp 39), type := 49, pos := _, after := #[{ on := 6, ground := Ground.data }, { on := 5, ground := Ground.guard }], guard := some (5, false) }) (v := ?_) rfl (by kernel_rfl) (by kernel_rfl) (by kernel_rfl) (fun _ _ _ h => h) (Or.inl ⟨by rfl, ?_⟩) (by assumption) ?_
  rotate_left
  · intro w hSw; (try dsimp only at hSw); go_simp <;> with_reducible rfl
  simp only [Act.put, List.setIfInBounds_toArray, List.set_cons_zero, List.set_cons_succ]
  refine wpAnyH_take (i := 8) (oi := { dst := some 41, op := Op.move (Operand.tmp 0), type := 24, pos := _, after := #[{ on := 5, ground := Ground.guard }], guard := some (5, false) }) (v := ?_) rfl (by kernel_rfl) (by kernel_rfl) (by kernel_rfl) (fun _ _ _ h => h) (Or.inl ⟨by rfl, ?_⟩) (by assumption) ?_
  rotate_left
  · intro w hSw; (try dsimp only at hSw); go_simp <;> with_reducible rfl
  simp only [Act.put, List.setIfInBounds_toArray, List.set_cons_zero, List.set_cons_succ]
  refine wpAnyH_take (i := 9) (oi := { dst := some 42, op := Op.move (Operand.tmp 5), type := 3, pos := _, after := #[{ on := 5, ground := Ground.guard }], guard := some (5, false) }) (v := ?_) rfl (by kernel_rfl) (by kernel_rfl) (by kernel_rfl) (fun _ _ _ h => h) (Or.inl ⟨by rfl, ?_⟩) (by assumption) ?_
  rotate_left
  · intro w hSw; (try dsimp only at hSw); go_simp <;> with_reducible rfl
  simp only [Act.put, List.setIfInBounds_toArray, List.set_cons_zero, List.set_cons_succ]
  refine wpAnyH_take (i := 10) (oi := { dst := some 43, op := Op.slice 24 (Operand.tmp 41) none (some (Operand.tmp 42)) none, type := 24, pos := _, after := #[{ on := 8, ground := Ground.data }, { on := 9, ground := Ground.data }, { on := 5, ground := Ground.guard }], guard := some (5, false) }) (v := ?_) rfl (by kernel_rfl) (by kernel_rfl) (by kernel_rfl) (fun _ _ _ h => h) (Or.inl ⟨by rfl, ?_⟩) (by assumption) ?_
  rotate_left
  · intro w hSw; (try dsimp only at hSw); go_simp <;> with_reducible rfl
  simp only [Act.put, List.setIfInBounds_toArray, List.set_cons_zero, List.set_cons_succ]
  refine wpAnyH_ready (rs := [11]) (by kernel_rfl) (by simp) ?_
  refine AllReadyH.cons (o := { dst := some 44, op := Op.call { callee := Callee.value (Operand.func 18), args := #[Operand.tmp 43], argTypes := #[24] }, type := 22, pos := _, after := #[{ on := 10, ground := Ground.data }, { on := 5, ground := Ground.chain }, { on := 5, ground := Ground.guard }], guard := some (5, false) }) rfl (fun K hK => ?_) AllReadyH.nil
  go_simp
  refine (crcOf _ (9 + n) _ (B.take (9 + n)) _ (by first | exact hET | exact hET.below (below_drew (Below.refl _ _)))).mono ?_
  rintro e w7 ⟨rfl, hk7⟩
  rw [Hcs.out]
  have hk8 : Below W3.heap.size W3 w7 := by first | exact hk7 | exact bstep (below_drew (Below.refl _ _)) hk7
  go_wp2_with fail
  refine hK.out _ _ ?_ (fun hHeld2 => ?_)
  · exact ⟨(hk8.cell (World.block_lt_of_cell? W3 _ x5)).trans x5, (hk8.cell (World.block_lt_of_cell? W3 _ x0)).trans x0⟩
  clear hK K
  refine wpAnyH_take (i := 12) (oi := { dst := some 45, op := Op.convert 22 49 (Operand.tmp 44), type := 49, pos := _, after := #[{ on := 11, ground := Ground.data }, { on := 5, ground := Ground.guard }], guard := some (5, false) }) (v := ?_) rfl (by kernel_rfl) (by kernel_rfl) (by kernel_rfl) (fun _ _ _ h => h) (Or.inl ⟨by rfl, ?_⟩) (by assumption) ?_
  rotate_left
  · intro w hSw; (try dsimp only at hSw); go_simp <;> with_reducible rfl
  simp only [Act.put, List.setIfInBounds_toArray, List.set_cons_zero, List.set_cons_succ]
  refine wpAnyH_take (i := 13) (oi := { dst := some 46, op := Op.binOp BinOp.neq 49 (Operand.tmp 40) (Operand.tmp 45) 49, type := 4, pos := _, after := #[{ on := 7, ground := Ground.data }, { on := 12, ground := Ground.data }, { on := 5, ground := Ground.guard }], guard := some (5, false) }) (v := ?_) rfl (by kernel_rfl) (by kernel_rfl) (by kernel_rfl) (fun _ _ _ h => h) (Or.inl ⟨by rfl, ?_⟩) (by assumption) ?_
  rotate_left
  · intro w hSw; (try dsimp only at hSw); go_simp <;> with_reducible rfl
  simp only [Act.put, List.setIfInBounds_toArray, List.set_cons_zero, List.set_cons_succ]
  refine wpAnyH_take (i := 14) (oi := { dst := some 47, op := Op.pick (Operand.tmp 38) (Operand.const (Value.bool true)) (Operand.tmp 46), type := 4, pos := _, after := #[{ on := 5, ground := Ground.data }, { on := 13, ground := Ground.data }], guard := none }) (v := ?_) rfl (by kernel_rfl) (by kernel_rfl) (by kernel_rfl) (fun _ _ _ h => h) (Or.inl ⟨by rfl, ?_⟩) (by assumption) ?_
  rotate_left
  · intro w hSw; (try dsimp only at hSw); go_simp <;> with_reducible rfl
  simp only [Act.put, List.setIfInBounds_toArray, List.set_cons_zero, List.set_cons_succ]
  refine wpAnyH_take (i := 15) (oi := { dst := some 48, op := Op.move (Operand.tmp 47), type := 4, pos := _, after := #[{ on := 14, ground := Ground.data }, { on := 11, ground := Ground.chain }], guard := none }) (v := ?_) rfl (by kernel_rfl) (by kernel_rfl) (by kernel_rfl) (fun _ _ _ h => h) (Or.inl ⟨by rfl, ?_⟩) (by assumption) ?_
  rotate_left
  · intro w hSw; (try dsimp only at hSw); go_simp <;> with_reducible rfl
  simp only [Act.put, List.setIfInBounds_toArray, List.set_cons_zero, List.set_cons_succ]
  refine wpAnyH_take (i := 16) (oi := { dst := some 49, op := Op.indexAddr 50 (Operand.tmp 4) (Operand.const (Value.int IntKind.i64 0)), type := 0, pos := _, after := #[{ on := 15, ground := Ground.guard }], guard := some (15, false) }) (v := ?_) rfl (by kernel_rfl) (by kernel_rfl) (by kernel_rfl) (fun _ _ _ h => h) (Or.inl ⟨by rfl, ?_⟩) (by assumption) ?_
  rotate_left
  · intro w hSw; (try dsimp only at hSw); go_simp <;> with_reducible rfl
  simp only [Act.put, List.setIfInBounds_toArray, List.set_cons_zero, List.set_cons_succ]
  refine wpAnyH_take (i := 17) (oi := { dst := some 50, op := Op.load 49 (Operand.tmp 49), type := 49, pos := _, after := #[{ on := 16, ground := Ground.data }, { on := 15, ground := Ground.guard }], guard := some (15, false) }) (v := ?_) rfl (by kernel_rfl) (by kernel_rfl) (by kernel_rfl) (fun _ _ _ h => h) (Or.inl ⟨by rfl, ?_⟩) (by assumption) ?_
  rotate_left
  · intro w hSw; (try dsimp only at hSw); go_simp <;> with_reducible rfl
  simp only [Act.put, List.setIfInBounds_toArray, List.set_cons_zero, List.set_cons_succ]
  refine wpAnyH_take (i := 18) (oi := { dst := some 51, op := Op.convert 49 3 (Operand.tmp 50), type := 3, pos := _, after := #[{ on := 17, ground := Ground.data }, { on := 15, ground := Ground.guard }], guard := some (15, false) }) (v := ?_) rfl (by kernel_rfl) (by kernel_rfl) (by kernel_rfl) (fun _ _ _ h => h) (Or.inl ⟨by rfl, ?_⟩) (by assumption) ?_
  rotate_left
  · intro w hSw; (try dsimp only at hSw); go_simp <;> with_reducible rfl
  simp only [Act.put, List.setIfInBounds_toArray, List.set_cons_zero, List.set_cons_succ]
  refine wpAnyH_ready (rs := [19]) (by kernel_rfl) (by simp) ?_
  refine AllReadyH.cons (o := { dst := some 52, op := Op.call { callee := Callee.value (Operand.func 15), args := #[Operand.tmp 51], argTypes := #[3] }, type := 4, pos := _, after := #[{ on := 18, ground := Ground.data }, { on := 15, ground := Ground.chain }, { on := 15, ground := Ground.guard }], guard := some (15, false) }) rfl (fun K hK => ?_) AllReadyH.nil
  go_simp
  refine (isStation _ _).mono ?_
  rintro e w8 ⟨rfl, h8⟩
  rw [hde, h8]
  clear h8 w8
  go_wp2_with fail
  refine hK.out _ _ hHeld2 (fun hHeld3 => ?_)
  clear hK K
  refine wpAnyH_take (i := 20) (oi := { dst := some 53, op := Op.unOp UnOp.not 4 (Operand.tmp 52), type := 4, pos := _, after := #[{ on := 19, ground := Ground.data }, { on := 15, ground := Ground.guard }], guard := some (15, false) }) (v := ?_) rfl (by kernel_rfl) (by kernel_rfl) (by kernel_rfl) (fun _ _ _ h => h) (Or.inl ⟨by rfl, ?_⟩) (by assumption) ?_
  rotate_left
  · intro w hSw; (try dsimp only at hSw); go_simp <;> with_reducible rfl
  simp only [Act.put, List.setIfInBounds_toArray, List.set_cons_zero, List.set_cons_succ]
  refine wpAnyH_take (i := 21) (oi := { dst := some 54, op := Op.pick (Operand.tmp 48) (Operand.const (Value.bool true)) (Operand.tmp 53), type := 4, pos := _, after := #[{ on := 15, ground := Ground.data }, { on := 20, ground := Ground.data }], guard := none }) (v := ?_) rfl (by kernel_rfl) (by kernel_rfl) (by kernel_rfl) (fun _ _ _ h => h) (Or.inl ⟨by rfl, ?_⟩) (by assumption) ?_
  rotate_left
  · intro w hSw; (try dsimp only at hSw); go_simp <;> with_reducible rfl
  simp only [Act.put, List.setIfInBounds_toArray, List.set_cons_zero, List.set_cons_succ]
  refine wpAnyH_done (by kernel_rfl) ?_ _
  obtain ⟨⟨d0, d1, d2, d3, d4⟩, e0, e1, e2, e3, e4⟩ := row5 (row_kept HR3.out hk8)
  go_wp2
  refine bodyPost_ret (v := .tuple #[fr0, .int .i64 5]) (res5 rfl rfl (set5 (w := w7) (row_kept HR3.out hk8) _ _ _ _ _)) rfl ⟨?_, rfl⟩
  exact below_set5 (bstep hb3 hk8) (Nat.le_refl _) _ _ _ _ _
/-- Get, of what is none of a frame: which error is told hangs on the bytes alone. -/
theorem fget_bad (a : Option Addr) (len cap : Nat) (B : List Int) (hcap : len ≤ cap) (hng : ¬ (13 ≤ len ∧ good B len)) :
    ∃ c : Int, (c = 4 ∨ c = 5) ∧ ∀ w, Elems w a len B → Wid w → Calls Tryd.prog 7 #[.slice a len cap] w fun e w' => e = .returned (.tuple #[fr0, .int .i64 c]) ∧ Below w.heap.size w w' := by
  by_cases h13 : len < 13
  · exact ⟨4, .inl rfl, fun w _ _ => fget_few a len cap w h13⟩
  · by_cases hsh : len < 13 + H5 B 4
    · exact ⟨4, .inl rfl, fun w hE hW => fget_short _ len cap B w hE hW (by omega) hsh⟩
    · refine ⟨5, .inr rfl, fun w hE hW => ?_⟩
      obtain ⟨b, o, rfl, _⟩ := hE.2.2.2.resolve_left (by omega)
      by_cases hlen : len = 13 + H5 B 4
      · by_cases hsum : val (part B (8 * (9 + H5 B 4)) 32) = sumOf (B.take (9 + H5 B 4))
        · by_cases hst : 1 ≤ H5 B 0 ∧ H5 B 0 ≤ 8
          · exact (hng ⟨by omega, hlen, hsum, hst⟩).elim
          · exact (fget_station b o len cap B w hE hW hcap (by omega) hlen hsum hst).mono fun e w' h => ⟨h.2, h.1⟩
        · exact (fget_sum b o len cap B w hE hW hcap (by omega) hlen hsum).mono fun e w' h => ⟨h.2, h.1⟩
      · refine (fget_enough b o len cap B w hE hW hcap (by omega) (.inr hlen)).mono fun e w' h => ?_
        rcases h.2 with ⟨_, r⟩ | ⟨hg, _⟩
        · exact ⟨r, h.1⟩
        · exact (hlen hg.1).elim
/-- Get, of a frame's bytes. -/
theorem fget_good (a : Option Addr) (len cap : Nat) (B : List Int) (w : World) (hE : Elems w a len B) (hW : Wid w) (hcap : len ≤ cap) (h13 : 13 ≤ len) (hg : good B len) :
    Calls Tryd.prog 7 #[.slice a len cap] w fun e w' => ∃ g, e = .returned (.tuple #[fr (H5 B 0) (H5 B 1) (H5 B 2) (H5 B 3) (some ⟨g, 0, none⟩) (H5 B 4) (H5 B 4), .int .i64 0]) ∧ Blk w' g ((B.drop 9).take (H5 B 4)) ∧ w.heap.size ≤ g ∧ Below w.heap.size w w' := by
  obtain ⟨b, o, rfl, _⟩ := hE.2.2.2.resolve_left (by omega)
  refine (fget_enough b o len cap B w hE hW hcap (by have := hg.1; omega) (.inl hg)).mono fun e w' h => ?_
  rcases h.2 with ⟨hng, _⟩ | ⟨_, g, he, hB, hgg⟩
  · exact (hng hg).elim
  · exact ⟨g, he, hB, hgg, h.1⟩
end Go.Proofs.YtmbkdalmnfcbfaaDoor.Bits
