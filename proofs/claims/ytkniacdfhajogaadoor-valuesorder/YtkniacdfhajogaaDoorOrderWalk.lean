/-
  The walk of the law ValuesOrder.
-/
import Derived.Test.YtkniacdfhajogaaDoorRby
namespace Go.Proofs.YtkniacdfhajogaaDoor.Val
open Go.ChangeShapes Go.WideShapes Go.ChangeAt Go.RowKit Go.Joins
set_option maxHeartbeats 2000000
theorem yes15 (p q : Bool) : doE 15 [yesV p, yesV q] = yesV (p && q) := by cases p <;> cases q <;> rfl
theorem yes16 (p q : Bool) : doE 16 [yesV p, yesV q] = yesV (p || q) := by cases p <;> cases q <;> rfl
theorem ordE1 (a b : Int) : doE 13 [numV a, numV b] = yesV (decide (a < b)) := by
  rfl
theorem ordE2 (a b : Int) : doE 13 [numV b, numV a] = yesV (decide (b < a)) := by
  rfl
theorem ordE3 (a b : Int) : doE 11 [numV a, numV b] = yesV (a == b) := by
  exact (show doE 11 [numV a, numV b] = yesV (decide (a = b)) from rfl).trans (congrArg yesV (by rw [Bool.eq_iff_iff]; simp))
theorem ordE4 (a b : Int) : doE 15 [yesV (decide (a < b)), yesV (decide (b < a))] = yesV false := by
  exact (yes15 _ _).trans (congrArg yesV (by rw [Bool.eq_iff_iff]; simp; omega))
theorem ordE5 (a b : Int) : doE 15 [yesV false, yesV (a == b)] = yesV false := by
  exact (yes15 _ _).trans (congrArg yesV (by simp))
theorem ordE6 (a b : Int) : doE 16 [yesV (decide (a < b)), yesV (decide (b < a))] = yesV (decide (a < b) || decide (b < a)) := by
  exact yes16 _ _
theorem ordE7 (a b : Int) : doE 16 [yesV (decide (a < b) || decide (b < a)), yesV (a == b)] = yesV true := by
  exact (yes16 _ _).trans (congrArg yesV (by rw [Bool.eq_iff_iff]; simp; omega))
theorem ordE8 (a b : Int) : doE 14 [numV a, numV b] = yesV (decide (a ≤ b)) := by
  rfl
theorem ordE9 (a b : Int) : doE 16 [yesV (decide (a < b)), yesV (a == b)] = yesV (decide (a ≤ b)) := by
  exact (yes16 _ _).trans (congrArg yesV (by rw [Bool.eq_iff_iff]; simp; omega))
theorem ordE10 (a b : Int) : doE 12 [numV a, numV b] = yesV (!(a == b)) := by
  exact (show doE 12 [numV a, numV b] = yesV (!decide (a = b)) from rfl).trans (congrArg yesV (by rw [Bool.eq_iff_iff]; simp))
theorem ordE11 (a b : Int) : doE 5 [yesV (a == b)] = yesV (!(a == b)) := by
  cases (a == b) <;> rfl
theorem ordE12 (a : Int) : doE 13 [numV a, numV a] = yesV false := by
  exact (show doE 13 [numV a, numV a] = yesV (decide (a < a)) from rfl).trans (congrArg yesV (by simp))
/-- Behind the sixth region. -/
def Aft6 (w : World) (a b : Int) (bx by_ bl bm bs : Nat) : Act → World → Prop := fun t V => ∃ B kl, LV w B [(kl, yesV false), (bs, yesV (a == b)), (bm, yesV (decide (b < a))), (bl, yesV (decide (a < b))), (by_, numV b), (bx, numV a)] [] V ∧ ∃ u2 u3 u12 u13 u14 u15 u16 u17 u18 u19 u20 u21 u22 u23 u24 u25 u26 u27 u28 u29 u30 u31 u32 u33 u34 : Value, t = { tmps := #[.int .i64 a, .int .i64 b, u2, u3, .bool false, .pointer (some ⟨bx, 0, none⟩), .pointer (some ⟨by_, 0, none⟩), .pointer (some ⟨bl, 0, none⟩), .pointer (some ⟨bm, 0, none⟩), .pointer (some ⟨bs, 0, none⟩), .pointer (some ⟨kl, 0, none⟩), undef, u12, u13, u14, u15, u16, u17, u18, u19, u20, u21, u22, u23, u24, u25, u26, u27, u28, u29, u30, u31, u32, u33, u34, undef, undef, undef, undef, undef, undef, undef, undef, undef, undef, undef, undef, undef, undef, undef, undef, undef, undef, undef, undef, undef, undef, undef, undef, undef, undef, undef, undef, undef, undef, undef, undef, undef, undef, undef, undef, undef, undef, undef, undef, undef, undef, undef, undef, undef, undef, undef, undef, undef, undef, undef, undef, undef, undef, undef, undef, undef, undef, undef, undef, undef, undef, undef], defers := [] }
/-- Behind the seventh. -/
def Aft7 (w : World) (a b : Int) (bx by_ bl bm bs bn : Nat) : Act → World → Prop := fun t V => ∃ B kl, LV w B [(kl, yesV true), (bn, yesV false), (bs, yesV (a == b)), (bm, yesV (decide (b < a))), (bl, yesV (decide (a < b))), (by_, numV b), (bx, numV a)] [] V ∧ ∃ u2 u3 u12 u13 u14 u15 u16 u17 u18 u19 u20 u21 u22 u23 u24 u25 u26 u27 u28 u29 u30 u31 u32 u33 u34 u35 u36 u37 u38 u39 u40 u41 : Value, t = { tmps := #[.int .i64 a, .int .i64 b, u2, u3, .bool false, .pointer (some ⟨bx, 0, none⟩), .pointer (some ⟨by_, 0, none⟩), .pointer (some ⟨bl, 0, none⟩), .pointer (some ⟨bm, 0, none⟩), .pointer (some ⟨bs, 0, none⟩), .pointer (some ⟨bn, 0, none⟩), .pointer (some ⟨kl, 0, none⟩), u12, u13, u14, u15, u16, u17, u18, u19, u20, u21, u22, u23, u24, u25, u26, u27, u28, u29, u30, u31, u32, u33, u34, u35, u36, u37, u38, u39, u40, u41, undef, undef, undef, undef, undef, undef, undef, undef, undef, undef, undef, undef, undef, undef, undef, undef, undef, undef, undef, undef, undef, undef, undef, undef, undef, undef, undef, undef, undef, undef, undef, undef, undef, undef, undef, undef, undef, undef, undef, undef, undef, undef, undef, undef, undef, undef, undef, undef, undef, undef, undef, undef, undef, undef, undef, undef], defers := [] }
/-- What each slot holds behind its operation. -/
def ord8T (a b : Int) : List (Nat × (Value ⊕ List Vl)) := [(42, .inl (.bool true)), (43, .inl (.bool true)), (44, .inl (vV (yesV (decide (a < b))))), (45, .inl (.int .i64 a)), (46, .inl (.int .i64 b)), (47, .inl (.bool (decide (a < b)))), (48, .inl (vV (yesV (decide (a < b))))), (49, .inl (.bool true)), (50, .inl (.bool true)), (51, .inl (.bool true)), (52, .inl (vV (yesV (a == b)))), (53, .inl (.int .i64 a)), (54, .inl (.int .i64 b)), (55, .inl (.bool (a == b))), (56, .inl (vV (yesV (a == b)))), (57, .inl (.bool true)), (58, .inl (.bool true)), (59, .inl (.bool true)), (60, .inl (vV (numV a))), (61, .inl (vV (numV b))), (62, .inr [numV a, numV b]), (63, .inl (vV (yesV (decide (a ≤ b))))), (64, .inl (vV (yesV (decide (a < b))))), (65, .inl (vV (yesV (a == b)))), (66, .inr [yesV (decide (a < b)), yesV (a == b)]), (67, .inl (vV (yesV (decide (a ≤ b))))), (68, .inl (.bool true)), (69, .inl (.bool true)), (70, .inl (.bool true)), (71, .inl (vV (numV a))), (72, .inl (vV (numV b))), (73, .inr [numV a, numV b]), (74, .inl (vV (yesV (!(a == b))))), (75, .inl (vV (yesV (a == b)))), (76, .inr [yesV (a == b)]), (77, .inl (vV (yesV (!(a == b))))), (78, .inl (.bool true)), (79, .inl (.bool true)), (80, .inl (.bool true)), (81, .inl (vV (yesV false))), (82, .inl (vV (yesV false))), (83, .inl (.bool true)), (84, .inl (.bool true)), (85, .inl (.bool true)), (86, .inl (vV (yesV true))), (87, .inl (vV (yesV true))), (88, .inl (.bool true)), (89, .inl (.bool true)), (90, .inl (.bool true)), (91, .inl (vV (numV a))), (92, .inl (vV (numV a))), (93, .inr [numV a, numV a]), (94, .inl (vV (yesV false))), (95, .inl (vV (yesV false))), (96, .inl (.bool true)), (97, .inl (.bool true)), (4, .inl (.bool true))]
set_option maxRecDepth 100000 in
theorem walk5 (a b : Int) (w : World) (hT : TabP w) : Calls Tryd.prog 5 #[.int .i64 a, .int .i64 b] w fun e w' => e = .returned (.bool true) ∧ Below w.heap.size w w' := by
  have R0 := hid (LV.start hT)
  have E1 := hid (ordE1 a b)
  have E2 := hid (ordE2 a b)
  have E3 := hid (ordE3 a b)
  have E4 := hid (ordE4 a b)
  have E5 := hid (ordE5 a b)
  have E6 := hid (ordE6 a b)
  have E7 := hid (ordE7 a b)
  have E8 := hid (ordE8 a b)
  have E9 := hid (ordE9 a b)
  have E10 := hid (ordE10 a b)
  have E11 := hid (ordE11 a b)
  have E12 := hid (ordE12 a)
  clear hT
  go_enter Tryd.func5, Tryd.ntmps5
  go_wp2_with (fail)
  refine (lnumber_at _ _).mono ?_
  rintro e v1 ⟨rfl, hb⟩
  have R1 := hid (R0.out.step hb)
  clear hb
  have R2 := hid (R1.out.push (numV a) (b := v1.heap.size) rfl)
  go_wp2_with (fail)
  refine (lnumber_at _ _).mono ?_
  rintro e v3 ⟨rfl, hb⟩
  have R3 := hid (R2.out.step hb)
  clear hb
  generalize v1.heap.size = bx at *
  have R4 := hid (R3.out.push (numV b) (b := v3.heap.size) rfl)
  obtain ⟨c00, c01⟩ := R4.out.cs (v3.heap.size) (numV b) (by simp)
  obtain ⟨c10, c11⟩ := R4.out.cs (bx) (numV a) (by simp)
  go_wp2_with (fail)
  clear c00 c01 c10 c11
  have R5 := hid (R4.out.build [numV a, numV b] (by simp) (b := v3.heap.size + 1) (by simp))
  refine (ldo_sl R5.out 13 [numV a, numV b] (v3.heap.size + 1) (by simp)).mono ?_
  rintro e v6 ⟨rfl, hb⟩
  rw [E1.out]
  have R6 := hid (R5.out.step hb)
  clear hb
  replace R6 := hid (R6.out.less (fun _ h => h) (M2 := []) (fun _ h => (List.not_mem_nil h).elim))
  generalize v3.heap.size = by_ at *
  have R7 := hid (R6.out.push (yesV (decide (a < b))) (b := v6.heap.size) rfl)
  obtain ⟨c00, c01⟩ := R7.out.cs (v6.heap.size) (yesV (decide (a < b))) (by simp)
  obtain ⟨c10, c11⟩ := R7.out.cs (by_) (numV b) (by simp)
  obtain ⟨c20, c21⟩ := R7.out.cs (bx) (numV a) (by simp)
  go_wp2_with (fail)
  clear c00 c01 c10 c11 c20 c21
  have R8 := hid (R7.out.build [numV b, numV a] (by simp) (b := v6.heap.size + 1) (by simp))
  refine (ldo_sl R8.out 13 [numV b, numV a] (v6.heap.size + 1) (by simp)).mono ?_
  rintro e v9 ⟨rfl, hb⟩
  rw [E2.out]
  have R9 := hid (R8.out.step hb)
  clear hb
  replace R9 := hid (R9.out.less (fun _ h => h) (M2 := []) (fun _ h => (List.not_mem_nil h).elim))
  generalize v6.heap.size = bl at *
  have R10 := hid (R9.out.push (yesV (decide (b < a))) (b := v9.heap.size) rfl)
  obtain ⟨c00, c01⟩ := R10.out.cs (v9.heap.size) (yesV (decide (b < a))) (by simp)
  obtain ⟨c10, c11⟩ := R10.out.cs (bl) (yesV (decide (a < b))) (by simp)
  obtain ⟨c20, c21⟩ := R10.out.cs (by_) (numV b) (by simp)
  obtain ⟨c30, c31⟩ := R10.out.cs (bx) (numV a) (by simp)
  go_wp2_with (fail)
  clear c00 c01 c10 c11 c20 c21 c30 c31
  have R11 := hid (R10.out.build [numV a, numV b] (by simp) (b := v9.heap.size + 1) (by simp))
  refine (ldo_sl R11.out 11 [numV a, numV b] (v9.heap.size + 1) (by simp)).mono ?_
  rintro e v12 ⟨rfl, hb⟩
  rw [E3.out]
  have R12 := hid (R11.out.step hb)
  clear hb
  replace R12 := hid (R12.out.less (fun _ h => h) (M2 := []) (fun _ h => (List.not_mem_nil h).elim))
  generalize v9.heap.size = bm at *
  have R13 := hid (R12.out.push (yesV (a == b)) (b := v12.heap.size) rfl)
  obtain ⟨c00, c01⟩ := R13.out.cs (v12.heap.size) (yesV (a == b)) (by simp)
  obtain ⟨c10, c11⟩ := R13.out.cs (bm) (yesV (decide (b < a))) (by simp)
  obtain ⟨c20, c21⟩ := R13.out.cs (bl) (yesV (decide (a < b))) (by simp)
  obtain ⟨c30, c31⟩ := R13.out.cs (by_) (numV b) (by simp)
  obtain ⟨c40, c41⟩ := R13.out.cs (bx) (numV a) (by simp)
  go_wp2_with (fail)
  clear c00 c01 c10 c11 c20 c21 c30 c31 c40 c41
  generalize v12.alloc (.cells (vC (yesV (a == b))) 24) = W6 at *
  generalize v12.heap.size = bs at *
  have RS6 := hid (R13.out.rebase)
  have SA : ∀ V, LV w W6.heap.size [(bs, yesV (a == b)), (bm, yesV (decide (b < a))), (bl, yesV (decide (a < b))), (by_, numV b), (bx, numV a)] [] V → (fun V => V.cell? ⟨bs, 0, none⟩ = some (.int .u8 ((yesV (a == b) : Vl).ty : Int)) ∧ V.cell? ⟨bs, 1, none⟩ = some (.int .i64 (yesV (a == b) : Vl).n) ∧ V.cell? ⟨bm, 0, none⟩ = some (.int .u8 ((yesV (decide (b < a)) : Vl).ty : Int)) ∧ V.cell? ⟨bm, 1, none⟩ = some (.int .i64 (yesV (decide (b < a)) : Vl).n) ∧ V.cell? ⟨bl, 0, none⟩ = some (.int .u8 ((yesV (decide (a < b)) : Vl).ty : Int)) ∧ V.cell? ⟨bl, 1, none⟩ = some (.int .i64 (yesV (decide (a < b)) : Vl).n) ∧ V.cell? ⟨by_, 0, none⟩ = some (.int .u8 ((numV b : Vl).ty : Int)) ∧ V.cell? ⟨by_, 1, none⟩ = some (.int .i64 (numV b : Vl).n) ∧ V.cell? ⟨bx, 0, none⟩ = some (.int .u8 ((numV a : Vl).ty : Int)) ∧ V.cell? ⟨bx, 1, none⟩ = some (.int .i64 (numV a : Vl).n)) V := fun V h => ⟨(h.cs bs (yesV (a == b)) (by simp)).1, (h.cs bs (yesV (a == b)) (by simp)).2, (h.cs bm (yesV (decide (b < a))) (by simp)).1, (h.cs bm (yesV (decide (b < a))) (by simp)).2, (h.cs bl (yesV (decide (a < b))) (by simp)).1, (h.cs bl (yesV (decide (a < b))) (by simp)).2, (h.cs by_ (numV b) (by simp)).1, (h.cs by_ (numV b) (by simp)).2, (h.cs bx (numV a) (by simp)).1, (h.cs bx (numV a) (by simp)).2⟩
  refine wp_mono (Q := Exit.then (Aft6 w a b bx by_ bl bm bs) (fun _ _ _ => False)) ?reg ?go
  case reg =>
    refine wp_region_held_drew (S := fun V => V.cell? ⟨bs, 0, none⟩ = some (.int .u8 ((yesV (a == b) : Vl).ty : Int)) ∧ V.cell? ⟨bs, 1, none⟩ = some (.int .i64 (yesV (a == b) : Vl).n) ∧ V.cell? ⟨bm, 0, none⟩ = some (.int .u8 ((yesV (decide (b < a)) : Vl).ty : Int)) ∧ V.cell? ⟨bm, 1, none⟩ = some (.int .i64 (yesV (decide (b < a)) : Vl).n) ∧ V.cell? ⟨bl, 0, none⟩ = some (.int .u8 ((yesV (decide (a < b)) : Vl).ty : Int)) ∧ V.cell? ⟨bl, 1, none⟩ = some (.int .i64 (yesV (decide (a < b)) : Vl).n) ∧ V.cell? ⟨by_, 0, none⟩ = some (.int .u8 ((numV b : Vl).ty : Int)) ∧ V.cell? ⟨by_, 1, none⟩ = some (.int .i64 (numV b : Vl).n) ∧ V.cell? ⟨bx, 0, none⟩ = some (.int .u8 ((numV a : Vl).ty : Int)) ∧ V.cell? ⟨bx, 1, none⟩ = some (.int .i64 (numV a : Vl).n)) (by kernel_rfl) ?_ (fun hHeld => ?_)
    · exact SA _ RS6.out.drew
    have RD := hid RS6.out.drew
    refine wpAnyH_take (i := 0) (oi := { dst := some 28, op := Go.Op.load 24 (Go.Operand.tmp 7), type := 24, pos := _, after := #[], guard := none }) (v := ?_) rfl (by kernel_rfl) (by kernel_rfl) (by kernel_rfl) (fun _ _ _ h => h) (Or.inl ⟨by rfl, ?_⟩) (by assumption) ?_
    rotate_left
    · intro w hSw; (try dsimp only at hSw); go_simp <;> first | with_reducible rfl | (rw [if_neg (by omega)])
    simp only [Act.put, List.setIfInBounds_toArray, List.set_cons_zero, List.set_cons_succ]
    refine wpAnyH_take (i := 1) (oi := { dst := some 29, op := Go.Op.load 24 (Go.Operand.tmp 8), type := 24, pos := _, after := #[], guard := none }) (v := ?_) rfl (by kernel_rfl) (by kernel_rfl) (by kernel_rfl) (fun _ _ _ h => h) (Or.inl ⟨by rfl, ?_⟩) (by assumption) ?_
    rotate_left
    · intro w hSw; (try dsimp only at hSw); go_simp <;> first | with_reducible rfl | (rw [if_neg (by omega)])
    simp only [Act.put, List.setIfInBounds_toArray, List.set_cons_zero, List.set_cons_succ]
    refine wpAnyH_take (i := 4) (oi := { dst := some 32, op := Go.Op.load 24 (Go.Operand.tmp 9), type := 24, pos := _, after := #[], guard := none }) (v := ?_) rfl (by kernel_rfl) (by kernel_rfl) (by kernel_rfl) (fun _ _ _ h => h) (Or.inl ⟨by rfl, ?_⟩) (by assumption) ?_
    rotate_left
    · intro w hSw; (try dsimp only at hSw); go_simp <;> first | with_reducible rfl | (rw [if_neg (by omega)])
    simp only [Act.put, List.setIfInBounds_toArray, List.set_cons_zero, List.set_cons_succ]
    refine wpAnyH_ready (rs := [2, 7]) (by kernel_rfl) (by simp) ?_
    refine AllReadyH.cons (o := { dst := some 30, op := Go.Op.buildSlice 35 2 #[(0, Go.Operand.tmp 28), (1, Go.Operand.tmp 29)], type := 35, pos := _, after := #[{ on := 0, ground := Go.Ground.data }, { on := 1, ground := Go.Ground.data }], guard := none }) rfl (fun K hK => ?_) (AllReadyH.cons (o := { dst := some 10, op := Go.Op.alloc 24, type := 0, pos := _, after := #[], guard := none }) rfl (fun K hK => ?_) AllReadyH.nil)
    · refine if_take (by rfl) ?_
      have R1 := hid (RD.out.build [yesV (decide (a < b)), yesV (decide (b < a))] (by simp) (b := W6.heap.size) (by simp))
      go_simp
      refine hK.out _ _ ?_ (fun hHeld => ?_)
      · exact SA _ (R1.out.less (fun _ h => h) (fun _ h => (List.not_mem_nil h).elim))
      clear hK K
      refine wpAnyH_ready (rs := [3, 7]) (by kernel_rfl) (by simp) ?_
      refine AllReadyH.cons (o := { dst := some 31, op := Go.Op.call { callee := Go.Callee.value (Go.Operand.func 13), args := #[Go.Operand.const (Go.Value.int Go.IntKind.u8 15), Go.Operand.tmp 30], argTypes := #[29, 35] }, type := 24, pos := _, after := #[{ on := 2, ground := Go.Ground.data }], guard := none }) rfl (fun K hK => ?_) (AllReadyH.cons (o := { dst := some 10, op := Go.Op.alloc 24, type := 0, pos := _, after := #[], guard := none }) rfl (fun K hK => ?_) AllReadyH.nil)
      · go_simp
        refine (ldo_sl R1.out 15 [yesV (decide (a < b)), yesV (decide (b < a))] (W6.heap.size) (by simp)).mono ?_
        rintro e v2 ⟨rfl, b2⟩
        rw [E4.out]
        have R2 := hid (R1.out.step b2)
        clear b2
        go_wp2_with fail
        refine hK.out _ _ ?_ (fun hHeld => ?_)
        · exact SA _ (R2.out.less (fun _ h => h) (fun _ h => (List.not_mem_nil h).elim))
        clear hK K
        refine wpAnyH_ready (rs := [5, 7]) (by kernel_rfl) (by simp) ?_
        refine AllReadyH.cons (o := { dst := some 33, op := Go.Op.buildSlice 35 2 #[(0, Go.Operand.tmp 31), (1, Go.Operand.tmp 32)], type := 35, pos := _, after := #[{ on := 3, ground := Go.Ground.data }, { on := 4, ground := Go.Ground.data }], guard := none }) rfl (fun K hK => ?_) (AllReadyH.cons (o := { dst := some 10, op := Go.Op.alloc 24, type := 0, pos := _, after := #[], guard := none }) rfl (fun K hK => ?_) AllReadyH.nil)
        · refine if_take (by rfl) ?_
          have R3 := hid (R2.out.build [yesV false, yesV (a == b)] (by simp) (b := v2.heap.size) (by simp))
          go_simp
          refine hK.out _ _ ?_ (fun hHeld => ?_)
          · exact SA _ (R3.out.less (fun _ h => h) (fun _ h => (List.not_mem_nil h).elim))
          clear hK K
          refine wpAnyH_ready (rs := [6, 7]) (by kernel_rfl) (by simp) ?_
          refine AllReadyH.cons (o := { dst := some 34, op := Go.Op.call { callee := Go.Callee.value (Go.Operand.func 13), args := #[Go.Operand.const (Go.Value.int Go.IntKind.u8 15), Go.Operand.tmp 33], argTypes := #[29, 35] }, type := 24, pos := _, after := #[{ on := 5, ground := Go.Ground.data }, { on := 3, ground := Go.Ground.chain }], guard := none }) rfl (fun K hK => ?_) (AllReadyH.cons (o := { dst := some 10, op := Go.Op.alloc 24, type := 0, pos := _, after := #[], guard := none }) rfl (fun K hK => ?_) AllReadyH.nil)
          · go_simp
            refine (ldo_sl R3.out 15 [yesV false, yesV (a == b)] (v2.heap.size) (by simp)).mono ?_
            rintro e v4 ⟨rfl, b4⟩
            rw [E5.out]
            have R4 := hid (R3.out.step b4)
            clear b4
            go_wp2_with fail
            refine hK.out _ _ ?_ (fun hHeld => ?_)
            · exact SA _ (R4.out.less (fun _ h => h) (fun _ h => (List.not_mem_nil h).elim))
            clear hK K
            refine wpAnyH_ready (rs := [7]) (by kernel_rfl) (by simp) ?_
            refine AllReadyH.cons (o := { dst := some 10, op := Go.Op.alloc 24, type := 0, pos := _, after := #[], guard := none }) rfl (fun K hK => ?_) AllReadyH.nil
            go_simp
            have HKL : W6.heap.size ≤ v4.heap.size := by first | exact R4.out.base | (have h := R4.out.base; simp at h; omega)
            have R5 := hid (R4.out.push ⟨0, 0⟩ (b := v4.heap.size) (by simp))
            refine hK.out _ _ ?_ (fun hHeld => ?_)
            · exact SA _ (R5.out.less (fun _ h => (List.mem_cons_of_mem _ h)) (fun _ h => (List.not_mem_nil h).elim))
            clear hK K
            refine wpAnyH_ready (rs := [8]) (by kernel_rfl) (by simp) ?_
            refine AllReadyH.cons (o := { dst := none, op := Go.Op.store 24 (Go.Operand.tmp 10) (Go.Operand.tmp 34), type := 0, pos := _, after := #[{ on := 7, ground := Go.Ground.data }, { on := 6, ground := Go.Ground.data }, { on := 6, ground := Go.Ground.chain }, { on := 0, ground := Go.Ground.phase }, { on := 1, ground := Go.Ground.phase }, { on := 2, ground := Go.Ground.phase }, { on := 3, ground := Go.Ground.phase }, { on := 4, ground := Go.Ground.phase }, { on := 5, ground := Go.Ground.phase }, { on := 6, ground := Go.Ground.phase }, { on := 7, ground := Go.Ground.phase }], guard := none }) rfl (fun K hK => ?_) AllReadyH.nil
            refine if_take (by rfl) ?_
            refine wp_store_row 24 _ _ rfl (v4.heap.size) (vC (yesV false)) rfl rfl 24 _ (R5.out.rows (v4.heap.size, ⟨0, 0⟩) List.mem_cons_self) info24 rfl (by simp [Value.oneCell']) ?_
            have R6 := hid (RS6.out.setRow R5.out HKL (yesV false))
            refine hK.out _ _ ?_ (fun hHeld => ?_)
            · exact SA _ (R6.out.less (fun _ h => (List.mem_cons_of_mem _ h)) (fun _ h => (List.not_mem_nil h).elim))
            clear hK K
            refine wpAnyH_done (by kernel_rfl) ?_ _
            exact ⟨_, v4.heap.size, R6.out, _, _, _, _, _, _, _, _, _, _, _, _, _, _, _, _, _, _, _, _, _, _, _, _, _, rfl⟩
          · go_simp
            have HKL : W6.heap.size ≤ v2.heap.size + 1 := by first | exact R3.out.base | (have h := R3.out.base; simp at h; omega)
            have R7 := hid (R3.out.push ⟨0, 0⟩ (b := v2.heap.size + 1) (by simp))
            refine hK.out _ _ ?_ (fun hHeld => ?_)
            · exact SA _ (R7.out.less (fun _ h => (List.mem_cons_of_mem _ h)) (fun _ h => (List.not_mem_nil h).elim))
            clear hK K
            refine wpAnyH_ready (rs := [6]) (by kernel_rfl) (by simp) ?_
            refine AllReadyH.cons (o := { dst := some 34, op := Go.Op.call { callee := Go.Callee.value (Go.Operand.func 13), args := #[Go.Operand.const (Go.Value.int Go.IntKind.u8 15), Go.Operand.tmp 33], argTypes := #[29, 35] }, type := 24, pos := _, after := #[{ on := 5, ground := Go.Ground.data }, { on := 3, ground := Go.Ground.chain }], guard := none }) rfl (fun K hK => ?_) AllReadyH.nil
            go_simp
            refine (ldo_sl R7.out 15 [yesV false, yesV (a == b)] (v2.heap.size) (by simp)).mono ?_
            rintro e v8 ⟨rfl, b8⟩
            rw [E5.out]
            have R8 := hid (R7.out.step b8)
            clear b8
            go_wp2_with fail
            refine hK.out _ _ ?_ (fun hHeld => ?_)
            · exact SA _ (R8.out.less (fun _ h => (List.mem_cons_of_mem _ h)) (fun _ h => (List.not_mem_nil h).elim))
            clear hK K
            refine wpAnyH_ready (rs := [8]) (by kernel_rfl) (by simp) ?_
            refine AllReadyH.cons (o := { dst := none, op := Go.Op.store 24 (Go.Operand.tmp 10) (Go.Operand.tmp 34), type := 0, pos := _, after := #[{ on := 7, ground := Go.Ground.data }, { on := 6, ground := Go.Ground.data }, { on := 6, ground := Go.Ground.chain }, { on := 0, ground := Go.Ground.phase }, { on := 1, ground := Go.Ground.phase }, { on := 2, ground := Go.Ground.phase }, { on := 3, ground := Go.Ground.phase }, { on := 4, ground := Go.Ground.phase }, { on := 5, ground := Go.Ground.phase }, { on := 6, ground := Go.Ground.phase }, { on := 7, ground := Go.Ground.phase }], guard := none }) rfl (fun K hK => ?_) AllReadyH.nil
            refine if_take (by rfl) ?_
            refine wp_store_row 24 _ _ rfl (v2.heap.size + 1) (vC (yesV false)) rfl rfl 24 _ (R8.out.rows (v2.heap.size + 1, ⟨0, 0⟩) List.mem_cons_self) info24 rfl (by simp [Value.oneCell']) ?_
            have R9 := hid (RS6.out.setRow R8.out HKL (yesV false))
            refine hK.out _ _ ?_ (fun hHeld => ?_)
            · exact SA _ (R9.out.less (fun _ h => (List.mem_cons_of_mem _ h)) (fun _ h => (List.not_mem_nil h).elim))
            clear hK K
            refine wpAnyH_done (by kernel_rfl) ?_ _
            exact ⟨_, v2.heap.size + 1, R9.out, _, _, _, _, _, _, _, _, _, _, _, _, _, _, _, _, _, _, _, _, _, _, _, _, _, rfl⟩
        · go_simp
          have HKL : W6.heap.size ≤ v2.heap.size := by first | exact R2.out.base | (have h := R2.out.base; simp at h; omega)
          have R10 := hid (R2.out.push ⟨0, 0⟩ (b := v2.heap.size) (by simp))
          refine hK.out _ _ ?_ (fun hHeld => ?_)
          · exact SA _ (R10.out.less (fun _ h => (List.mem_cons_of_mem _ h)) (fun _ h => (List.not_mem_nil h).elim))
          clear hK K
          refine wpAnyH_ready (rs := [5]) (by kernel_rfl) (by simp) ?_
          refine AllReadyH.cons (o := { dst := some 33, op := Go.Op.buildSlice 35 2 #[(0, Go.Operand.tmp 31), (1, Go.Operand.tmp 32)], type := 35, pos := _, after := #[{ on := 3, ground := Go.Ground.data }, { on := 4, ground := Go.Ground.data }], guard := none }) rfl (fun K hK => ?_) AllReadyH.nil
          refine if_take (by rfl) ?_
          have R11 := hid (R10.out.build [yesV false, yesV (a == b)] (by simp) (b := v2.heap.size + 1) (by simp))
          go_simp
          refine hK.out _ _ ?_ (fun hHeld => ?_)
          · exact SA _ (R11.out.less (fun _ h => (List.mem_cons_of_mem _ h)) (fun _ h => (List.not_mem_nil h).elim))
          clear hK K
          refine wpAnyH_ready (rs := [6]) (by kernel_rfl) (by simp) ?_
          refine AllReadyH.cons (o := { dst := some 34, op := Go.Op.call { callee := Go.Callee.value (Go.Operand.func 13), args := #[Go.Operand.const (Go.Value.int Go.IntKind.u8 15), Go.Operand.tmp 33], argTypes := #[29, 35] }, type := 24, pos := _, after := #[{ on := 5, ground := Go.Ground.data }, { on := 3, ground := Go.Ground.chain }], guard := none }) rfl (fun K hK => ?_) AllReadyH.nil
          go_simp
          refine (ldo_sl R11.out 15 [yesV false, yesV (a == b)] (v2.heap.size + 1) (by simp)).mono ?_
          rintro e v12 ⟨rfl, b12⟩
          rw [E5.out]
          have R12 := hid (R11.out.step b12)
          clear b12
          go_wp2_with fail
          refine hK.out _ _ ?_ (fun hHeld => ?_)
          · exact SA _ (R12.out.less (fun _ h => (List.mem_cons_of_mem _ h)) (fun _ h => (List.not_mem_nil h).elim))
          clear hK K
          refine wpAnyH_ready (rs := [8]) (by kernel_rfl) (by simp) ?_
          refine AllReadyH.cons (o := { dst := none, op := Go.Op.store 24 (Go.Operand.tmp 10) (Go.Operand.tmp 34), type := 0, pos := _, after := #[{ on := 7, ground := Go.Ground.data }, { on := 6, ground := Go.Ground.data }, { on := 6, ground := Go.Ground.chain }, { on := 0, ground := Go.Ground.phase }, { on := 1, ground := Go.Ground.phase }, { on := 2, ground := Go.Ground.phase }, { on := 3, ground := Go.Ground.phase }, { on := 4, ground := Go.Ground.phase }, { on := 5, ground := Go.Ground.phase }, { on := 6, ground := Go.Ground.phase }, { on := 7, ground := Go.Ground.phase }], guard := none }) rfl (fun K hK => ?_) AllReadyH.nil
          refine if_take (by rfl) ?_
          refine wp_store_row 24 _ _ rfl (v2.heap.size) (vC (yesV false)) rfl rfl 24 _ (R12.out.rows (v2.heap.size, ⟨0, 0⟩) List.mem_cons_self) info24 rfl (by simp [Value.oneCell']) ?_
          have R13 := hid (RS6.out.setRow R12.out HKL (yesV false))
          refine hK.out _ _ ?_ (fun hHeld => ?_)
          · exact SA _ (R13.out.less (fun _ h => (List.mem_cons_of_mem _ h)) (fun _ h => (List.not_mem_nil h).elim))
          clear hK K
          refine wpAnyH_done (by kernel_rfl) ?_ _
          exact ⟨_, v2.heap.size, R13.out, _, _, _, _, _, _, _, _, _, _, _, _, _, _, _, _, _, _, _, _, _, _, _, _, _, rfl⟩
      · go_simp
        have HKL : W6.heap.size ≤ W6.heap.size + 1 := by first | exact R1.out.base | (have h := R1.out.base; simp at h; omega)
        have R14 := hid (R1.out.push ⟨0, 0⟩ (b := W6.heap.size + 1) (by simp))
        refine hK.out _ _ ?_ (fun hHeld => ?_)
        · exact SA _ (R14.out.less (fun _ h => (List.mem_cons_of_mem _ h)) (fun _ h => (List.not_mem_nil h).elim))
        clear hK K
        refine wpAnyH_ready (rs := [3]) (by kernel_rfl) (by simp) ?_
        refine AllReadyH.cons (o := { dst := some 31, op := Go.Op.call { callee := Go.Callee.value (Go.Operand.func 13), args := #[Go.Operand.const (Go.Value.int Go.IntKind.u8 15), Go.Operand.tmp 30], argTypes := #[29, 35] }, type := 24, pos := _, after := #[{ on := 2, ground := Go.Ground.data }], guard := none }) rfl (fun K hK => ?_) AllReadyH.nil
        go_simp
        refine (ldo_sl R14.out 15 [yesV (decide (a < b)), yesV (decide (b < a))] (W6.heap.size) (by simp)).mono ?_
        rintro e v15 ⟨rfl, b15⟩
        rw [E4.out]
        have R15 := hid (R14.out.step b15)
        clear b15
        go_wp2_with fail
        refine hK.out _ _ ?_ (fun hHeld => ?_)
        · exact SA _ (R15.out.less (fun _ h => (List.mem_cons_of_mem _ h)) (fun _ h => (List.not_mem_nil h).elim))
        clear hK K
        refine wpAnyH_ready (rs := [5]) (by kernel_rfl) (by simp) ?_
        refine AllReadyH.cons (o := { dst := some 33, op := Go.Op.buildSlice 35 2 #[(0, Go.Operand.tmp 31), (1, Go.Operand.tmp 32)], type := 35, pos := _, after := #[{ on := 3, ground := Go.Ground.data }, { on := 4, ground := Go.Ground.data }], guard := none }) rfl (fun K hK => ?_) AllReadyH.nil
        refine if_take (by rfl) ?_
        have R16 := hid (R15.out.build [yesV false, yesV (a == b)] (by simp) (b := v15.heap.size) (by simp))
        go_simp
        refine hK.out _ _ ?_ (fun hHeld => ?_)
        · exact SA _ (R16.out.less (fun _ h => (List.mem_cons_of_mem _ h)) (fun _ h => (List.not_mem_nil h).elim))
        clear hK K
        refine wpAnyH_ready (rs := [6]) (by kernel_rfl) (by simp) ?_
        refine AllReadyH.cons (o := { dst := some 34, op := Go.Op.call { callee := Go.Callee.value (Go.Operand.func 13), args := #[Go.Operand.const (Go.Value.int Go.IntKind.u8 15), Go.Operand.tmp 33], argTypes := #[29, 35] }, type := 24, pos := _, after := #[{ on := 5, ground := Go.Ground.data }, { on := 3, ground := Go.Ground.chain }], guard := none }) rfl (fun K hK => ?_) AllReadyH.nil
        go_simp
        refine (ldo_sl R16.out 15 [yesV false, yesV (a == b)] (v15.heap.size) (by simp)).mono ?_
        rintro e v17 ⟨rfl, b17⟩
        rw [E5.out]
        have R17 := hid (R16.out.step b17)
        clear b17
        go_wp2_with fail
        refine hK.out _ _ ?_ (fun hHeld => ?_)
        · exact SA _ (R17.out.less (fun _ h => (List.mem_cons_of_mem _ h)) (fun _ h => (List.not_mem_nil h).elim))
        clear hK K
        refine wpAnyH_ready (rs := [8]) (by kernel_rfl) (by simp) ?_
        refine AllReadyH.cons (o := { dst := none, op := Go.Op.store 24 (Go.Operand.tmp 10) (Go.Operand.tmp 34), type := 0, pos := _, after := #[{ on := 7, ground := Go.Ground.data }, { on := 6, ground := Go.Ground.data }, { on := 6, ground := Go.Ground.chain }, { on := 0, ground := Go.Ground.phase }, { on := 1, ground := Go.Ground.phase }, { on := 2, ground := Go.Ground.phase }, { on := 3, ground := Go.Ground.phase }, { on := 4, ground := Go.Ground.phase }, { on := 5, ground := Go.Ground.phase }, { on := 6, ground := Go.Ground.phase }, { on := 7, ground := Go.Ground.phase }], guard := none }) rfl (fun K hK => ?_) AllReadyH.nil
        refine if_take (by rfl) ?_
        refine wp_store_row 24 _ _ rfl (W6.heap.size + 1) (vC (yesV false)) rfl rfl 24 _ (R17.out.rows (W6.heap.size + 1, ⟨0, 0⟩) List.mem_cons_self) info24 rfl (by simp [Value.oneCell']) ?_
        have R18 := hid (RS6.out.setRow R17.out HKL (yesV false))
        refine hK.out _ _ ?_ (fun hHeld => ?_)
        · exact SA _ (R18.out.less (fun _ h => (List.mem_cons_of_mem _ h)) (fun _ h => (List.not_mem_nil h).elim))
        clear hK K
        refine wpAnyH_done (by kernel_rfl) ?_ _
        exact ⟨_, W6.heap.size + 1, R18.out, _, _, _, _, _, _, _, _, _, _, _, _, _, _, _, _, _, _, _, _, _, _, _, _, _, rfl⟩
    · go_simp
      have HKL : W6.heap.size ≤ W6.heap.size := by first | exact RD.out.base | (have h := RD.out.base; simp at h; omega)
      have R19 := hid (RD.out.push ⟨0, 0⟩ (b := W6.heap.size) (by simp))
      refine hK.out _ _ ?_ (fun hHeld => ?_)
      · exact SA _ (R19.out.less (fun _ h => (List.mem_cons_of_mem _ h)) (fun _ h => (List.not_mem_nil h).elim))
      clear hK K
      refine wpAnyH_ready (rs := [2]) (by kernel_rfl) (by simp) ?_
      refine AllReadyH.cons (o := { dst := some 30, op := Go.Op.buildSlice 35 2 #[(0, Go.Operand.tmp 28), (1, Go.Operand.tmp 29)], type := 35, pos := _, after := #[{ on := 0, ground := Go.Ground.data }, { on := 1, ground := Go.Ground.data }], guard := none }) rfl (fun K hK => ?_) AllReadyH.nil
      refine if_take (by rfl) ?_
      have R20 := hid (R19.out.build [yesV (decide (a < b)), yesV (decide (b < a))] (by simp) (b := W6.heap.size + 1) (by simp))
      go_simp
      refine hK.out _ _ ?_ (fun hHeld => ?_)
      · exact SA _ (R20.out.less (fun _ h => (List.mem_cons_of_mem _ h)) (fun _ h => (List.not_mem_nil h).elim))
      clear hK K
      refine wpAnyH_ready (rs := [3]) (by kernel_rfl) (by simp) ?_
      refine AllReadyH.cons (o := { dst := some 31, op := Go.Op.call { callee := Go.Callee.value (Go.Operand.func 13), args := #[Go.Operand.const (Go.Value.int Go.IntKind.u8 15), Go.Operand.tmp 30], argTypes := #[29, 35] }, type := 24, pos := _, after := #[{ on := 2, ground := Go.Ground.data }], guard := none }) rfl (fun K hK => ?_) AllReadyH.nil
      go_simp
      refine (ldo_sl R20.out 15 [yesV (decide (a < b)), yesV (decide (b < a))] (W6.heap.size + 1) (by simp)).mono ?_
      rintro e v21 ⟨rfl, b21⟩
      rw [E4.out]
      have R21 := hid (R20.out.step b21)
      clear b21
      go_wp2_with fail
      refine hK.out _ _ ?_ (fun hHeld => ?_)
      · exact SA _ (R21.out.less (fun _ h => (List.mem_cons_of_mem _ h)) (fun _ h => (List.not_mem_nil h).elim))
      clear hK K
      refine wpAnyH_ready (rs := [5]) (by kernel_rfl) (by simp) ?_
      refine AllReadyH.cons (o := { dst := some 33, op := Go.Op.buildSlice 35 2 #[(0, Go.Operand.tmp 31), (1, Go.Operand.tmp 32)], type := 35, pos := _, after := #[{ on := 3, ground := Go.Ground.data }, { on := 4, ground := Go.Ground.data }], guard := none }) rfl (fun K hK => ?_) AllReadyH.nil
      refine if_take (by rfl) ?_
      have R22 := hid (R21.out.build [yesV false, yesV (a == b)] (by simp) (b := v21.heap.size) (by simp))
      go_simp
      refine hK.out _ _ ?_ (fun hHeld => ?_)
      · exact SA _ (R22.out.less (fun _ h => (List.mem_cons_of_mem _ h)) (fun _ h => (List.not_mem_nil h).elim))
      clear hK K
      refine wpAnyH_ready (rs := [6]) (by kernel_rfl) (by simp) ?_
      refine AllReadyH.cons (o := { dst := some 34, op := Go.Op.call { callee := Go.Callee.value (Go.Operand.func 13), args := #[Go.Operand.const (Go.Value.int Go.IntKind.u8 15), Go.Operand.tmp 33], argTypes := #[29, 35] }, type := 24, pos := _, after := #[{ on := 5, ground := Go.Ground.data }, { on := 3, ground := Go.Ground.chain }], guard := none }) rfl (fun K hK => ?_) AllReadyH.nil
      go_simp
      refine (ldo_sl R22.out 15 [yesV false, yesV (a == b)] (v21.heap.size) (by simp)).mono ?_
      rintro e v23 ⟨rfl, b23⟩
      rw [E5.out]
      have R23 := hid (R22.out.step b23)
      clear b23
      go_wp2_with fail
      refine hK.out _ _ ?_ (fun hHeld => ?_)
      · exact SA _ (R23.out.less (fun _ h => (List.mem_cons_of_mem _ h)) (fun _ h => (List.not_mem_nil h).elim))
      clear hK K
      refine wpAnyH_ready (rs := [8]) (by kernel_rfl) (by simp) ?_
      refine AllReadyH.cons (o := { dst := none, op := Go.Op.store 24 (Go.Operand.tmp 10) (Go.Operand.tmp 34), type := 0, pos := _, after := #[{ on := 7, ground := Go.Ground.data }, { on := 6, ground := Go.Ground.data }, { on := 6, ground := Go.Ground.chain }, { on := 0, ground := Go.Ground.phase }, { on := 1, ground := Go.Ground.phase }, { on := 2, ground := Go.Ground.phase }, { on := 3, ground := Go.Ground.phase }, { on := 4, ground := Go.Ground.phase }, { on := 5, ground := Go.Ground.phase }, { on := 6, ground := Go.Ground.phase }, { on := 7, ground := Go.Ground.phase }], guard := none }) rfl (fun K hK => ?_) AllReadyH.nil
      refine if_take (by rfl) ?_
      refine wp_store_row 24 _ _ rfl (W6.heap.size) (vC (yesV false)) rfl rfl 24 _ (R23.out.rows (W6.heap.size, ⟨0, 0⟩) List.mem_cons_self) info24 rfl (by simp [Value.oneCell']) ?_
      have R24 := hid (RS6.out.setRow R23.out HKL (yesV false))
      refine hK.out _ _ ?_ (fun hHeld => ?_)
      · exact SA _ (R24.out.less (fun _ h => (List.mem_cons_of_mem _ h)) (fun _ h => (List.not_mem_nil h).elim))
      clear hK K
      refine wpAnyH_done (by kernel_rfl) ?_ _
      exact ⟨_, W6.heap.size, R24.out, _, _, _, _, _, _, _, _, _, _, _, _, _, _, _, _, _, _, _, _, _, _, _, _, _, rfl⟩
  case go =>
    rintro e t X7 h
    obtain rfl : e = .normal := by cases e <;> first | rfl | exact h.elim
    obtain ⟨B6, bn, hR, u2, u3, u12, u13, u14, u15, u16, u17, u18, u19, u20, u21, u22, u23, u24, u25, u26, u27, u28, u29, u30, u31, u32, u33, u34, rfl⟩ := h
    clear SA RS6 R13
    have RS7 := hid hR.rebase
    clear hR
    have SA : ∀ V, LV w X7.heap.size [(bn, yesV false), (bs, yesV (a == b)), (bm, yesV (decide (b < a))), (bl, yesV (decide (a < b))), (by_, numV b), (bx, numV a)] [] V → (fun V => V.cell? ⟨bn, 0, none⟩ = some (.int .u8 ((yesV false : Vl).ty : Int)) ∧ V.cell? ⟨bn, 1, none⟩ = some (.int .i64 (yesV false : Vl).n) ∧ V.cell? ⟨bs, 0, none⟩ = some (.int .u8 ((yesV (a == b) : Vl).ty : Int)) ∧ V.cell? ⟨bs, 1, none⟩ = some (.int .i64 (yesV (a == b) : Vl).n) ∧ V.cell? ⟨bm, 0, none⟩ = some (.int .u8 ((yesV (decide (b < a)) : Vl).ty : Int)) ∧ V.cell? ⟨bm, 1, none⟩ = some (.int .i64 (yesV (decide (b < a)) : Vl).n) ∧ V.cell? ⟨bl, 0, none⟩ = some (.int .u8 ((yesV (decide (a < b)) : Vl).ty : Int)) ∧ V.cell? ⟨bl, 1, none⟩ = some (.int .i64 (yesV (decide (a < b)) : Vl).n) ∧ V.cell? ⟨by_, 0, none⟩ = some (.int .u8 ((numV b : Vl).ty : Int)) ∧ V.cell? ⟨by_, 1, none⟩ = some (.int .i64 (numV b : Vl).n) ∧ V.cell? ⟨bx, 0, none⟩ = some (.int .u8 ((numV a : Vl).ty : Int)) ∧ V.cell? ⟨bx, 1, none⟩ = some (.int .i64 (numV a : Vl).n)) V := fun V h => ⟨(h.cs bn (yesV false) (by simp)).1, (h.cs bn (yesV false) (by simp)).2, (h.cs bs (yesV (a == b)) (by simp)).1, (h.cs bs (yesV (a == b)) (by simp)).2, (h.cs bm (yesV (decide (b < a))) (by simp)).1, (h.cs bm (yesV (decide (b < a))) (by simp)).2, (h.cs bl (yesV (decide (a < b))) (by simp)).1, (h.cs bl (yesV (decide (a < b))) (by simp)).2, (h.cs by_ (numV b) (by simp)).1, (h.cs by_ (numV b) (by simp)).2, (h.cs bx (numV a) (by simp)).1, (h.cs bx (numV a) (by simp)).2⟩
    obtain ⟨c00, c01⟩ := RS7.out.cs (bn) (yesV false) (by simp)
    obtain ⟨c10, c11⟩ := RS7.out.cs (bs) (yesV (a == b)) (by simp)
    obtain ⟨c20, c21⟩ := RS7.out.cs (bm) (yesV (decide (b < a))) (by simp)
    obtain ⟨c30, c31⟩ := RS7.out.cs (bl) (yesV (decide (a < b))) (by simp)
    obtain ⟨c40, c41⟩ := RS7.out.cs (by_) (numV b) (by simp)
    obtain ⟨c50, c51⟩ := RS7.out.cs (bx) (numV a) (by simp)
    go_wp2_with (fail)
    clear c00 c01 c10 c11 c20 c21 c30 c31 c40 c41 c50 c51
    refine wp_mono (Q := Exit.then (Aft7 w a b bx by_ bl bm bs bn) (fun _ _ _ => False)) ?reg ?go
    case reg =>
      refine wp_region_held_drew (S := fun V => V.cell? ⟨bn, 0, none⟩ = some (.int .u8 ((yesV false : Vl).ty : Int)) ∧ V.cell? ⟨bn, 1, none⟩ = some (.int .i64 (yesV false : Vl).n) ∧ V.cell? ⟨bs, 0, none⟩ = some (.int .u8 ((yesV (a == b) : Vl).ty : Int)) ∧ V.cell? ⟨bs, 1, none⟩ = some (.int .i64 (yesV (a == b) : Vl).n) ∧ V.cell? ⟨bm, 0, none⟩ = some (.int .u8 ((yesV (decide (b < a)) : Vl).ty : Int)) ∧ V.cell? ⟨bm, 1, none⟩ = some (.int .i64 (yesV (decide (b < a)) : Vl).n) ∧ V.cell? ⟨bl, 0, none⟩ = some (.int .u8 ((yesV (decide (a < b)) : Vl).ty : Int)) ∧ V.cell? ⟨bl, 1, none⟩ = some (.int .i64 (yesV (decide (a < b)) : Vl).n) ∧ V.cell? ⟨by_, 0, none⟩ = some (.int .u8 ((numV b : Vl).ty : Int)) ∧ V.cell? ⟨by_, 1, none⟩ = some (.int .i64 (numV b : Vl).n) ∧ V.cell? ⟨bx, 0, none⟩ = some (.int .u8 ((numV a : Vl).ty : Int)) ∧ V.cell? ⟨bx, 1, none⟩ = some (.int .i64 (numV a : Vl).n)) (by kernel_rfl) ?_ (fun hHeld => ?_)
      · exact SA _ RS7.out.drew
      have RD := hid RS7.out.drew
      refine wpAnyH_take (i := 0) (oi := { dst := some 35, op := Go.Op.load 24 (Go.Operand.tmp 7), type := 24, pos := _, after := #[], guard := none }) (v := ?_) rfl (by kernel_rfl) (by kernel_rfl) (by kernel_rfl) (fun _ _ _ h => h) (Or.inl ⟨by rfl, ?_⟩) (by assumption) ?_
      rotate_left
      · intro w hSw; (try dsimp only at hSw); go_simp <;> first | with_reducible rfl | (rw [if_neg (by omega)])
      simp only [Act.put, List.setIfInBounds_toArray, List.set_cons_zero, List.set_cons_succ]
      refine wpAnyH_take (i := 1) (oi := { dst := some 36, op := Go.Op.load 24 (Go.Operand.tmp 8), type := 24, pos := _, after := #[], guard := none }) (v := ?_) rfl (by kernel_rfl) (by kernel_rfl) (by kernel_rfl) (fun _ _ _ h => h) (Or.inl ⟨by rfl, ?_⟩) (by assumption) ?_
      rotate_left
      · intro w hSw; (try dsimp only at hSw); go_simp <;> first | with_reducible rfl | (rw [if_neg (by omega)])
      simp only [Act.put, List.setIfInBounds_toArray, List.set_cons_zero, List.set_cons_succ]
      refine wpAnyH_take (i := 4) (oi := { dst := some 39, op := Go.Op.load 24 (Go.Operand.tmp 9), type := 24, pos := _, after := #[], guard := none }) (v := ?_) rfl (by kernel_rfl) (by kernel_rfl) (by kernel_rfl) (fun _ _ _ h => h) (Or.inl ⟨by rfl, ?_⟩) (by assumption) ?_
      rotate_left
      · intro w hSw; (try dsimp only at hSw); go_simp <;> first | with_reducible rfl | (rw [if_neg (by omega)])
      simp only [Act.put, List.setIfInBounds_toArray, List.set_cons_zero, List.set_cons_succ]
      refine wpAnyH_ready (rs := [2, 7]) (by kernel_rfl) (by simp) ?_
      refine AllReadyH.cons (o := { dst := some 37, op := Go.Op.buildSlice 35 2 #[(0, Go.Operand.tmp 35), (1, Go.Operand.tmp 36)], type := 35, pos := _, after := #[{ on := 0, ground := Go.Ground.data }, { on := 1, ground := Go.Ground.data }], guard := none }) rfl (fun K hK => ?_) (AllReadyH.cons (o := { dst := some 11, op := Go.Op.alloc 24, type := 0, pos := _, after := #[], guard := none }) rfl (fun K hK => ?_) AllReadyH.nil)
      · refine if_take (by rfl) ?_
        have R1 := hid (RD.out.build [yesV (decide (a < b)), yesV (decide (b < a))] (by simp) (b := X7.heap.size) (by simp))
        go_simp
        refine hK.out _ _ ?_ (fun hHeld => ?_)
        · exact SA _ (R1.out.less (fun _ h => h) (fun _ h => (List.not_mem_nil h).elim))
        clear hK K
        refine wpAnyH_ready (rs := [3, 7]) (by kernel_rfl) (by simp) ?_
        refine AllReadyH.cons (o := { dst := some 38, op := Go.Op.call { callee := Go.Callee.value (Go.Operand.func 13), args := #[Go.Operand.const (Go.Value.int Go.IntKind.u8 16), Go.Operand.tmp 37], argTypes := #[29, 35] }, type := 24, pos := _, after := #[{ on := 2, ground := Go.Ground.data }], guard := none }) rfl (fun K hK => ?_) (AllReadyH.cons (o := { dst := some 11, op := Go.Op.alloc 24, type := 0, pos := _, after := #[], guard := none }) rfl (fun K hK => ?_) AllReadyH.nil)
        · go_simp
          refine (ldo_sl R1.out 16 [yesV (decide (a < b)), yesV (decide (b < a))] (X7.heap.size) (by simp)).mono ?_
          rintro e v2 ⟨rfl, b2⟩
          rw [E6.out]
          have R2 := hid (R1.out.step b2)
          clear b2
          go_wp2_with fail
          refine hK.out _ _ ?_ (fun hHeld => ?_)
          · exact SA _ (R2.out.less (fun _ h => h) (fun _ h => (List.not_mem_nil h).elim))
          clear hK K
          refine wpAnyH_ready (rs := [5, 7]) (by kernel_rfl) (by simp) ?_
          refine AllReadyH.cons (o := { dst := some 40, op := Go.Op.buildSlice 35 2 #[(0, Go.Operand.tmp 38), (1, Go.Operand.tmp 39)], type := 35, pos := _, after := #[{ on := 3, ground := Go.Ground.data }, { on := 4, ground := Go.Ground.data }], guard := none }) rfl (fun K hK => ?_) (AllReadyH.cons (o := { dst := some 11, op := Go.Op.alloc 24, type := 0, pos := _, after := #[], guard := none }) rfl (fun K hK => ?_) AllReadyH.nil)
          · refine if_take (by rfl) ?_
            have R3 := hid (R2.out.build [yesV (decide (a < b) || decide (b < a)), yesV (a == b)] (by simp) (b := v2.heap.size) (by simp))
            go_simp
            refine hK.out _ _ ?_ (fun hHeld => ?_)
            · exact SA _ (R3.out.less (fun _ h => h) (fun _ h => (List.not_mem_nil h).elim))
            clear hK K
            refine wpAnyH_ready (rs := [6, 7]) (by kernel_rfl) (by simp) ?_
            refine AllReadyH.cons (o := { dst := some 41, op := Go.Op.call { callee := Go.Callee.value (Go.Operand.func 13), args := #[Go.Operand.const (Go.Value.int Go.IntKind.u8 16), Go.Operand.tmp 40], argTypes := #[29, 35] }, type := 24, pos := _, after := #[{ on := 5, ground := Go.Ground.data }, { on := 3, ground := Go.Ground.chain }], guard := none }) rfl (fun K hK => ?_) (AllReadyH.cons (o := { dst := some 11, op := Go.Op.alloc 24, type := 0, pos := _, after := #[], guard := none }) rfl (fun K hK => ?_) AllReadyH.nil)
            · go_simp
              refine (ldo_sl R3.out 16 [yesV (decide (a < b) || decide (b < a)), yesV (a == b)] (v2.heap.size) (by simp)).mono ?_
              rintro e v4 ⟨rfl, b4⟩
              rw [E7.out]
              have R4 := hid (R3.out.step b4)
              clear b4
              go_wp2_with fail
              refine hK.out _ _ ?_ (fun hHeld => ?_)
              · exact SA _ (R4.out.less (fun _ h => h) (fun _ h => (List.not_mem_nil h).elim))
              clear hK K
              refine wpAnyH_ready (rs := [7]) (by kernel_rfl) (by simp) ?_
              refine AllReadyH.cons (o := { dst := some 11, op := Go.Op.alloc 24, type := 0, pos := _, after := #[], guard := none }) rfl (fun K hK => ?_) AllReadyH.nil
              go_simp
              have HKL : X7.heap.size ≤ v4.heap.size := by first | exact R4.out.base | (have h := R4.out.base; simp at h; omega)
              have R5 := hid (R4.out.push ⟨0, 0⟩ (b := v4.heap.size) (by simp))
              refine hK.out _ _ ?_ (fun hHeld => ?_)
              · exact SA _ (R5.out.less (fun _ h => (List.mem_cons_of_mem _ h)) (fun _ h => (List.not_mem_nil h).elim))
              clear hK K
              refine wpAnyH_ready (rs := [8]) (by kernel_rfl) (by simp) ?_
              refine AllReadyH.cons (o := { dst := none, op := Go.Op.store 24 (Go.Operand.tmp 11) (Go.Operand.tmp 41), type := 0, pos := _, after := #[{ on := 7, ground := Go.Ground.data }, { on := 6, ground := Go.Ground.data }, { on := 6, ground := Go.Ground.chain }, { on := 0, ground := Go.Ground.phase }, { on := 1, ground := Go.Ground.phase }, { on := 2, ground := Go.Ground.phase }, { on := 3, ground := Go.Ground.phase }, { on := 4, ground := Go.Ground.phase }, { on := 5, ground := Go.Ground.phase }, { on := 6, ground := Go.Ground.phase }, { on := 7, ground := Go.Ground.phase }], guard := none }) rfl (fun K hK => ?_) AllReadyH.nil
              refine if_take (by rfl) ?_
              refine wp_store_row 24 _ _ rfl (v4.heap.size) (vC (yesV true)) rfl rfl 24 _ (R5.out.rows (v4.heap.size, ⟨0, 0⟩) List.mem_cons_self) info24 rfl (by simp [Value.oneCell']) ?_
              have R6 := hid (RS7.out.setRow R5.out HKL (yesV true))
              refine hK.out _ _ ?_ (fun hHeld => ?_)
              · exact SA _ (R6.out.less (fun _ h => (List.mem_cons_of_mem _ h)) (fun _ h => (List.not_mem_nil h).elim))
              clear hK K
              refine wpAnyH_done (by kernel_rfl) ?_ _
              exact ⟨_, v4.heap.size, R6.out, _, _, _, _, _, _, _, _, _, _, _, _, _, _, _, _, _, _, _, _, _, _, _, _, _, _, _, _, _, _, _, _, rfl⟩
            · go_simp
              have HKL : X7.heap.size ≤ v2.heap.size + 1 := by first | exact R3.out.base | (have h := R3.out.base; simp at h; omega)
              have R7 := hid (R3.out.push ⟨0, 0⟩ (b := v2.heap.size + 1) (by simp))
              refine hK.out _ _ ?_ (fun hHeld => ?_)
              · exact SA _ (R7.out.less (fun _ h => (List.mem_cons_of_mem _ h)) (fun _ h => (List.not_mem_nil h).elim))
              clear hK K
              refine wpAnyH_ready (rs := [6]) (by kernel_rfl) (by simp) ?_
              refine AllReadyH.cons (o := { dst := some 41, op := Go.Op.call { callee := Go.Callee.value (Go.Operand.func 13), args := #[Go.Operand.const (Go.Value.int Go.IntKind.u8 16), Go.Operand.tmp 40], argTypes := #[29, 35] }, type := 24, pos := _, after := #[{ on := 5, ground := Go.Ground.data }, { on := 3, ground := Go.Ground.chain }], guard := none }) rfl (fun K hK => ?_) AllReadyH.nil
              go_simp
              refine (ldo_sl R7.out 16 [yesV (decide (a < b) || decide (b < a)), yesV (a == b)] (v2.heap.size) (by simp)).mono ?_
              rintro e v8 ⟨rfl, b8⟩
              rw [E7.out]
              have R8 := hid (R7.out.step b8)
              clear b8
              go_wp2_with fail
              refine hK.out _ _ ?_ (fun hHeld => ?_)
              · exact SA _ (R8.out.less (fun _ h => (List.mem_cons_of_mem _ h)) (fun _ h => (List.not_mem_nil h).elim))
              clear hK K
              refine wpAnyH_ready (rs := [8]) (by kernel_rfl) (by simp) ?_
              refine AllReadyH.cons (o := { dst := none, op := Go.Op.store 24 (Go.Operand.tmp 11) (Go.Operand.tmp 41), type := 0, pos := _, after := #[{ on := 7, ground := Go.Ground.data }, { on := 6, ground := Go.Ground.data }, { on := 6, ground := Go.Ground.chain }, { on := 0, ground := Go.Ground.phase }, { on := 1, ground := Go.Ground.phase }, { on := 2, ground := Go.Ground.phase }, { on := 3, ground := Go.Ground.phase }, { on := 4, ground := Go.Ground.phase }, { on := 5, ground := Go.Ground.phase }, { on := 6, ground := Go.Ground.phase }, { on := 7, ground := Go.Ground.phase }], guard := none }) rfl (fun K hK => ?_) AllReadyH.nil
              refine if_take (by rfl) ?_
              refine wp_store_row 24 _ _ rfl (v2.heap.size + 1) (vC (yesV true)) rfl rfl 24 _ (R8.out.rows (v2.heap.size + 1, ⟨0, 0⟩) List.mem_cons_self) info24 rfl (by simp [Value.oneCell']) ?_
              have R9 := hid (RS7.out.setRow R8.out HKL (yesV true))
              refine hK.out _ _ ?_ (fun hHeld => ?_)
              · exact SA _ (R9.out.less (fun _ h => (List.mem_cons_of_mem _ h)) (fun _ h => (List.not_mem_nil h).elim))
              clear hK K
              refine wpAnyH_done (by kernel_rfl) ?_ _
              exact ⟨_, v2.heap.size + 1, R9.out, _, _, _, _, _, _, _, _, _, _, _, _, _, _, _, _, _, _, _, _, _, _, _, _, _, _, _, _, _, _, _, _, rfl⟩
          · go_simp
            have HKL : X7.heap.size ≤ v2.heap.size := by first | exact R2.out.base | (have h := R2.out.base; simp at h; omega)
            have R10 := hid (R2.out.push ⟨0, 0⟩ (b := v2.heap.size) (by simp))
            refine hK.out _ _ ?_ (fun hHeld => ?_)
            · exact SA _ (R10.out.less (fun _ h => (List.mem_cons_of_mem _ h)) (fun _ h => (List.not_mem_nil h).elim))
            clear hK K
            refine wpAnyH_ready (rs := [5]) (by kernel_rfl) (by simp) ?_
            refine AllReadyH.cons (o := { dst := some 40, op := Go.Op.buildSlice 35 2 #[(0, Go.Operand.tmp 38), (1, Go.Operand.tmp 39)], type := 35, pos := _, after := #[{ on := 3, ground := Go.Ground.data }, { on := 4, ground := Go.Ground.data }], guard := none }) rfl (fun K hK => ?_) AllReadyH.nil
            refine if_take (by rfl) ?_
            have R11 := hid (R10.out.build [yesV (decide (a < b) || decide (b < a)), yesV (a == b)] (by simp) (b := v2.heap.size + 1) (by simp))
            go_simp
            refine hK.out _ _ ?_ (fun hHeld => ?_)
            · exact SA _ (R11.out.less (fun _ h => (List.mem_cons_of_mem _ h)) (fun _ h => (List.not_mem_nil h).elim))
            clear hK K
            refine wpAnyH_ready (rs := [6]) (by kernel_rfl) (by simp) ?_
            refine AllReadyH.cons (o := { dst := some 41, op := Go.Op.call { callee := Go.Callee.value (Go.Operand.func 13), args := #[Go.Operand.const (Go.Value.int Go.IntKind.u8 16), Go.Operand.tmp 40], argTypes := #[29, 35] }, type := 24, pos := _, after := #[{ on := 5, ground := Go.Ground.data }, { on := 3, ground := Go.Ground.chain }], guard := none }) rfl (fun K hK => ?_) AllReadyH.nil
            go_simp
            refine (ldo_sl R11.out 16 [yesV (decide (a < b) || decide (b < a)), yesV (a == b)] (v2.heap.size + 1) (by simp)).mono ?_
            rintro e v12 ⟨rfl, b12⟩
            rw [E7.out]
            have R12 := hid (R11.out.step b12)
            clear b12
            go_wp2_with fail
            refine hK.out _ _ ?_ (fun hHeld => ?_)
            · exact SA _ (R12.out.less (fun _ h => (List.mem_cons_of_mem _ h)) (fun _ h => (List.not_mem_nil h).elim))
            clear hK K
            refine wpAnyH_ready (rs := [8]) (by kernel_rfl) (by simp) ?_
            refine AllReadyH.cons (o := { dst := none, op := Go.Op.store 24 (Go.Operand.tmp 11) (Go.Operand.tmp 41), type := 0, pos := _, after := #[{ on := 7, ground := Go.Ground.data }, { on := 6, ground := Go.Ground.data }, { on := 6, ground := Go.Ground.chain }, { on := 0, ground := Go.Ground.phase }, { on := 1, ground := Go.Ground.phase }, { on := 2, ground := Go.Ground.phase }, { on := 3, ground := Go.Ground.phase }, { on := 4, ground := Go.Ground.phase }, { on := 5, ground := Go.Ground.phase }, { on := 6, ground := Go.Ground.phase }, { on := 7, ground := Go.Ground.phase }], guard := none }) rfl (fun K hK => ?_) AllReadyH.nil
            refine if_take (by rfl) ?_
            refine wp_store_row 24 _ _ rfl (v2.heap.size) (vC (yesV true)) rfl rfl 24 _ (R12.out.rows (v2.heap.size, ⟨0, 0⟩) List.mem_cons_self) info24 rfl (by simp [Value.oneCell']) ?_
            have R13 := hid (RS7.out.setRow R12.out HKL (yesV true))
            refine hK.out _ _ ?_ (fun hHeld => ?_)
            · exact SA _ (R13.out.less (fun _ h => (List.mem_cons_of_mem _ h)) (fun _ h => (List.not_mem_nil h).elim))
            clear hK K
            refine wpAnyH_done (by kernel_rfl) ?_ _
            exact ⟨_, v2.heap.size, R13.out, _, _, _, _, _, _, _, _, _, _, _, _, _, _, _, _, _, _, _, _, _, _, _, _, _, _, _, _, _, _, _, _, rfl⟩
        · go_simp
          have HKL : X7.heap.size ≤ X7.heap.size + 1 := by first | exact R1.out.base | (have h := R1.out.base; simp at h; omega)
          have R14 := hid (R1.out.push ⟨0, 0⟩ (b := X7.heap.size + 1) (by simp))
          refine hK.out _ _ ?_ (fun hHeld => ?_)
          · exact SA _ (R14.out.less (fun _ h => (List.mem_cons_of_mem _ h)) (fun _ h => (List.not_mem_nil h).elim))
          clear hK K
          refine wpAnyH_ready (rs := [3]) (by kernel_rfl) (by simp) ?_
          refine AllReadyH.cons (o := { dst := some 38, op := Go.Op.call { callee := Go.Callee.value (Go.Operand.func 13), args := #[Go.Operand.const (Go.Value.int Go.IntKind.u8 16), Go.Operand.tmp 37], argTypes := #[29, 35] }, type := 24, pos := _, after := #[{ on := 2, ground := Go.Ground.data }], guard := none }) rfl (fun K hK => ?_) AllReadyH.nil
          go_simp
          refine (ldo_sl R14.out 16 [yesV (decide (a < b)), yesV (decide (b < a))] (X7.heap.size) (by simp)).mono ?_
          rintro e v15 ⟨rfl, b15⟩
          rw [E6.out]
          have R15 := hid (R14.out.step b15)
          clear b15
          go_wp2_with fail
          refine hK.out _ _ ?_ (fun hHeld => ?_)
          · exact SA _ (R15.out.less (fun _ h => (List.mem_cons_of_mem _ h)) (fun _ h => (List.not_mem_nil h).elim))
          clear hK K
          refine wpAnyH_ready (rs := [5]) (by kernel_rfl) (by simp) ?_
          refine AllReadyH.cons (o := { dst := some 40, op := Go.Op.buildSlice 35 2 #[(0, Go.Operand.tmp 38), (1, Go.Operand.tmp 39)], type := 35, pos := _, after := #[{ on := 3, ground := Go.Ground.data }, { on := 4, ground := Go.Ground.data }], guard := none }) rfl (fun K hK => ?_) AllReadyH.nil
          refine if_take (by rfl) ?_
          have R16 := hid (R15.out.build [yesV (decide (a < b) || decide (b < a)), yesV (a == b)] (by simp) (b := v15.heap.size) (by simp))
          go_simp
          refine hK.out _ _ ?_ (fun hHeld => ?_)
          · exact SA _ (R16.out.less (fun _ h => (List.mem_cons_of_mem _ h)) (fun _ h => (List.not_mem_nil h).elim))
          clear hK K
          refine wpAnyH_ready (rs := [6]) (by kernel_rfl) (by simp) ?_
          refine AllReadyH.cons (o := { dst := some 41, op := Go.Op.call { callee := Go.Callee.value (Go.Operand.func 13), args := #[Go.Operand.const (Go.Value.int Go.IntKind.u8 16), Go.Operand.tmp 40], argTypes := #[29, 35] }, type := 24, pos := _, after := #[{ on := 5, ground := Go.Ground.data }, { on := 3, ground := Go.Ground.chain }], guard := none }) rfl (fun K hK => ?_) AllReadyH.nil
          go_simp
          refine (ldo_sl R16.out 16 [yesV (decide (a < b) || decide (b < a)), yesV (a == b)] (v15.heap.size) (by simp)).mono ?_
          rintro e v17 ⟨rfl, b17⟩
          rw [E7.out]
          have R17 := hid (R16.out.step b17)
          clear b17
          go_wp2_with fail
          refine hK.out _ _ ?_ (fun hHeld => ?_)
          · exact SA _ (R17.out.less (fun _ h => (List.mem_cons_of_mem _ h)) (fun _ h => (List.not_mem_nil h).elim))
          clear hK K
          refine wpAnyH_ready (rs := [8]) (by kernel_rfl) (by simp) ?_
          refine AllReadyH.cons (o := { dst := none, op := Go.Op.store 24 (Go.Operand.tmp 11) (Go.Operand.tmp 41), type := 0, pos := _, after := #[{ on := 7, ground := Go.Ground.data }, { on := 6, ground := Go.Ground.data }, { on := 6, ground := Go.Ground.chain }, { on := 0, ground := Go.Ground.phase }, { on := 1, ground := Go.Ground.phase }, { on := 2, ground := Go.Ground.phase }, { on := 3, ground := Go.Ground.phase }, { on := 4, ground := Go.Ground.phase }, { on := 5, ground := Go.Ground.phase }, { on := 6, ground := Go.Ground.phase }, { on := 7, ground := Go.Ground.phase }], guard := none }) rfl (fun K hK => ?_) AllReadyH.nil
          refine if_take (by rfl) ?_
          refine wp_store_row 24 _ _ rfl (X7.heap.size + 1) (vC (yesV true)) rfl rfl 24 _ (R17.out.rows (X7.heap.size + 1, ⟨0, 0⟩) List.mem_cons_self) info24 rfl (by simp [Value.oneCell']) ?_
          have R18 := hid (RS7.out.setRow R17.out HKL (yesV true))
          refine hK.out _ _ ?_ (fun hHeld => ?_)
          · exact SA _ (R18.out.less (fun _ h => (List.mem_cons_of_mem _ h)) (fun _ h => (List.not_mem_nil h).elim))
          clear hK K
          refine wpAnyH_done (by kernel_rfl) ?_ _
          exact ⟨_, X7.heap.size + 1, R18.out, _, _, _, _, _, _, _, _, _, _, _, _, _, _, _, _, _, _, _, _, _, _, _, _, _, _, _, _, _, _, _, _, rfl⟩
      · go_simp
        have HKL : X7.heap.size ≤ X7.heap.size := by first | exact RD.out.base | (have h := RD.out.base; simp at h; omega)
        have R19 := hid (RD.out.push ⟨0, 0⟩ (b := X7.heap.size) (by simp))
        refine hK.out _ _ ?_ (fun hHeld => ?_)
        · exact SA _ (R19.out.less (fun _ h => (List.mem_cons_of_mem _ h)) (fun _ h => (List.not_mem_nil h).elim))
        clear hK K
        refine wpAnyH_ready (rs := [2]) (by kernel_rfl) (by simp) ?_
        refine AllReadyH.cons (o := { dst := some 37, op := Go.Op.buildSlice 35 2 #[(0, Go.Operand.tmp 35), (1, Go.Operand.tmp 36)], type := 35, pos := _, after := #[{ on := 0, ground := Go.Ground.data }, { on := 1, ground := Go.Ground.data }], guard := none }) rfl (fun K hK => ?_) AllReadyH.nil
        refine if_take (by rfl) ?_
        have R20 := hid (R19.out.build [yesV (decide (a < b)), yesV (decide (b < a))] (by simp) (b := X7.heap.size + 1) (by simp))
        go_simp
        refine hK.out _ _ ?_ (fun hHeld => ?_)
        · exact SA _ (R20.out.less (fun _ h => (List.mem_cons_of_mem _ h)) (fun _ h => (List.not_mem_nil h).elim))
        clear hK K
        refine wpAnyH_ready (rs := [3]) (by kernel_rfl) (by simp) ?_
        refine AllReadyH.cons (o := { dst := some 38, op := Go.Op.call { callee := Go.Callee.value (Go.Operand.func 13), args := #[Go.Operand.const (Go.Value.int Go.IntKind.u8 16), Go.Operand.tmp 37], argTypes := #[29, 35] }, type := 24, pos := _, after := #[{ on := 2, ground := Go.Ground.data }], guard := none }) rfl (fun K hK => ?_) AllReadyH.nil
        go_simp
        refine (ldo_sl R20.out 16 [yesV (decide (a < b)), yesV (decide (b < a))] (X7.heap.size + 1) (by simp)).mono ?_
        rintro e v21 ⟨rfl, b21⟩
        rw [E6.out]
        have R21 := hid (R20.out.step b21)
        clear b21
        go_wp2_with fail
        refine hK.out _ _ ?_ (fun hHeld => ?_)
        · exact SA _ (R21.out.less (fun _ h => (List.mem_cons_of_mem _ h)) (fun _ h => (List.not_mem_nil h).elim))
        clear hK K
        refine wpAnyH_ready (rs := [5]) (by kernel_rfl) (by simp) ?_
        refine AllReadyH.cons (o := { dst := some 40, op := Go.Op.buildSlice 35 2 #[(0, Go.Operand.tmp 38), (1, Go.Operand.tmp 39)], type := 35, pos := _, after := #[{ on := 3, ground := Go.Ground.data }, { on := 4, ground := Go.Ground.data }], guard := none }) rfl (fun K hK => ?_) AllReadyH.nil
        refine if_take (by rfl) ?_
        have R22 := hid (R21.out.build [yesV (decide (a < b) || decide (b < a)), yesV (a == b)] (by simp) (b := v21.heap.size) (by simp))
        go_simp
        refine hK.out _ _ ?_ (fun hHeld => ?_)
        · exact SA _ (R22.out.less (fun _ h => (List.mem_cons_of_mem _ h)) (fun _ h => (List.not_mem_nil h).elim))
        clear hK K
        refine wpAnyH_ready (rs := [6]) (by kernel_rfl) (by simp) ?_
        refine AllReadyH.cons (o := { dst := some 41, op := Go.Op.call { callee := Go.Callee.value (Go.Operand.func 13), args := #[Go.Operand.const (Go.Value.int Go.IntKind.u8 16), Go.Operand.tmp 40], argTypes := #[29, 35] }, type := 24, pos := _, after := #[{ on := 5, ground := Go.Ground.data }, { on := 3, ground := Go.Ground.chain }], guard := none }) rfl (fun K hK => ?_) AllReadyH.nil
        go_simp
        refine (ldo_sl R22.out 16 [yesV (decide (a < b) || decide (b < a)), yesV (a == b)] (v21.heap.size) (by simp)).mono ?_
        rintro e v23 ⟨rfl, b23⟩
        rw [E7.out]
        have R23 := hid (R22.out.step b23)
        clear b23
        go_wp2_with fail
        refine hK.out _ _ ?_ (fun hHeld => ?_)
        · exact SA _ (R23.out.less (fun _ h => (List.mem_cons_of_mem _ h)) (fun _ h => (List.not_mem_nil h).elim))
        clear hK K
        refine wpAnyH_ready (rs := [8]) (by kernel_rfl) (by simp) ?_
        refine AllReadyH.cons (o := { dst := none, op := Go.Op.store 24 (Go.Operand.tmp 11) (Go.Operand.tmp 41), type := 0, pos := _, after := #[{ on := 7, ground := Go.Ground.data }, { on := 6, ground := Go.Ground.data }, { on := 6, ground := Go.Ground.chain }, { on := 0, ground := Go.Ground.phase }, { on := 1, ground := Go.Ground.phase }, { on := 2, ground := Go.Ground.phase }, { on := 3, ground := Go.Ground.phase }, { on := 4, ground := Go.Ground.phase }, { on := 5, ground := Go.Ground.phase }, { on := 6, ground := Go.Ground.phase }, { on := 7, ground := Go.Ground.phase }], guard := none }) rfl (fun K hK => ?_) AllReadyH.nil
        refine if_take (by rfl) ?_
        refine wp_store_row 24 _ _ rfl (X7.heap.size) (vC (yesV true)) rfl rfl 24 _ (R23.out.rows (X7.heap.size, ⟨0, 0⟩) List.mem_cons_self) info24 rfl (by simp [Value.oneCell']) ?_
        have R24 := hid (RS7.out.setRow R23.out HKL (yesV true))
        refine hK.out _ _ ?_ (fun hHeld => ?_)
        · exact SA _ (R24.out.less (fun _ h => (List.mem_cons_of_mem _ h)) (fun _ h => (List.not_mem_nil h).elim))
        clear hK K
        refine wpAnyH_done (by kernel_rfl) ?_ _
        exact ⟨_, X7.heap.size, R24.out, _, _, _, _, _, _, _, _, _, _, _, _, _, _, _, _, _, _, _, _, _, _, _, _, _, _, _, _, _, _, _, _, rfl⟩
    case go =>
      rintro e t X8 h
      obtain rfl : e = .normal := by cases e <;> first | rfl | exact h.elim
      obtain ⟨B7, bo, hR, u2, u3, u12, u13, u14, u15, u16, u17, u18, u19, u20, u21, u22, u23, u24, u25, u26, u27, u28, u29, u30, u31, u32, u33, u34, u35, u36, u37, u38, u39, u40, u41, rfl⟩ := h
      clear SA RS7
      have RS8 := hid hR.rebase
      clear hR
      have SA : ∀ V, LV w X8.heap.size [(bo, yesV true), (bn, yesV false), (bs, yesV (a == b)), (bm, yesV (decide (b < a))), (bl, yesV (decide (a < b))), (by_, numV b), (bx, numV a)] [] V → (fun V => V.cell? ⟨bo, 0, none⟩ = some (.int .u8 ((yesV true : Vl).ty : Int)) ∧ V.cell? ⟨bo, 1, none⟩ = some (.int .i64 (yesV true : Vl).n) ∧ V.cell? ⟨bn, 0, none⟩ = some (.int .u8 ((yesV false : Vl).ty : Int)) ∧ V.cell? ⟨bn, 1, none⟩ = some (.int .i64 (yesV false : Vl).n) ∧ V.cell? ⟨bs, 0, none⟩ = some (.int .u8 ((yesV (a == b) : Vl).ty : Int)) ∧ V.cell? ⟨bs, 1, none⟩ = some (.int .i64 (yesV (a == b) : Vl).n) ∧ V.cell? ⟨bm, 0, none⟩ = some (.int .u8 ((yesV (decide (b < a)) : Vl).ty : Int)) ∧ V.cell? ⟨bm, 1, none⟩ = some (.int .i64 (yesV (decide (b < a)) : Vl).n) ∧ V.cell? ⟨bl, 0, none⟩ = some (.int .u8 ((yesV (decide (a < b)) : Vl).ty : Int)) ∧ V.cell? ⟨bl, 1, none⟩ = some (.int .i64 (yesV (decide (a < b)) : Vl).n) ∧ V.cell? ⟨by_, 0, none⟩ = some (.int .u8 ((numV b : Vl).ty : Int)) ∧ V.cell? ⟨by_, 1, none⟩ = some (.int .i64 (numV b : Vl).n) ∧ V.cell? ⟨bx, 0, none⟩ = some (.int .u8 ((numV a : Vl).ty : Int)) ∧ V.cell? ⟨bx, 1, none⟩ = some (.int .i64 (numV a : Vl).n)) V := fun V h => ⟨(h.cs bo (yesV true) (by simp)).1, (h.cs bo (yesV true) (by simp)).2, (h.cs bn (yesV false) (by simp)).1, (h.cs bn (yesV false) (by simp)).2, (h.cs bs (yesV (a == b)) (by simp)).1, (h.cs bs (yesV (a == b)) (by simp)).2, (h.cs bm (yesV (decide (b < a))) (by simp)).1, (h.cs bm (yesV (decide (b < a))) (by simp)).2, (h.cs bl (yesV (decide (a < b))) (by simp)).1, (h.cs bl (yesV (decide (a < b))) (by simp)).2, (h.cs by_ (numV b) (by simp)).1, (h.cs by_ (numV b) (by simp)).2, (h.cs bx (numV a) (by simp)).1, (h.cs bx (numV a) (by simp)).2⟩
      obtain ⟨c00, c01⟩ := RS8.out.cs (bo) (yesV true) (by simp)
      obtain ⟨c10, c11⟩ := RS8.out.cs (bn) (yesV false) (by simp)
      obtain ⟨c20, c21⟩ := RS8.out.cs (bs) (yesV (a == b)) (by simp)
      obtain ⟨c30, c31⟩ := RS8.out.cs (bm) (yesV (decide (b < a))) (by simp)
      obtain ⟨c40, c41⟩ := RS8.out.cs (bl) (yesV (decide (a < b))) (by simp)
      obtain ⟨c50, c51⟩ := RS8.out.cs (by_) (numV b) (by simp)
      obtain ⟨c60, c61⟩ := RS8.out.cs (bx) (numV a) (by simp)
      go_wp2_with (fail)
      clear c00 c01 c10 c11 c20 c21 c30 c31 c40 c41 c50 c51 c60 c61
      refine Rby.region_by (J := fun V => LV w X8.heap.size [(bo, yesV true), (bn, yesV false), (bs, yesV (a == b)), (bm, yesV (decide (b < a))), (bl, yesV (decide (a < b))), (by_, numV b), (bx, numV a)] [] V) (E := Rby.Ex (ord8T a b)) (by kernel_rfl) (by kernel_rfl) (by kernel_rfl) (by kernel_rfl) (Rby.Ex.keep _) RS8.out.drew ?step ?fin
      case step =>
        refine Rby.AllL.cons ?_ <| Rby.AllL.cons ?_ <| Rby.AllL.cons ?_ <| Rby.AllL.cons ?_ <| Rby.AllL.cons ?_ <| Rby.AllL.cons ?_ <| Rby.AllL.cons ?_ <| Rby.AllL.cons ?_ <| Rby.AllL.cons ?_ <| Rby.AllL.cons ?_ <| Rby.AllL.cons ?_ <| Rby.AllL.cons ?_ <| Rby.AllL.cons ?_ <| Rby.AllL.cons ?_ <| Rby.AllL.cons ?_ <| Rby.AllL.cons ?_ <| Rby.AllL.cons ?_ <| Rby.AllL.cons ?_ <| Rby.AllL.cons ?_ <| Rby.AllL.cons ?_ <| Rby.AllL.cons ?_ <| Rby.AllL.cons ?_ <| Rby.AllL.cons ?_ <| Rby.AllL.cons ?_ <| Rby.AllL.cons ?_ <| Rby.AllL.cons ?_ <| Rby.AllL.cons ?_ <| Rby.AllL.cons ?_ <| Rby.AllL.cons ?_ <| Rby.AllL.cons ?_ <| Rby.AllL.cons ?_ <| Rby.AllL.cons ?_ <| Rby.AllL.cons ?_ <| Rby.AllL.cons ?_ <| Rby.AllL.cons ?_ <| Rby.AllL.cons ?_ <| Rby.AllL.cons ?_ <| Rby.AllL.cons ?_ <| Rby.AllL.cons ?_ <| Rby.AllL.cons ?_ <| Rby.AllL.cons ?_ <| Rby.AllL.cons ?_ <| Rby.AllL.cons ?_ <| Rby.AllL.cons ?_ <| Rby.AllL.cons ?_ <| Rby.AllL.cons ?_ <| Rby.AllL.cons ?_ <| Rby.AllL.cons ?_ <| Rby.AllL.cons ?_ <| Rby.AllL.cons ?_ <| Rby.AllL.cons ?_ <| Rby.AllL.cons ?_ <| Rby.AllL.cons ?_ <| Rby.AllL.cons ?_ <| Rby.AllL.cons ?_ <| Rby.AllL.cons ?_ <| Rby.AllL.cons ?_ <| Rby.AllL.nil
        · intro ac V yl K hf hs hy hJ hK
          clear hf hs hy
          have HJ := hid hJ
          clear hJ
          go_simp
          refine (alive_at _ HJ.out.tab).mono ?_
          rintro e V2 ⟨rfl, hb⟩
          have HB := hid hb
          clear hb
          go_wp2_with fail
          exact hK.out _ _ (fun d hd => by cases hd; exact Rby.Ex.val (by kernel_rfl)) (HJ.out.step HB.out) HB.out
        · intro ac V yl K hf hs hy hJ hK
          have e42 := Rby.at_val (hs 42 (by kernel_rfl)) (c := .bool true) (by kernel_rfl)
          clear hf hs hy
          have HJ := hid hJ
          clear hJ
          go_simp
          exact hK.out _ _ (fun d hd => by cases hd; exact Rby.Ex.val (by kernel_rfl)) HJ.out (Below.refl _ _)
        · intro ac V yl K hf hs hy hJ hK
          have g0 := Rby.at_val (hs 43 (by kernel_rfl)) (c := .bool true) (by kernel_rfl)
          have gy : yl 1 = some true := hy 1 43 (by kernel_rfl) true g0
          have e7 : ac.tmps[7]? = some (.pointer (some ⟨bl, 0, none⟩)) := (hf 7 (by kernel_rfl)).trans rfl
          obtain ⟨c0, c1⟩ := hJ.cs (bl) (yesV (decide (a < b))) (by simp)
          clear hf hs hy
          have HJ := hid hJ
          clear hJ
          go_simp
          exact hK.out _ _ (fun d hd => by cases hd; exact Rby.Ex.val (by kernel_rfl)) HJ.out (Below.refl _ _)
        · intro ac V yl K hf hs hy hJ hK
          have g0 := Rby.at_val (hs 43 (by kernel_rfl)) (c := .bool true) (by kernel_rfl)
          have gy : yl 1 = some true := hy 1 43 (by kernel_rfl) true g0
          have e0 : ac.tmps[0]? = some (.int .i64 a) := (hf 0 (by kernel_rfl)).trans rfl
          clear hf hs hy
          have HJ := hid hJ
          clear hJ
          go_simp
          exact hK.out _ _ (fun d hd => by cases hd; exact Rby.Ex.val (by kernel_rfl)) HJ.out (Below.refl _ _)
        · intro ac V yl K hf hs hy hJ hK
          have g0 := Rby.at_val (hs 43 (by kernel_rfl)) (c := .bool true) (by kernel_rfl)
          have gy : yl 1 = some true := hy 1 43 (by kernel_rfl) true g0
          have e1 : ac.tmps[1]? = some (.int .i64 b) := (hf 1 (by kernel_rfl)).trans rfl
          clear hf hs hy
          have HJ := hid hJ
          clear hJ
          go_simp
          exact hK.out _ _ (fun d hd => by cases hd; exact Rby.Ex.val (by kernel_rfl)) HJ.out (Below.refl _ _)
        · intro ac V yl K hf hs hy hJ hK
          have g0 := Rby.at_val (hs 43 (by kernel_rfl)) (c := .bool true) (by kernel_rfl)
          have gy : yl 1 = some true := hy 1 43 (by kernel_rfl) true g0
          have e45 := Rby.at_val (hs 45 (by kernel_rfl)) (c := .int .i64 a) (by kernel_rfl)
          have e46 := Rby.at_val (hs 46 (by kernel_rfl)) (c := .int .i64 b) (by kernel_rfl)
          clear hf hs hy
          have HJ := hid hJ
          clear hJ
          go_simp
          exact hK.out _ _ (fun d hd => by cases hd; exact Rby.Ex.val (by kernel_rfl)) HJ.out (Below.refl _ _)
        · intro ac V yl K hf hs hy hJ hK
          have g0 := Rby.at_val (hs 43 (by kernel_rfl)) (c := .bool true) (by kernel_rfl)
          have gy : yl 1 = some true := hy 1 43 (by kernel_rfl) true g0
          have e47 := Rby.at_val (hs 47 (by kernel_rfl)) (c := .bool (decide (a < b))) (by kernel_rfl)
          clear hf hs hy
          have HJ := hid hJ
          clear hJ
          go_simp
          refine (lyes_at _ _).mono ?_
          rintro e V2 ⟨rfl, hb⟩
          have HB := hid hb
          clear hb
          go_wp2_with fail
          exact hK.out _ _ (fun d hd => by cases hd; exact Rby.Ex.val (by kernel_rfl)) (HJ.out.step HB.out) HB.out
        · intro ac V yl K hf hs hy hJ hK
          have g0 := Rby.at_val (hs 43 (by kernel_rfl)) (c := .bool true) (by kernel_rfl)
          have gy : yl 1 = some true := hy 1 43 (by kernel_rfl) true g0
          have e44 := Rby.at_val (hs 44 (by kernel_rfl)) (c := vV (yesV (decide (a < b)))) (by kernel_rfl)
          have e48 := Rby.at_val (hs 48 (by kernel_rfl)) (c := vV (yesV (decide (a < b)))) (by kernel_rfl)
          clear hf hs hy
          have HJ := hid hJ
          clear hJ
          go_simp
          exact hK.out _ _ (fun d hd => by cases hd; exact Rby.Ex.val (by kernel_rfl)) HJ.out (Below.refl _ _)
        · intro ac V yl K hf hs hy hJ hK
          have e43 := Rby.at_val (hs 43 (by kernel_rfl)) (c := .bool true) (by kernel_rfl)
          have e49 := Rby.at_val (hs 49 (by kernel_rfl)) (c := .bool true) (by kernel_rfl)
          clear hf hs hy
          have HJ := hid hJ
          clear hJ
          go_simp
          exact hK.out _ _ (fun d hd => by cases hd; exact Rby.Ex.val (by kernel_rfl)) HJ.out (Below.refl _ _)
        · intro ac V yl K hf hs hy hJ hK
          have e50 := Rby.at_val (hs 50 (by kernel_rfl)) (c := .bool true) (by kernel_rfl)
          clear hf hs hy
          have HJ := hid hJ
          clear hJ
          go_simp
          exact hK.out _ _ (fun d hd => by cases hd; exact Rby.Ex.val (by kernel_rfl)) HJ.out (Below.refl _ _)
        · intro ac V yl K hf hs hy hJ hK
          have g0 := Rby.at_val (hs 51 (by kernel_rfl)) (c := .bool true) (by kernel_rfl)
          have gy : yl 9 = some true := hy 9 51 (by kernel_rfl) true g0
          have e9 : ac.tmps[9]? = some (.pointer (some ⟨bs, 0, none⟩)) := (hf 9 (by kernel_rfl)).trans rfl
          obtain ⟨c0, c1⟩ := hJ.cs (bs) (yesV (a == b)) (by simp)
          clear hf hs hy
          have HJ := hid hJ
          clear hJ
          go_simp
          exact hK.out _ _ (fun d hd => by cases hd; exact Rby.Ex.val (by kernel_rfl)) HJ.out (Below.refl _ _)
        · intro ac V yl K hf hs hy hJ hK
          have g0 := Rby.at_val (hs 51 (by kernel_rfl)) (c := .bool true) (by kernel_rfl)
          have gy : yl 9 = some true := hy 9 51 (by kernel_rfl) true g0
          have e0 : ac.tmps[0]? = some (.int .i64 a) := (hf 0 (by kernel_rfl)).trans rfl
          clear hf hs hy
          have HJ := hid hJ
          clear hJ
          go_simp
          exact hK.out _ _ (fun d hd => by cases hd; exact Rby.Ex.val (by kernel_rfl)) HJ.out (Below.refl _ _)
        · intro ac V yl K hf hs hy hJ hK
          have g0 := Rby.at_val (hs 51 (by kernel_rfl)) (c := .bool true) (by kernel_rfl)
          have gy : yl 9 = some true := hy 9 51 (by kernel_rfl) true g0
          have e1 : ac.tmps[1]? = some (.int .i64 b) := (hf 1 (by kernel_rfl)).trans rfl
          clear hf hs hy
          have HJ := hid hJ
          clear hJ
          go_simp
          exact hK.out _ _ (fun d hd => by cases hd; exact Rby.Ex.val (by kernel_rfl)) HJ.out (Below.refl _ _)
        · intro ac V yl K hf hs hy hJ hK
          have g0 := Rby.at_val (hs 51 (by kernel_rfl)) (c := .bool true) (by kernel_rfl)
          have gy : yl 9 = some true := hy 9 51 (by kernel_rfl) true g0
          have e53 := Rby.at_val (hs 53 (by kernel_rfl)) (c := .int .i64 a) (by kernel_rfl)
          have e54 := Rby.at_val (hs 54 (by kernel_rfl)) (c := .int .i64 b) (by kernel_rfl)
          clear hf hs hy
          have HJ := hid hJ
          clear hJ
          go_simp
          exact hK.out _ _ (fun d hd => by cases hd; exact Rby.Ex.val (by kernel_rfl)) HJ.out (Below.refl _ _)
        · intro ac V yl K hf hs hy hJ hK
          have g0 := Rby.at_val (hs 51 (by kernel_rfl)) (c := .bool true) (by kernel_rfl)
          have gy : yl 9 = some true := hy 9 51 (by kernel_rfl) true g0
          have e55 := Rby.at_val (hs 55 (by kernel_rfl)) (c := .bool (a == b)) (by kernel_rfl)
          clear hf hs hy
          have HJ := hid hJ
          clear hJ
          go_simp
          refine (lyes_at _ _).mono ?_
          rintro e V2 ⟨rfl, hb⟩
          have HB := hid hb
          clear hb
          go_wp2_with fail
          exact hK.out _ _ (fun d hd => by cases hd; exact Rby.Ex.val (by kernel_rfl)) (HJ.out.step HB.out) HB.out
        · intro ac V yl K hf hs hy hJ hK
          have g0 := Rby.at_val (hs 51 (by kernel_rfl)) (c := .bool true) (by kernel_rfl)
          have gy : yl 9 = some true := hy 9 51 (by kernel_rfl) true g0
          have e52 := Rby.at_val (hs 52 (by kernel_rfl)) (c := vV (yesV (a == b))) (by kernel_rfl)
          have e56 := Rby.at_val (hs 56 (by kernel_rfl)) (c := vV (yesV (a == b))) (by kernel_rfl)
          clear hf hs hy
          have HJ := hid hJ
          clear hJ
          go_simp
          exact hK.out _ _ (fun d hd => by cases hd; exact Rby.Ex.val (by kernel_rfl)) HJ.out (Below.refl _ _)
        · intro ac V yl K hf hs hy hJ hK
          have e51 := Rby.at_val (hs 51 (by kernel_rfl)) (c := .bool true) (by kernel_rfl)
          have e57 := Rby.at_val (hs 57 (by kernel_rfl)) (c := .bool true) (by kernel_rfl)
          clear hf hs hy
          have HJ := hid hJ
          clear hJ
          go_simp
          exact hK.out _ _ (fun d hd => by cases hd; exact Rby.Ex.val (by kernel_rfl)) HJ.out (Below.refl _ _)
        · intro ac V yl K hf hs hy hJ hK
          have e58 := Rby.at_val (hs 58 (by kernel_rfl)) (c := .bool true) (by kernel_rfl)
          clear hf hs hy
          have HJ := hid hJ
          clear hJ
          go_simp
          exact hK.out _ _ (fun d hd => by cases hd; exact Rby.Ex.val (by kernel_rfl)) HJ.out (Below.refl _ _)
        · intro ac V yl K hf hs hy hJ hK
          have g0 := Rby.at_val (hs 59 (by kernel_rfl)) (c := .bool true) (by kernel_rfl)
          have gy : yl 17 = some true := hy 17 59 (by kernel_rfl) true g0
          have e5 : ac.tmps[5]? = some (.pointer (some ⟨bx, 0, none⟩)) := (hf 5 (by kernel_rfl)).trans rfl
          obtain ⟨c0, c1⟩ := hJ.cs (bx) (numV a) (by simp)
          clear hf hs hy
          have HJ := hid hJ
          clear hJ
          go_simp
          exact hK.out _ _ (fun d hd => by cases hd; exact Rby.Ex.val (by kernel_rfl)) HJ.out (Below.refl _ _)
        · intro ac V yl K hf hs hy hJ hK
          have g0 := Rby.at_val (hs 59 (by kernel_rfl)) (c := .bool true) (by kernel_rfl)
          have gy : yl 17 = some true := hy 17 59 (by kernel_rfl) true g0
          have e6 : ac.tmps[6]? = some (.pointer (some ⟨by_, 0, none⟩)) := (hf 6 (by kernel_rfl)).trans rfl
          obtain ⟨c0, c1⟩ := hJ.cs (by_) (numV b) (by simp)
          clear hf hs hy
          have HJ := hid hJ
          clear hJ
          go_simp
          exact hK.out _ _ (fun d hd => by cases hd; exact Rby.Ex.val (by kernel_rfl)) HJ.out (Below.refl _ _)
        · intro ac V yl K hf hs hy hJ hK
          have g0 := Rby.at_val (hs 59 (by kernel_rfl)) (c := .bool true) (by kernel_rfl)
          have gy : yl 17 = some true := hy 17 59 (by kernel_rfl) true g0
          have e60 := Rby.at_val (hs 60 (by kernel_rfl)) (c := vV (numV a)) (by kernel_rfl)
          have e61 := Rby.at_val (hs 61 (by kernel_rfl)) (c := vV (numV b)) (by kernel_rfl)
          clear hf hs hy
          have HJ := hid hJ
          clear hJ
          go_simp
          exact hK.out _ _ (fun d hd => by cases hd; exact Rby.Ex.sl (l := [numV a, numV b]) (by kernel_rfl) (vsl2 (numV a) (numV b) V)) (HJ.out.alloc _) ((Below.refl _ _).alloc (Nat.le_refl _) _)
        · intro ac V yl K hf hs hy hJ hK
          have g0 := Rby.at_val (hs 59 (by kernel_rfl)) (c := .bool true) (by kernel_rfl)
          have gy : yl 17 = some true := hy 17 59 (by kernel_rfl) true g0
          obtain ⟨sb, e62, hsl⟩ := Rby.at_sl (hs 62 (by kernel_rfl)) (l := [numV a, numV b]) (by kernel_rfl)
          clear hf hs hy
          have HJ := hid hJ
          clear hJ
          have HSL := hid hsl
          clear hsl
          go_simp
          refine (ldo_at 14 [numV a, numV b] _ _ HSL.out).mono ?_
          rintro e V2 ⟨rfl, hb⟩
          rw [E8.out]
          have HB := hid hb
          clear hb
          go_wp2_with fail
          exact hK.out _ _ (fun d hd => by cases hd; exact Rby.Ex.val (by kernel_rfl)) (HJ.out.step HB.out) HB.out
        · intro ac V yl K hf hs hy hJ hK
          have g0 := Rby.at_val (hs 59 (by kernel_rfl)) (c := .bool true) (by kernel_rfl)
          have gy : yl 17 = some true := hy 17 59 (by kernel_rfl) true g0
          have e7 : ac.tmps[7]? = some (.pointer (some ⟨bl, 0, none⟩)) := (hf 7 (by kernel_rfl)).trans rfl
          obtain ⟨c0, c1⟩ := hJ.cs (bl) (yesV (decide (a < b))) (by simp)
          clear hf hs hy
          have HJ := hid hJ
          clear hJ
          go_simp
          exact hK.out _ _ (fun d hd => by cases hd; exact Rby.Ex.val (by kernel_rfl)) HJ.out (Below.refl _ _)
        · intro ac V yl K hf hs hy hJ hK
          have g0 := Rby.at_val (hs 59 (by kernel_rfl)) (c := .bool true) (by kernel_rfl)
          have gy : yl 17 = some true := hy 17 59 (by kernel_rfl) true g0
          have e9 : ac.tmps[9]? = some (.pointer (some ⟨bs, 0, none⟩)) := (hf 9 (by kernel_rfl)).trans rfl
          obtain ⟨c0, c1⟩ := hJ.cs (bs) (yesV (a == b)) (by simp)
          clear hf hs hy
          have HJ := hid hJ
          clear hJ
          go_simp
          exact hK.out _ _ (fun d hd => by cases hd; exact Rby.Ex.val (by kernel_rfl)) HJ.out (Below.refl _ _)
        · intro ac V yl K hf hs hy hJ hK
          have g0 := Rby.at_val (hs 59 (by kernel_rfl)) (c := .bool true) (by kernel_rfl)
          have gy : yl 17 = some true := hy 17 59 (by kernel_rfl) true g0
          have e64 := Rby.at_val (hs 64 (by kernel_rfl)) (c := vV (yesV (decide (a < b)))) (by kernel_rfl)
          have e65 := Rby.at_val (hs 65 (by kernel_rfl)) (c := vV (yesV (a == b))) (by kernel_rfl)
          clear hf hs hy
          have HJ := hid hJ
          clear hJ
          go_simp
          exact hK.out _ _ (fun d hd => by cases hd; exact Rby.Ex.sl (l := [yesV (decide (a < b)), yesV (a == b)]) (by kernel_rfl) (vsl2 (yesV (decide (a < b))) (yesV (a == b)) V)) (HJ.out.alloc _) ((Below.refl _ _).alloc (Nat.le_refl _) _)
        · intro ac V yl K hf hs hy hJ hK
          have g0 := Rby.at_val (hs 59 (by kernel_rfl)) (c := .bool true) (by kernel_rfl)
          have gy : yl 17 = some true := hy 17 59 (by kernel_rfl) true g0
          obtain ⟨sb, e66, hsl⟩ := Rby.at_sl (hs 66 (by kernel_rfl)) (l := [yesV (decide (a < b)), yesV (a == b)]) (by kernel_rfl)
          clear hf hs hy
          have HJ := hid hJ
          clear hJ
          have HSL := hid hsl
          clear hsl
          go_simp
          refine (ldo_at 16 [yesV (decide (a < b)), yesV (a == b)] _ _ HSL.out).mono ?_
          rintro e V2 ⟨rfl, hb⟩
          rw [E9.out]
          have HB := hid hb
          clear hb
          go_wp2_with fail
          exact hK.out _ _ (fun d hd => by cases hd; exact Rby.Ex.val (by kernel_rfl)) (HJ.out.step HB.out) HB.out
        · intro ac V yl K hf hs hy hJ hK
          have g0 := Rby.at_val (hs 59 (by kernel_rfl)) (c := .bool true) (by kernel_rfl)
          have gy : yl 17 = some true := hy 17 59 (by kernel_rfl) true g0
          have e63 := Rby.at_val (hs 63 (by kernel_rfl)) (c := vV (yesV (decide (a ≤ b)))) (by kernel_rfl)
          have e67 := Rby.at_val (hs 67 (by kernel_rfl)) (c := vV (yesV (decide (a ≤ b)))) (by kernel_rfl)
          clear hf hs hy
          have HJ := hid hJ
          clear hJ
          go_simp
          exact hK.out _ _ (fun d hd => by cases hd; exact Rby.Ex.val (by kernel_rfl)) HJ.out (Below.refl _ _)
        · intro ac V yl K hf hs hy hJ hK
          have e59 := Rby.at_val (hs 59 (by kernel_rfl)) (c := .bool true) (by kernel_rfl)
          have e68 := Rby.at_val (hs 68 (by kernel_rfl)) (c := .bool true) (by kernel_rfl)
          clear hf hs hy
          have HJ := hid hJ
          clear hJ
          go_simp
          exact hK.out _ _ (fun d hd => by cases hd; exact Rby.Ex.val (by kernel_rfl)) HJ.out (Below.refl _ _)
        · intro ac V yl K hf hs hy hJ hK
          have e69 := Rby.at_val (hs 69 (by kernel_rfl)) (c := .bool true) (by kernel_rfl)
          clear hf hs hy
          have HJ := hid hJ
          clear hJ
          go_simp
          exact hK.out _ _ (fun d hd => by cases hd; exact Rby.Ex.val (by kernel_rfl)) HJ.out (Below.refl _ _)
        · intro ac V yl K hf hs hy hJ hK
          have g0 := Rby.at_val (hs 70 (by kernel_rfl)) (c := .bool true) (by kernel_rfl)
          have gy : yl 28 = some true := hy 28 70 (by kernel_rfl) true g0
          have e5 : ac.tmps[5]? = some (.pointer (some ⟨bx, 0, none⟩)) := (hf 5 (by kernel_rfl)).trans rfl
          obtain ⟨c0, c1⟩ := hJ.cs (bx) (numV a) (by simp)
          clear hf hs hy
          have HJ := hid hJ
          clear hJ
          go_simp
          exact hK.out _ _ (fun d hd => by cases hd; exact Rby.Ex.val (by kernel_rfl)) HJ.out (Below.refl _ _)
        · intro ac V yl K hf hs hy hJ hK
          have g0 := Rby.at_val (hs 70 (by kernel_rfl)) (c := .bool true) (by kernel_rfl)
          have gy : yl 28 = some true := hy 28 70 (by kernel_rfl) true g0
          have e6 : ac.tmps[6]? = some (.pointer (some ⟨by_, 0, none⟩)) := (hf 6 (by kernel_rfl)).trans rfl
          obtain ⟨c0, c1⟩ := hJ.cs (by_) (numV b) (by simp)
          clear hf hs hy
          have HJ := hid hJ
          clear hJ
          go_simp
          exact hK.out _ _ (fun d hd => by cases hd; exact Rby.Ex.val (by kernel_rfl)) HJ.out (Below.refl _ _)
        · intro ac V yl K hf hs hy hJ hK
          have g0 := Rby.at_val (hs 70 (by kernel_rfl)) (c := .bool true) (by kernel_rfl)
          have gy : yl 28 = some true := hy 28 70 (by kernel_rfl) true g0
          have e71 := Rby.at_val (hs 71 (by kernel_rfl)) (c := vV (numV a)) (by kernel_rfl)
          have e72 := Rby.at_val (hs 72 (by kernel_rfl)) (c := vV (numV b)) (by kernel_rfl)
          clear hf hs hy
          have HJ := hid hJ
          clear hJ
          go_simp
          exact hK.out _ _ (fun d hd => by cases hd; exact Rby.Ex.sl (l := [numV a, numV b]) (by kernel_rfl) (vsl2 (numV a) (numV b) V)) (HJ.out.alloc _) ((Below.refl _ _).alloc (Nat.le_refl _) _)
        · intro ac V yl K hf hs hy hJ hK
          have g0 := Rby.at_val (hs 70 (by kernel_rfl)) (c := .bool true) (by kernel_rfl)
          have gy : yl 28 = some true := hy 28 70 (by kernel_rfl) true g0
          obtain ⟨sb, e73, hsl⟩ := Rby.at_sl (hs 73 (by kernel_rfl)) (l := [numV a, numV b]) (by kernel_rfl)
          clear hf hs hy
          have HJ := hid hJ
          clear hJ
          have HSL := hid hsl
          clear hsl
          go_simp
          refine (ldo_at 12 [numV a, numV b] _ _ HSL.out).mono ?_
          rintro e V2 ⟨rfl, hb⟩
          rw [E10.out]
          have HB := hid hb
          clear hb
          go_wp2_with fail
          exact hK.out _ _ (fun d hd => by cases hd; exact Rby.Ex.val (by kernel_rfl)) (HJ.out.step HB.out) HB.out
        · intro ac V yl K hf hs hy hJ hK
          have g0 := Rby.at_val (hs 70 (by kernel_rfl)) (c := .bool true) (by kernel_rfl)
          have gy : yl 28 = some true := hy 28 70 (by kernel_rfl) true g0
          have e9 : ac.tmps[9]? = some (.pointer (some ⟨bs, 0, none⟩)) := (hf 9 (by kernel_rfl)).trans rfl
          obtain ⟨c0, c1⟩ := hJ.cs (bs) (yesV (a == b)) (by simp)
          clear hf hs hy
          have HJ := hid hJ
          clear hJ
          go_simp
          exact hK.out _ _ (fun d hd => by cases hd; exact Rby.Ex.val (by kernel_rfl)) HJ.out (Below.refl _ _)
        · intro ac V yl K hf hs hy hJ hK
          have g0 := Rby.at_val (hs 70 (by kernel_rfl)) (c := .bool true) (by kernel_rfl)
          have gy : yl 28 = some true := hy 28 70 (by kernel_rfl) true g0
          have e75 := Rby.at_val (hs 75 (by kernel_rfl)) (c := vV (yesV (a == b))) (by kernel_rfl)
          clear hf hs hy
          have HJ := hid hJ
          clear hJ
          go_simp
          exact hK.out _ _ (fun d hd => by cases hd; exact Rby.Ex.sl (l := [yesV (a == b)]) (by kernel_rfl) (vsl1 (yesV (a == b)) V)) (HJ.out.alloc _) ((Below.refl _ _).alloc (Nat.le_refl _) _)
        · intro ac V yl K hf hs hy hJ hK
          have g0 := Rby.at_val (hs 70 (by kernel_rfl)) (c := .bool true) (by kernel_rfl)
          have gy : yl 28 = some true := hy 28 70 (by kernel_rfl) true g0
          obtain ⟨sb, e76, hsl⟩ := Rby.at_sl (hs 76 (by kernel_rfl)) (l := [yesV (a == b)]) (by kernel_rfl)
          clear hf hs hy
          have HJ := hid hJ
          clear hJ
          have HSL := hid hsl
          clear hsl
          go_simp
          refine (ldo_at 5 [yesV (a == b)] _ _ HSL.out).mono ?_
          rintro e V2 ⟨rfl, hb⟩
          rw [E11.out]
          have HB := hid hb
          clear hb
          go_wp2_with fail
          exact hK.out _ _ (fun d hd => by cases hd; exact Rby.Ex.val (by kernel_rfl)) (HJ.out.step HB.out) HB.out
        · intro ac V yl K hf hs hy hJ hK
          have g0 := Rby.at_val (hs 70 (by kernel_rfl)) (c := .bool true) (by kernel_rfl)
          have gy : yl 28 = some true := hy 28 70 (by kernel_rfl) true g0
          have e74 := Rby.at_val (hs 74 (by kernel_rfl)) (c := vV (yesV (!(a == b)))) (by kernel_rfl)
          have e77 := Rby.at_val (hs 77 (by kernel_rfl)) (c := vV (yesV (!(a == b)))) (by kernel_rfl)
          clear hf hs hy
          have HJ := hid hJ
          clear hJ
          go_simp
          exact hK.out _ _ (fun d hd => by cases hd; exact Rby.Ex.val (by kernel_rfl)) HJ.out (Below.refl _ _)
        · intro ac V yl K hf hs hy hJ hK
          have e70 := Rby.at_val (hs 70 (by kernel_rfl)) (c := .bool true) (by kernel_rfl)
          have e78 := Rby.at_val (hs 78 (by kernel_rfl)) (c := .bool true) (by kernel_rfl)
          clear hf hs hy
          have HJ := hid hJ
          clear hJ
          go_simp
          exact hK.out _ _ (fun d hd => by cases hd; exact Rby.Ex.val (by kernel_rfl)) HJ.out (Below.refl _ _)
        · intro ac V yl K hf hs hy hJ hK
          have e79 := Rby.at_val (hs 79 (by kernel_rfl)) (c := .bool true) (by kernel_rfl)
          clear hf hs hy
          have HJ := hid hJ
          clear hJ
          go_simp
          exact hK.out _ _ (fun d hd => by cases hd; exact Rby.Ex.val (by kernel_rfl)) HJ.out (Below.refl _ _)
        · intro ac V yl K hf hs hy hJ hK
          have g0 := Rby.at_val (hs 80 (by kernel_rfl)) (c := .bool true) (by kernel_rfl)
          have gy : yl 38 = some true := hy 38 80 (by kernel_rfl) true g0
          have e10 : ac.tmps[10]? = some (.pointer (some ⟨bn, 0, none⟩)) := (hf 10 (by kernel_rfl)).trans rfl
          obtain ⟨c0, c1⟩ := hJ.cs (bn) (yesV false) (by simp)
          clear hf hs hy
          have HJ := hid hJ
          clear hJ
          go_simp
          exact hK.out _ _ (fun d hd => by cases hd; exact Rby.Ex.val (by kernel_rfl)) HJ.out (Below.refl _ _)
        · intro ac V yl K hf hs hy hJ hK
          have g0 := Rby.at_val (hs 80 (by kernel_rfl)) (c := .bool true) (by kernel_rfl)
          have gy : yl 38 = some true := hy 38 80 (by kernel_rfl) true g0
          clear hf hs hy
          have HJ := hid hJ
          clear hJ
          go_simp
          refine (lyes_at _ _).mono ?_
          rintro e V2 ⟨rfl, hb⟩
          have HB := hid hb
          clear hb
          go_wp2_with fail
          exact hK.out _ _ (fun d hd => by cases hd; exact Rby.Ex.val (by kernel_rfl)) (HJ.out.step HB.out) HB.out
        · intro ac V yl K hf hs hy hJ hK
          have g0 := Rby.at_val (hs 80 (by kernel_rfl)) (c := .bool true) (by kernel_rfl)
          have gy : yl 38 = some true := hy 38 80 (by kernel_rfl) true g0
          have e81 := Rby.at_val (hs 81 (by kernel_rfl)) (c := vV (yesV false)) (by kernel_rfl)
          have e82 := Rby.at_val (hs 82 (by kernel_rfl)) (c := vV (yesV false)) (by kernel_rfl)
          clear hf hs hy
          have HJ := hid hJ
          clear hJ
          go_simp
          exact hK.out _ _ (fun d hd => by cases hd; exact Rby.Ex.val (by kernel_rfl)) HJ.out (Below.refl _ _)
        · intro ac V yl K hf hs hy hJ hK
          have e80 := Rby.at_val (hs 80 (by kernel_rfl)) (c := .bool true) (by kernel_rfl)
          have e83 := Rby.at_val (hs 83 (by kernel_rfl)) (c := .bool true) (by kernel_rfl)
          clear hf hs hy
          have HJ := hid hJ
          clear hJ
          go_simp
          exact hK.out _ _ (fun d hd => by cases hd; exact Rby.Ex.val (by kernel_rfl)) HJ.out (Below.refl _ _)
        · intro ac V yl K hf hs hy hJ hK
          have e84 := Rby.at_val (hs 84 (by kernel_rfl)) (c := .bool true) (by kernel_rfl)
          clear hf hs hy
          have HJ := hid hJ
          clear hJ
          go_simp
          exact hK.out _ _ (fun d hd => by cases hd; exact Rby.Ex.val (by kernel_rfl)) HJ.out (Below.refl _ _)
        · intro ac V yl K hf hs hy hJ hK
          have g0 := Rby.at_val (hs 85 (by kernel_rfl)) (c := .bool true) (by kernel_rfl)
          have gy : yl 43 = some true := hy 43 85 (by kernel_rfl) true g0
          have e11 : ac.tmps[11]? = some (.pointer (some ⟨bo, 0, none⟩)) := (hf 11 (by kernel_rfl)).trans rfl
          obtain ⟨c0, c1⟩ := hJ.cs (bo) (yesV true) (by simp)
          clear hf hs hy
          have HJ := hid hJ
          clear hJ
          go_simp
          exact hK.out _ _ (fun d hd => by cases hd; exact Rby.Ex.val (by kernel_rfl)) HJ.out (Below.refl _ _)
        · intro ac V yl K hf hs hy hJ hK
          have g0 := Rby.at_val (hs 85 (by kernel_rfl)) (c := .bool true) (by kernel_rfl)
          have gy : yl 43 = some true := hy 43 85 (by kernel_rfl) true g0
          clear hf hs hy
          have HJ := hid hJ
          clear hJ
          go_simp
          refine (lyes_at _ _).mono ?_
          rintro e V2 ⟨rfl, hb⟩
          have HB := hid hb
          clear hb
          go_wp2_with fail
          exact hK.out _ _ (fun d hd => by cases hd; exact Rby.Ex.val (by kernel_rfl)) (HJ.out.step HB.out) HB.out
        · intro ac V yl K hf hs hy hJ hK
          have g0 := Rby.at_val (hs 85 (by kernel_rfl)) (c := .bool true) (by kernel_rfl)
          have gy : yl 43 = some true := hy 43 85 (by kernel_rfl) true g0
          have e86 := Rby.at_val (hs 86 (by kernel_rfl)) (c := vV (yesV true)) (by kernel_rfl)
          have e87 := Rby.at_val (hs 87 (by kernel_rfl)) (c := vV (yesV true)) (by kernel_rfl)
          clear hf hs hy
          have HJ := hid hJ
          clear hJ
          go_simp
          exact hK.out _ _ (fun d hd => by cases hd; exact Rby.Ex.val (by kernel_rfl)) HJ.out (Below.refl _ _)
        · intro ac V yl K hf hs hy hJ hK
          have e85 := Rby.at_val (hs 85 (by kernel_rfl)) (c := .bool true) (by kernel_rfl)
          have e88 := Rby.at_val (hs 88 (by kernel_rfl)) (c := .bool true) (by kernel_rfl)
          clear hf hs hy
          have HJ := hid hJ
          clear hJ
          go_simp
          exact hK.out _ _ (fun d hd => by cases hd; exact Rby.Ex.val (by kernel_rfl)) HJ.out (Below.refl _ _)
        · intro ac V yl K hf hs hy hJ hK
          have e89 := Rby.at_val (hs 89 (by kernel_rfl)) (c := .bool true) (by kernel_rfl)
          clear hf hs hy
          have HJ := hid hJ
          clear hJ
          go_simp
          exact hK.out _ _ (fun d hd => by cases hd; exact Rby.Ex.val (by kernel_rfl)) HJ.out (Below.refl _ _)
        · intro ac V yl K hf hs hy hJ hK
          have g0 := Rby.at_val (hs 90 (by kernel_rfl)) (c := .bool true) (by kernel_rfl)
          have gy : yl 48 = some true := hy 48 90 (by kernel_rfl) true g0
          have e5 : ac.tmps[5]? = some (.pointer (some ⟨bx, 0, none⟩)) := (hf 5 (by kernel_rfl)).trans rfl
          obtain ⟨c0, c1⟩ := hJ.cs (bx) (numV a) (by simp)
          clear hf hs hy
          have HJ := hid hJ
          clear hJ
          go_simp
          exact hK.out _ _ (fun d hd => by cases hd; exact Rby.Ex.val (by kernel_rfl)) HJ.out (Below.refl _ _)
        · intro ac V yl K hf hs hy hJ hK
          have g0 := Rby.at_val (hs 90 (by kernel_rfl)) (c := .bool true) (by kernel_rfl)
          have gy : yl 48 = some true := hy 48 90 (by kernel_rfl) true g0
          have e5 : ac.tmps[5]? = some (.pointer (some ⟨bx, 0, none⟩)) := (hf 5 (by kernel_rfl)).trans rfl
          obtain ⟨c0, c1⟩ := hJ.cs (bx) (numV a) (by simp)
          clear hf hs hy
          have HJ := hid hJ
          clear hJ
          go_simp
          exact hK.out _ _ (fun d hd => by cases hd; exact Rby.Ex.val (by kernel_rfl)) HJ.out (Below.refl _ _)
        · intro ac V yl K hf hs hy hJ hK
          have g0 := Rby.at_val (hs 90 (by kernel_rfl)) (c := .bool true) (by kernel_rfl)
          have gy : yl 48 = some true := hy 48 90 (by kernel_rfl) true g0
          have e91 := Rby.at_val (hs 91 (by kernel_rfl)) (c := vV (numV a)) (by kernel_rfl)
          have e92 := Rby.at_val (hs 92 (by kernel_rfl)) (c := vV (numV a)) (by kernel_rfl)
          clear hf hs hy
          have HJ := hid hJ
          clear hJ
          go_simp
          exact hK.out _ _ (fun d hd => by cases hd; exact Rby.Ex.sl (l := [numV a, numV a]) (by kernel_rfl) (vsl2 (numV a) (numV a) V)) (HJ.out.alloc _) ((Below.refl _ _).alloc (Nat.le_refl _) _)
        · intro ac V yl K hf hs hy hJ hK
          have g0 := Rby.at_val (hs 90 (by kernel_rfl)) (c := .bool true) (by kernel_rfl)
          have gy : yl 48 = some true := hy 48 90 (by kernel_rfl) true g0
          obtain ⟨sb, e93, hsl⟩ := Rby.at_sl (hs 93 (by kernel_rfl)) (l := [numV a, numV a]) (by kernel_rfl)
          clear hf hs hy
          have HJ := hid hJ
          clear hJ
          have HSL := hid hsl
          clear hsl
          go_simp
          refine (ldo_at 13 [numV a, numV a] _ _ HSL.out).mono ?_
          rintro e V2 ⟨rfl, hb⟩
          rw [E12.out]
          have HB := hid hb
          clear hb
          go_wp2_with fail
          exact hK.out _ _ (fun d hd => by cases hd; exact Rby.Ex.val (by kernel_rfl)) (HJ.out.step HB.out) HB.out
        · intro ac V yl K hf hs hy hJ hK
          have g0 := Rby.at_val (hs 90 (by kernel_rfl)) (c := .bool true) (by kernel_rfl)
          have gy : yl 48 = some true := hy 48 90 (by kernel_rfl) true g0
          clear hf hs hy
          have HJ := hid hJ
          clear hJ
          go_simp
          refine (lyes_at _ _).mono ?_
          rintro e V2 ⟨rfl, hb⟩
          have HB := hid hb
          clear hb
          go_wp2_with fail
          exact hK.out _ _ (fun d hd => by cases hd; exact Rby.Ex.val (by kernel_rfl)) (HJ.out.step HB.out) HB.out
        · intro ac V yl K hf hs hy hJ hK
          have g0 := Rby.at_val (hs 90 (by kernel_rfl)) (c := .bool true) (by kernel_rfl)
          have gy : yl 48 = some true := hy 48 90 (by kernel_rfl) true g0
          have e94 := Rby.at_val (hs 94 (by kernel_rfl)) (c := vV (yesV false)) (by kernel_rfl)
          have e95 := Rby.at_val (hs 95 (by kernel_rfl)) (c := vV (yesV false)) (by kernel_rfl)
          clear hf hs hy
          have HJ := hid hJ
          clear hJ
          go_simp
          exact hK.out _ _ (fun d hd => by cases hd; exact Rby.Ex.val (by kernel_rfl)) HJ.out (Below.refl _ _)
        · intro ac V yl K hf hs hy hJ hK
          have e90 := Rby.at_val (hs 90 (by kernel_rfl)) (c := .bool true) (by kernel_rfl)
          have e96 := Rby.at_val (hs 96 (by kernel_rfl)) (c := .bool true) (by kernel_rfl)
          clear hf hs hy
          have HJ := hid hJ
          clear hJ
          go_simp
          exact hK.out _ _ (fun d hd => by cases hd; exact Rby.Ex.val (by kernel_rfl)) HJ.out (Below.refl _ _)
        · intro ac V yl K hf hs hy hJ hK
          have e97 := Rby.at_val (hs 97 (by kernel_rfl)) (c := .bool true) (by kernel_rfl)
          clear hf hs hy
          have HJ := hid hJ
          clear hJ
          go_simp
          exact hK.out _ _ (fun d hd => by cases hd; exact Rby.Ex.val (by kernel_rfl)) HJ.out (Below.refl _ _)
      case fin =>
        intro ac V hd hsz hf hh hJ
        have e4 := Rby.at_val (hh 4 (by kernel_rfl)) (c := .bool true) (by kernel_rfl)
        have HJ := hid hJ
        clear hf hh hJ hsz
        obtain ⟨tm, df⟩ := ac
        obtain rfl : df = [] := hd
        simp only at e4
        go_wp2_with (fail)
        go_ret
        exact ⟨by simp [e4], HJ.out.below⟩
end Go.Proofs.YtkniacdfhajogaaDoor.Val
