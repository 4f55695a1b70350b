/-
  The queue is made.
-/
import Derived.Test.YtdhjedpgdhageaaCln
import Derived.Laws.MakeOwn
namespace Go.Proofs.Ytdhjedpgdhageaa.Ord
open Go.ChangeShapes Go.WideShapes Go.ChangeAt Go.RowKit Go.Joins
/-- The parts of a queue, while they are made. -/
structure Md (W0 W : World) (n : Nat) (xs : List Value) (lv : Option Value) (tb mb : Option Nat) : Prop where
  below : Below W0.heap.size W0 W
  l : ∀ v, lv = some v → W.ownsRow W0.heap.size 25 1 v n xs ∧ ∀ b, v.ownBlock = some b → tb ≠ some b ∧ mb ≠ some b
  t : ∀ b, tb = some b → W0.heap.size ≤ b ∧ W.ownsRow W0.heap.size 4 1 (.slice (some ⟨b, 0, none⟩) n n) n ((List.replicate n false).map Value.bool) ∧ mb ≠ some b
  m : ∀ b, mb = some b → W0.heap.size ≤ b ∧ W.heap[b]? = some (.map #[] 0)
theorem own_form {w : World} {lo e c n : Nat} {v : Value} {xs : List Value} (h : w.ownsRow lo e c v n xs) : ∃ a k, v = .slice a n k := by
  obtain ⟨_, ⟨h1, h2⟩ | ⟨g, cap, cur, h1, _⟩⟩ := h
  · exact ⟨none, 0, by rw [h1, h2]⟩
  · exact ⟨_, _, h1⟩
theorem Md.clone {W0 W w' : World} {n : Nat} {xs : List Value} {tb mb : Option Nat} {v : Value} (h : Md W0 W n xs none tb mb) (ho : w'.ownsRow W.heap.size 25 1 v n xs) (hb : Below W.heap.size W w') : Md W0 w' n xs (some v) tb mb := by
  refine ⟨bstep h.below hb, fun u e => ?_, fun b e => ?_, fun b e => ?_⟩
  · injection e with e
    subst e
    refine ⟨ownsRow_mono ho h.below.size, fun b hv => ?_⟩
    have hlo := (own_lo ho b hv).1
    refine ⟨fun e => ?_, fun e => ?_⟩
    · have := (own_lo (h.t b e).2.1 b rfl).2; omega
    · have := (Array.getElem?_eq_some_iff.1 (h.m b e).2).1; omega
  · obtain ⟨h1, h2, h3⟩ := h.t b e
    exact ⟨h1, own_carry h2 (fun i hi => hb.block i (own_lo h2 i hi).2), h3⟩
  · obtain ⟨h1, h2⟩ := h.m b e
    exact ⟨h1, keep_row h2 hb⟩
theorem made_row (W : World) (n lo : Nat) (hlo : lo ≤ W.heap.size) (hn : n ≤ 1099511627776) : (W.alloc (.cells (madeCells #[.bool false] n) 4)).ownsRow lo 4 1 (.slice (some ⟨W.heap.size, 0, none⟩) n n) n ((List.replicate n false).map Value.bool) := by
  refine ⟨by simp, .inr ⟨W.heap.size, n, _, rfl, hlo, heap_alloc_new W _, Nat.le_refl _, by unfold maxLen; omega, by rw [size_madeCells]; omega, ?_⟩⟩
  rw [Nat.mul_one]
  refine List.ext_getElem? (fun i => ?_)
  by_cases hi : i < n
  · simp [madeCells, hi, Nat.mod_one]
  · rw [List.getElem?_eq_none (by simp; omega), List.getElem?_eq_none (by simp; omega)]
theorem Md.make {W0 W : World} {n : Nat} {xs : List Value} {lv : Option Value} {mb : Option Nat} (h : Md W0 W n xs lv none mb) (hn : n ≤ 1099511627776) : Md W0 (W.alloc (.cells (madeCells #[.bool false] n) 4)) n xs lv (some W.heap.size) mb := by
  have hb : Below W.heap.size W (W.alloc (.cells (madeCells #[.bool false] n) 4)) := (Below.refl _ _).alloc (Nat.le_refl _) _
  refine ⟨bstep h.below hb, fun u e => ?_, fun b e => ?_, fun b e => ?_⟩
  · obtain ⟨h1, h2⟩ := h.l u e
    refine ⟨own_carry h1 (fun i hi => hb.block i (own_lo h1 i hi).2), fun b hv => ⟨fun e => ?_, (h2 b hv).2⟩⟩
    injection e with e
    have := (own_lo h1 b hv).2
    omega
  · injection e with e
    subst e
    refine ⟨h.below.size, made_row W n _ h.below.size hn, fun e => ?_⟩
    have := (Array.getElem?_eq_some_iff.1 (h.m _ e).2).1
    omega
  · obtain ⟨h1, h2⟩ := h.m b e
    exact ⟨h1, keep_row h2 hb⟩
theorem Md.map {W0 W : World} {n : Nat} {xs : List Value} {lv : Option Value} {tb : Option Nat} (h : Md W0 W n xs lv tb none) : Md W0 (W.alloc (.map #[] 0)) n xs lv tb (some W.heap.size) := by
  have hb : Below W.heap.size W (W.alloc (.map #[] 0)) := (Below.refl _ _).alloc (Nat.le_refl _) _
  refine ⟨bstep h.below hb, fun u e => ?_, fun b e => ?_, fun b e => ?_⟩
  · obtain ⟨h1, h2⟩ := h.l u e
    refine ⟨own_carry h1 (fun i hi => hb.block i (own_lo h1 i hi).2), fun b hv => ⟨(h2 b hv).1, fun e => ?_⟩⟩
    injection e with e
    have := (own_lo h1 b hv).2
    omega
  · obtain ⟨h1, h2, _⟩ := h.t b e
    refine ⟨h1, own_carry h2 (fun i hi => hb.block i (own_lo h2 i hi).2), fun e => ?_⟩
    injection e with e
    have := (own_lo h2 b rfl).2
    omega
  · injection e with e
    subst e
    exact ⟨h.below.size, heap_alloc_new W _⟩
def AftN (W : World) (n : Nat) (xs : List Value) (vl : Value) (a : Act) (w : World) : Prop := ∃ lv tb mb W3, Md W W3 n xs (some lv) (some tb) (some mb) ∧ w = W3.alloc (.cells (qC lv (.slice (some ⟨tb, 0, none⟩) n n) (.map (some mb)) (.slice none 0 0)) 45) ∧
  a = ⟨#[vl, undef, .pointer none, .pointer (some ⟨W3.heap.size, 0, none⟩), undef, vl, lv, vl, .int .i64 (n : Int), .slice (some ⟨tb, 0, none⟩) n n, .map (some mb), .agg (qC lv (.slice (some ⟨tb, 0, none⟩) n n) (.map (some mb)) (.slice none 0 0)), .pointer (some ⟨W3.heap.size, 0, none⟩), undef, undef, undef, undef, undef, undef, undef, undef, undef, undef], []⟩
theorem inf4 : (Try.prog.info? 4).map (fun i => (i.zero, i.size, i.bytes)) = some (some (.bool false), 1, 1) := by kernel_rfl
theorem mk_told (n : Nat) (hn : n ≤ 1099511627776) (w : World) : (Instr.makeSlice 41 (.int .i64 (n : Int)) (.int .i64 (n : Int))).run Try.prog w = .ok (.slice (some ⟨w.heap.size, 0, none⟩) n n) (w.alloc (.cells (madeCells #[.bool false] n) 4)) := by
  obtain ⟨i0, hi, hz0, hz1, hz2⟩ := info_parts inf4
  have := run_make (P := Try.prog) w 41 4 i0 _ Try.underlying41 hi hz0 .i64 .i64 (n : Int) (n : Int) (by omega) (by omega) (by rw [hz2]; omega) (by omega)
  rw [hz1] at this
  simpa [Value.cells] using this
set_option maxRecDepth 100000 in
set_option maxHeartbeats 2000000 in
theorem newq_reg (W : World) (n : Nat) (hn : n ≤ 1048576) (vl : Value) (ao : Option Addr) (c : Nat) (hv : vl = .slice ao n c) (xs : List Value)
    (hcl : ∀ W1, Below W.heap.size W W1 → Calls Try.prog 18 #[vl] W1 fun e w' => ∃ v, e = .returned v ∧ w'.ownsRow W1.heap.size 25 1 v n xs ∧ Below W1.heap.size W1 w') (Q : Exit → Act → World → Prop) (hQ : ∀ a w, AftN W n xs vl a w → Q .normal a w) :
    Code.wp Try.prog (Code.region 1 #[{ dst := some 5, op := Go.Op.move (Go.Operand.tmp 0), type := 22, pos := "queue.go:17", after := #[], guard := none }, { dst := some 6, op := Go.Op.call { callee := Go.Callee.value (Go.Operand.func 18), args := #[Go.Operand.tmp 5], argTypes := #[22] }, type := 22, pos := "queue.go:17", after := #[{ on := 0, ground := Go.Ground.data }], guard := none }, { dst := some 7, op := Go.Op.move (Go.Operand.tmp 0), type := 22, pos := "queue.go:17", after := #[], guard := none }, { dst := some 8, op := Go.Op.call { callee := Go.Callee.builtin Go.Builtin.len, args := #[Go.Operand.tmp 7], argTypes := #[22] }, type := 3, pos := "queue.go:17", after := #[{ on := 2, ground := Go.Ground.data }], guard := none }, { dst := some 9, op := Go.Op.makeSlice 41 (Go.Operand.tmp 8) (Go.Operand.tmp 8), type := 41, pos := "queue.go:17", after := #[{ on := 3, ground := Go.Ground.data }, { on := 3, ground := Go.Ground.data }], guard := none }, { dst := some 10, op := Go.Op.makeMap 42 none, type := 42, pos := "queue.go:17", after := #[], guard := none }, { dst := some 11, op := Go.Op.build 45 #[(0, Go.Operand.tmp 6), (1, Go.Operand.tmp 9), (2, Go.Operand.tmp 10)], type := 45, pos := "queue.go:17", after := #[{ on := 1, ground := Go.Ground.data }, { on := 4, ground := Go.Ground.data }, { on := 5, ground := Go.Ground.data }], guard := none }, { dst := some 12, op := Go.Op.box 45 (Go.Operand.tmp 11), type := 37, pos := "queue.go:17", after := #[{ on := 6, ground := Go.Ground.data }], guard := none }, { dst := some 3, op := Go.Op.assign (Go.Operand.tmp 12), type := 37, pos := "queue.go:17", after := #[{ on := 7, ground := Go.Ground.data }, { on := 1, ground := Go.Ground.chain }, { on := 0, ground := Go.Ground.phase }, { on := 1, ground := Go.Ground.phase }, { on := 2, ground := Go.Ground.phase }, { on := 3, ground := Go.Ground.phase }, { on := 4, ground := Go.Ground.phase }, { on := 5, ground := Go.Ground.phase }, { on := 6, ground := Go.Ground.phase }, { on := 7, ground := Go.Ground.phase }], guard := none }] true) Q ⟨#[vl, undef, .pointer none, undef, undef, undef, undef, undef, undef, undef, undef, undef, undef, undef, undef, undef, undef, undef, undef, undef, undef, undef, undef], []⟩ W := by
  subst hv
  have CL := hid hcl
  have mk := mk_told n (by omega)
  have mm := @run_makeMap Try.prog
  have MD0 : Hid (Md W W.drew n xs none none none) := hid ⟨bdrew W 1, fun _ e => (by cases e), fun _ e => (by cases e), fun _ e => (by cases e)⟩
  clear hcl
  have hn : n ≤ 1099511627776 := by omega
  refine wp_mono (Q := Exit.then (AftN W n xs (.slice ao n c)) (fun _ _ _ => False)) ?reg ?go
  case go =>
    intro e a w h
    cases e with
    | normal => exact hQ a w h
    | _ => exact h.elim
  case reg =>
    refine wp_region_held_drew (S := fun _ => True) (by kernel_rfl) ?_ (fun hHeld => ?_)
    · trivial
    refine wpAnyH_take (i := 0) (oi := { dst := some 5, op := Go.Op.move (Go.Operand.tmp 0), type := 22, pos := _, after := #[], guard := none }) (v := ?_) rfl (by kernel_rfl) (by kernel_rfl) (by kernel_rfl) (fun _ _ _ h => h) (Or.inl ⟨by rfl, ?_⟩) (by assumption) ?_
    rotate_left
    · intro w hSw; (try dsimp only at hSw); go_simp <;> first | with_reducible rfl | (rw [if_neg (by omega)])
    simp only [Act.put, List.setIfInBounds_toArray, List.set_cons_zero, List.set_cons_succ]
    refine wpAnyH_take (i := 2) (oi := { dst := some 7, op := Go.Op.move (Go.Operand.tmp 0), type := 22, pos := _, after := #[], guard := none }) (v := ?_) rfl (by kernel_rfl) (by kernel_rfl) (by kernel_rfl) (fun _ _ _ h => h) (Or.inl ⟨by rfl, ?_⟩) (by assumption) ?_
    rotate_left
    · intro w hSw; (try dsimp only at hSw); go_simp <;> first | with_reducible rfl | (rw [if_neg (by omega)])
    simp only [Act.put, List.setIfInBounds_toArray, List.set_cons_zero, List.set_cons_succ]
    refine wpAnyH_take (i := 3) (oi := { dst := some 8, op := Go.Op.call { callee := Go.Callee.builtin Go.Builtin.len, args := #[Go.Operand.tmp 7], argTypes := #[22] }, type := 3, pos := _, after := #[{ on := 2, ground := Go.Ground.data }], guard := none }) (v := ?_) rfl (by kernel_rfl) (by kernel_rfl) (by kernel_rfl) (fun _ _ _ h => h) (Or.inl ⟨by rfl, ?_⟩) (by assumption) ?_
    rotate_left
    · intro w hSw; (try dsimp only at hSw); go_simp <;> first | with_reducible rfl | (rw [if_neg (by omega)])
    simp only [Act.put, List.setIfInBounds_toArray, List.set_cons_zero, List.set_cons_succ]
    refine wpAnyH_ready (rs := [1, 4, 5]) (by kernel_rfl) (by simp) ?_
    refine (AllReadyH.cons (o := { dst := some 6, op := Go.Op.call { callee := Go.Callee.value (Go.Operand.func 18), args := #[Go.Operand.tmp 5], argTypes := #[22] }, type := 22, pos := _, after := #[{ on := 0, ground := Go.Ground.data }], guard := none }) rfl (fun K hK => ?_) (AllReadyH.cons (o := { dst := some 9, op := Go.Op.makeSlice 41 (Go.Operand.tmp 8) (Go.Operand.tmp 8), type := 41, pos := _, after := #[{ on := 3, ground := Go.Ground.data }, { on := 3, ground := Go.Ground.data }], guard := none }) rfl (fun K hK => ?_) (AllReadyH.cons (o := { dst := some 10, op := Go.Op.makeMap 42 none, type := 42, pos := _, after := #[], guard := none }) rfl (fun K hK => ?_) AllReadyH.nil)))
    · go_simp
      refine (CL.out W.drew ((MD0.out).below)).mono ?_
      rintro e w1 ⟨v1, rfl, ho1, hb1⟩
      obtain ⟨sa1, sc1, rfl⟩ := own_form ho1
      have MD1 := hid ((MD0.out).clone ho1 hb1)
      clear ho1 hb1
      go_wp2_with fail
      refine hK.out _ _ trivial (fun _ => ?_)
      clear hK K
      (try simp only [Act.put, List.setIfInBounds_toArray, List.set_cons_zero, List.set_cons_succ])
      refine wpAnyH_ready (rs := [4, 5]) (by kernel_rfl) (by simp) ?_
      refine (AllReadyH.cons (o := { dst := some 9, op := Go.Op.makeSlice 41 (Go.Operand.tmp 8) (Go.Operand.tmp 8), type := 41, pos := _, after := #[{ on := 3, ground := Go.Ground.data }, { on := 3, ground := Go.Ground.data }], guard := none }) rfl (fun K hK => ?_) (AllReadyH.cons (o := { dst := some 10, op := Go.Op.makeMap 42 none, type := 42, pos := _, after := #[], guard := none }) rfl (fun K hK => ?_) AllReadyH.nil))
      · go_simp
        have MD2 : Hid (Md W (w1.alloc (.cells (madeCells #[.bool false] n) 4)) n xs _ (some w1.heap.size) _) := hid ((MD1.out).make hn)
        generalize hW2 : (w1.alloc (.cells (madeCells #[.bool false] n) 4)) = w2 at *
        clear hW2
        refine hK.out _ _ trivial (fun _ => ?_)
        clear hK K
        (try simp only [Act.put, List.setIfInBounds_toArray, List.set_cons_zero, List.set_cons_succ])
        refine wpAnyH_ready (rs := [5]) (by kernel_rfl) (by simp) ?_
        refine (AllReadyH.cons (o := { dst := some 10, op := Go.Op.makeMap 42 none, type := 42, pos := _, after := #[], guard := none }) rfl (fun K hK => ?_) AllReadyH.nil)
        · go_simp
          have MD3 : Hid (Md W (w2.alloc (.map #[] 0)) n xs _ _ (some w2.heap.size)) := hid ((MD2.out).map)
          generalize hW3 : (w2.alloc (.map #[] 0)) = w3 at *
          clear hW3
          refine hK.out _ _ trivial (fun _ => ?_)
          clear hK K
          (try simp only [Act.put, List.setIfInBounds_toArray, List.set_cons_zero, List.set_cons_succ])
          refine wpAnyH_ready (rs := [6]) (by kernel_rfl) (by simp) ?_
          refine AllReadyH.cons (o := { dst := some 11, op := Go.Op.build 45 #[(0, Go.Operand.tmp 6), (1, Go.Operand.tmp 9), (2, Go.Operand.tmp 10)], type := 45, pos := _, after := #[{ on := 1, ground := Go.Ground.data }, { on := 4, ground := Go.Ground.data }, { on := 5, ground := Go.Ground.data }], guard := none }) rfl (fun K hK => ?_) AllReadyH.nil
          go_simp
          refine hK.out _ _ trivial (fun _ => ?_)
          clear hK K
          (try simp only [Act.put, List.setIfInBounds_toArray, List.set_cons_zero, List.set_cons_succ])
          refine wpAnyH_ready (rs := [7]) (by kernel_rfl) (by simp) ?_
          refine AllReadyH.cons (o := { dst := some 12, op := Go.Op.box 45 (Go.Operand.tmp 11), type := 37, pos := _, after := #[{ on := 6, ground := Go.Ground.data }], guard := none }) rfl (fun K hK => ?_) AllReadyH.nil
          go_simp
          refine hK.out _ _ trivial (fun _ => ?_)
          clear hK K
          (try simp only [Act.put, List.setIfInBounds_toArray, List.set_cons_zero, List.set_cons_succ])
          refine wpAnyH_ready (rs := [8]) (by kernel_rfl) (by simp) ?_
          refine AllReadyH.cons (o := { dst := some 3, op := Go.Op.assign (Go.Operand.tmp 12), type := 37, pos := _, after := #[{ on := 7, ground := Go.Ground.data }, { on := 1, ground := Go.Ground.chain }, { on := 0, ground := Go.Ground.phase }, { on := 1, ground := Go.Ground.phase }, { on := 2, ground := Go.Ground.phase }, { on := 3, ground := Go.Ground.phase }, { on := 4, ground := Go.Ground.phase }, { on := 5, ground := Go.Ground.phase }, { on := 6, ground := Go.Ground.phase }, { on := 7, ground := Go.Ground.phase }], guard := none }) rfl (fun K hK => ?_) AllReadyH.nil
          go_simp
          refine hK.out _ _ trivial (fun _ => ?_)
          clear hK K
          (try simp only [Act.put, List.setIfInBounds_toArray, List.set_cons_zero, List.set_cons_succ])
          refine wpAnyH_done (by kernel_rfl) ?_ _
          exact ⟨_, _, _, _, MD3.out, rfl, rfl⟩
      · go_simp
        have MD4 : Hid (Md W (w1.alloc (.map #[] 0)) n xs _ _ (some w1.heap.size)) := hid ((MD1.out).map)
        generalize hW4 : (w1.alloc (.map #[] 0)) = w4 at *
        clear hW4
        refine hK.out _ _ trivial (fun _ => ?_)
        clear hK K
        (try simp only [Act.put, List.setIfInBounds_toArray, List.set_cons_zero, List.set_cons_succ])
        refine wpAnyH_ready (rs := [4]) (by kernel_rfl) (by simp) ?_
        refine (AllReadyH.cons (o := { dst := some 9, op := Go.Op.makeSlice 41 (Go.Operand.tmp 8) (Go.Operand.tmp 8), type := 41, pos := _, after := #[{ on := 3, ground := Go.Ground.data }, { on := 3, ground := Go.Ground.data }], guard := none }) rfl (fun K hK => ?_) AllReadyH.nil)
        · go_simp
          have MD5 : Hid (Md W (w4.alloc (.cells (madeCells #[.bool false] n) 4)) n xs _ (some w4.heap.size) _) := hid ((MD4.out).make hn)
          generalize hW5 : (w4.alloc (.cells (madeCells #[.bool false] n) 4)) = w5 at *
          clear hW5
          refine hK.out _ _ trivial (fun _ => ?_)
          clear hK K
          (try simp only [Act.put, List.setIfInBounds_toArray, List.set_cons_zero, List.set_cons_succ])
          refine wpAnyH_ready (rs := [6]) (by kernel_rfl) (by simp) ?_
          refine AllReadyH.cons (o := { dst := some 11, op := Go.Op.build 45 #[(0, Go.Operand.tmp 6), (1, Go.Operand.tmp 9), (2, Go.Operand.tmp 10)], type := 45, pos := _, after := #[{ on := 1, ground := Go.Ground.data }, { on := 4, ground := Go.Ground.data }, { on := 5, ground := Go.Ground.data }], guard := none }) rfl (fun K hK => ?_) AllReadyH.nil
          go_simp
          refine hK.out _ _ trivial (fun _ => ?_)
          clear hK K
          (try simp only [Act.put, List.setIfInBounds_toArray, List.set_cons_zero, List.set_cons_succ])
          refine wpAnyH_ready (rs := [7]) (by kernel_rfl) (by simp) ?_
          refine AllReadyH.cons (o := { dst := some 12, op := Go.Op.box 45 (Go.Operand.tmp 11), type := 37, pos := _, after := #[{ on := 6, ground := Go.Ground.data }], guard := none }) rfl (fun K hK => ?_) AllReadyH.nil
          go_simp
          refine hK.out _ _ trivial (fun _ => ?_)
          clear hK K
          (try simp only [Act.put, List.setIfInBounds_toArray, List.set_cons_zero, List.set_cons_succ])
          refine wpAnyH_ready (rs := [8]) (by kernel_rfl) (by simp) ?_
          refine AllReadyH.cons (o := { dst := some 3, op := Go.Op.assign (Go.Operand.tmp 12), type := 37, pos := _, after := #[{ on := 7, ground := Go.Ground.data }, { on := 1, ground := Go.Ground.chain }, { on := 0, ground := Go.Ground.phase }, { on := 1, ground := Go.Ground.phase }, { on := 2, ground := Go.Ground.phase }, { on := 3, ground := Go.Ground.phase }, { on := 4, ground := Go.Ground.phase }, { on := 5, ground := Go.Ground.phase }, { on := 6, ground := Go.Ground.phase }, { on := 7, ground := Go.Ground.phase }], guard := none }) rfl (fun K hK => ?_) AllReadyH.nil
          go_simp
          refine hK.out _ _ trivial (fun _ => ?_)
          clear hK K
          (try simp only [Act.put, List.setIfInBounds_toArray, List.set_cons_zero, List.set_cons_succ])
          refine wpAnyH_done (by kernel_rfl) ?_ _
          exact ⟨_, _, _, _, MD5.out, rfl, rfl⟩
    · go_simp
      have MD6 : Hid (Md W (W.alloc (.cells (madeCells #[.bool false] n) 4)).drew n xs _ (some W.drew.heap.size) _) := hid ((MD0.out).make hn)
      generalize hW6 : (W.alloc (.cells (madeCells #[.bool false] n) 4)).drew = w6 at *
      clear hW6
      refine hK.out _ _ trivial (fun _ => ?_)
      clear hK K
      (try simp only [Act.put, List.setIfInBounds_toArray, List.set_cons_zero, List.set_cons_succ])
      refine wpAnyH_ready (rs := [1, 5]) (by kernel_rfl) (by simp) ?_
      refine (AllReadyH.cons (o := { dst := some 6, op := Go.Op.call { callee := Go.Callee.value (Go.Operand.func 18), args := #[Go.Operand.tmp 5], argTypes := #[22] }, type := 22, pos := _, after := #[{ on := 0, ground := Go.Ground.data }], guard := none }) rfl (fun K hK => ?_) (AllReadyH.cons (o := { dst := some 10, op := Go.Op.makeMap 42 none, type := 42, pos := _, after := #[], guard := none }) rfl (fun K hK => ?_) AllReadyH.nil))
      · go_simp
        refine (CL.out w6 ((MD6.out).below)).mono ?_
        rintro e w7 ⟨v7, rfl, ho7, hb7⟩
        obtain ⟨sa7, sc7, rfl⟩ := own_form ho7
        have MD7 := hid ((MD6.out).clone ho7 hb7)
        clear ho7 hb7
        go_wp2_with fail
        refine hK.out _ _ trivial (fun _ => ?_)
        clear hK K
        (try simp only [Act.put, List.setIfInBounds_toArray, List.set_cons_zero, List.set_cons_succ])
        refine wpAnyH_ready (rs := [5]) (by kernel_rfl) (by simp) ?_
        refine (AllReadyH.cons (o := { dst := some 10, op := Go.Op.makeMap 42 none, type := 42, pos := _, after := #[], guard := none }) rfl (fun K hK => ?_) AllReadyH.nil)
        · go_simp
          have MD8 : Hid (Md W (w7.alloc (.map #[] 0)) n xs _ _ (some w7.heap.size)) := hid ((MD7.out).map)
          generalize hW8 : (w7.alloc (.map #[] 0)) = w8 at *
          clear hW8
          refine hK.out _ _ trivial (fun _ => ?_)
          clear hK K
          (try simp only [Act.put, List.setIfInBounds_toArray, List.set_cons_zero, List.set_cons_succ])
          refine wpAnyH_ready (rs := [6]) (by kernel_rfl) (by simp) ?_
          refine AllReadyH.cons (o := { dst := some 11, op := Go.Op.build 45 #[(0, Go.Operand.tmp 6), (1, Go.Operand.tmp 9), (2, Go.Operand.tmp 10)], type := 45, pos := _, after := #[{ on := 1, ground := Go.Ground.data }, { on := 4, ground := Go.Ground.data }, { on := 5, ground := Go.Ground.data }], guard := none }) rfl (fun K hK => ?_) AllReadyH.nil
          go_simp
          refine hK.out _ _ trivial (fun _ => ?_)
          clear hK K
          (try simp only [Act.put, List.setIfInBounds_toArray, List.set_cons_zero, List.set_cons_succ])
          refine wpAnyH_ready (rs := [7]) (by kernel_rfl) (by simp) ?_
          refine AllReadyH.cons (o := { dst := some 12, op := Go.Op.box 45 (Go.Operand.tmp 11), type := 37, pos := _, after := #[{ on := 6, ground := Go.Ground.data }], guard := none }) rfl (fun K hK => ?_) AllReadyH.nil
          go_simp
          refine hK.out _ _ trivial (fun _ => ?_)
          clear hK K
          (try simp only [Act.put, List.setIfInBounds_toArray, List.set_cons_zero, List.set_cons_succ])
          refine wpAnyH_ready (rs := [8]) (by kernel_rfl) (by simp) ?_
          refine AllReadyH.cons (o := { dst := some 3, op := Go.Op.assign (Go.Operand.tmp 12), type := 37, pos := _, after := #[{ on := 7, ground := Go.Ground.data }, { on := 1, ground := Go.Ground.chain }, { on := 0, ground := Go.Ground.phase }, { on := 1, ground := Go.Ground.phase }, { on := 2, ground := Go.Ground.phase }, { on := 3, ground := Go.Ground.phase }, { on := 4, ground := Go.Ground.phase }, { on := 5, ground := Go.Ground.phase }, { on := 6, ground := Go.Ground.phase }, { on := 7, ground := Go.Ground.phase }], guard := none }) rfl (fun K hK => ?_) AllReadyH.nil
          go_simp
          refine hK.out _ _ trivial (fun _ => ?_)
          clear hK K
          (try simp only [Act.put, List.setIfInBounds_toArray, List.set_cons_zero, List.set_cons_succ])
          refine wpAnyH_done (by kernel_rfl) ?_ _
          exact ⟨_, _, _, _, MD8.out, rfl, rfl⟩
      · go_simp
        have MD9 : Hid (Md W (w6.alloc (.map #[] 0)) n xs _ _ (some w6.heap.size)) := hid ((MD6.out).map)
        generalize hW9 : (w6.alloc (.map #[] 0)) = w9 at *
        clear hW9
        refine hK.out _ _ trivial (fun _ => ?_)
        clear hK K
        (try simp only [Act.put, List.setIfInBounds_toArray, List.set_cons_zero, List.set_cons_succ])
        refine wpAnyH_ready (rs := [1]) (by kernel_rfl) (by simp) ?_
        refine (AllReadyH.cons (o := { dst := some 6, op := Go.Op.call { callee := Go.Callee.value (Go.Operand.func 18), args := #[Go.Operand.tmp 5], argTypes := #[22] }, type := 22, pos := _, after := #[{ on := 0, ground := Go.Ground.data }], guard := none }) rfl (fun K hK => ?_) AllReadyH.nil)
        · go_simp
          refine (CL.out w9 ((MD9.out).below)).mono ?_
          rintro e w10 ⟨v10, rfl, ho10, hb10⟩
          obtain ⟨sa10, sc10, rfl⟩ := own_form ho10
          have MD10 := hid ((MD9.out).clone ho10 hb10)
          clear ho10 hb10
          go_wp2_with fail
          refine hK.out _ _ trivial (fun _ => ?_)
          clear hK K
          (try simp only [Act.put, List.setIfInBounds_toArray, List.set_cons_zero, List.set_cons_succ])
          refine wpAnyH_ready (rs := [6]) (by kernel_rfl) (by simp) ?_
          refine AllReadyH.cons (o := { dst := some 11, op := Go.Op.build 45 #[(0, Go.Operand.tmp 6), (1, Go.Operand.tmp 9), (2, Go.Operand.tmp 10)], type := 45, pos := _, after := #[{ on := 1, ground := Go.Ground.data }, { on := 4, ground := Go.Ground.data }, { on := 5, ground := Go.Ground.data }], guard := none }) rfl (fun K hK => ?_) AllReadyH.nil
          go_simp
          refine hK.out _ _ trivial (fun _ => ?_)
          clear hK K
          (try simp only [Act.put, List.setIfInBounds_toArray, List.set_cons_zero, List.set_cons_succ])
          refine wpAnyH_ready (rs := [7]) (by kernel_rfl) (by simp) ?_
          refine AllReadyH.cons (o := { dst := some 12, op := Go.Op.box 45 (Go.Operand.tmp 11), type := 37, pos := _, after := #[{ on := 6, ground := Go.Ground.data }], guard := none }) rfl (fun K hK => ?_) AllReadyH.nil
          go_simp
          refine hK.out _ _ trivial (fun _ => ?_)
          clear hK K
          (try simp only [Act.put, List.setIfInBounds_toArray, List.set_cons_zero, List.set_cons_succ])
          refine wpAnyH_ready (rs := [8]) (by kernel_rfl) (by simp) ?_
          refine AllReadyH.cons (o := { dst := some 3, op := Go.Op.assign (Go.Operand.tmp 12), type := 37, pos := _, after := #[{ on := 7, ground := Go.Ground.data }, { on := 1, ground := Go.Ground.chain }, { on := 0, ground := Go.Ground.phase }, { on := 1, ground := Go.Ground.phase }, { on := 2, ground := Go.Ground.phase }, { on := 3, ground := Go.Ground.phase }, { on := 4, ground := Go.Ground.phase }, { on := 5, ground := Go.Ground.phase }, { on := 6, ground := Go.Ground.phase }, { on := 7, ground := Go.Ground.phase }], guard := none }) rfl (fun K hK => ?_) AllReadyH.nil
          go_simp
          refine hK.out _ _ trivial (fun _ => ?_)
          clear hK K
          (try simp only [Act.put, List.setIfInBounds_toArray, List.set_cons_zero, List.set_cons_succ])
          refine wpAnyH_done (by kernel_rfl) ?_ _
          exact ⟨_, _, _, _, MD10.out, rfl, rfl⟩
    · go_simp
      have MD11 : Hid (Md W (W.alloc (.map #[] 0)).drew n xs _ _ (some W.drew.heap.size)) := hid ((MD0.out).map)
      generalize hW11 : (W.alloc (.map #[] 0)).drew = w11 at *
      clear hW11
      refine hK.out _ _ trivial (fun _ => ?_)
      clear hK K
      (try simp only [Act.put, List.setIfInBounds_toArray, List.set_cons_zero, List.set_cons_succ])
      refine wpAnyH_ready (rs := [1, 4]) (by kernel_rfl) (by simp) ?_
      refine (AllReadyH.cons (o := { dst := some 6, op := Go.Op.call { callee := Go.Callee.value (Go.Operand.func 18), args := #[Go.Operand.tmp 5], argTypes := #[22] }, type := 22, pos := _, after := #[{ on := 0, ground := Go.Ground.data }], guard := none }) rfl (fun K hK => ?_) (AllReadyH.cons (o := { dst := some 9, op := Go.Op.makeSlice 41 (Go.Operand.tmp 8) (Go.Operand.tmp 8), type := 41, pos := _, after := #[{ on := 3, ground := Go.Ground.data }, { on := 3, ground := Go.Ground.data }], guard := none }) rfl (fun K hK => ?_) AllReadyH.nil))
      · go_simp
        refine (CL.out w11 ((MD11.out).below)).mono ?_
        rintro e w12 ⟨v12, rfl, ho12, hb12⟩
        obtain ⟨sa12, sc12, rfl⟩ := own_form ho12
        have MD12 := hid ((MD11.out).clone ho12 hb12)
        clear ho12 hb12
        go_wp2_with fail
        refine hK.out _ _ trivial (fun _ => ?_)
        clear hK K
        (try simp only [Act.put, List.setIfInBounds_toArray, List.set_cons_zero, List.set_cons_succ])
        refine wpAnyH_ready (rs := [4]) (by kernel_rfl) (by simp) ?_
        refine (AllReadyH.cons (o := { dst := some 9, op := Go.Op.makeSlice 41 (Go.Operand.tmp 8) (Go.Operand.tmp 8), type := 41, pos := _, after := #[{ on := 3, ground := Go.Ground.data }, { on := 3, ground := Go.Ground.data }], guard := none }) rfl (fun K hK => ?_) AllReadyH.nil)
        · go_simp
          have MD13 : Hid (Md W (w12.alloc (.cells (madeCells #[.bool false] n) 4)) n xs _ (some w12.heap.size) _) := hid ((MD12.out).make hn)
          generalize hW13 : (w12.alloc (.cells (madeCells #[.bool false] n) 4)) = w13 at *
          clear hW13
          refine hK.out _ _ trivial (fun _ => ?_)
          clear hK K
          (try simp only [Act.put, List.setIfInBounds_toArray, List.set_cons_zero, List.set_cons_succ])
          refine wpAnyH_ready (rs := [6]) (by kernel_rfl) (by simp) ?_
          refine AllReadyH.cons (o := { dst := some 11, op := Go.Op.build 45 #[(0, Go.Operand.tmp 6), (1, Go.Operand.tmp 9), (2, Go.Operand.tmp 10)], type := 45, pos := _, after := #[{ on := 1, ground := Go.Ground.data }, { on := 4, ground := Go.Ground.data }, { on := 5, ground := Go.Ground.data }], guard := none }) rfl (fun K hK => ?_) AllReadyH.nil
          go_simp
          refine hK.out _ _ trivial (fun _ => ?_)
          clear hK K
          (try simp only [Act.put, List.setIfInBounds_toArray, List.set_cons_zero, List.set_cons_succ])
          refine wpAnyH_ready (rs := [7]) (by kernel_rfl) (by simp) ?_
          refine AllReadyH.cons (o := { dst := some 12, op := Go.Op.box 45 (Go.Operand.tmp 11), type := 37, pos := _, after := #[{ on := 6, ground := Go.Ground.data }], guard := none }) rfl (fun K hK => ?_) AllReadyH.nil
          go_simp
          refine hK.out _ _ trivial (fun _ => ?_)
          clear hK K
          (try simp only [Act.put, List.setIfInBounds_toArray, List.set_cons_zero, List.set_cons_succ])
          refine wpAnyH_ready (rs := [8]) (by kernel_rfl) (by simp) ?_
          refine AllReadyH.cons (o := { dst := some 3, op := Go.Op.assign (Go.Operand.tmp 12), type := 37, pos := _, after := #[{ on := 7, ground := Go.Ground.data }, { on := 1, ground := Go.Ground.chain }, { on := 0, ground := Go.Ground.phase }, { on := 1, ground := Go.Ground.phase }, { on := 2, ground := Go.Ground.phase }, { on := 3, ground := Go.Ground.phase }, { on := 4, ground := Go.Ground.phase }, { on := 5, ground := Go.Ground.phase }, { on := 6, ground := Go.Ground.phase }, { on := 7, ground := Go.Ground.phase }], guard := none }) rfl (fun K hK => ?_) AllReadyH.nil
          go_simp
          refine hK.out _ _ trivial (fun _ => ?_)
          clear hK K
          (try simp only [Act.put, List.setIfInBounds_toArray, List.set_cons_zero, List.set_cons_succ])
          refine wpAnyH_done (by kernel_rfl) ?_ _
          exact ⟨_, _, _, _, MD13.out, rfl, rfl⟩
      · go_simp
        have MD14 : Hid (Md W (w11.alloc (.cells (madeCells #[.bool false] n) 4)) n xs _ (some w11.heap.size) _) := hid ((MD11.out).make hn)
        generalize hW14 : (w11.alloc (.cells (madeCells #[.bool false] n) 4)) = w14 at *
        clear hW14
        refine hK.out _ _ trivial (fun _ => ?_)
        clear hK K
        (try simp only [Act.put, List.setIfInBounds_toArray, List.set_cons_zero, List.set_cons_succ])
        refine wpAnyH_ready (rs := [1]) (by kernel_rfl) (by simp) ?_
        refine (AllReadyH.cons (o := { dst := some 6, op := Go.Op.call { callee := Go.Callee.value (Go.Operand.func 18), args := #[Go.Operand.tmp 5], argTypes := #[22] }, type := 22, pos := _, after := #[{ on := 0, ground := Go.Ground.data }], guard := none }) rfl (fun K hK => ?_) AllReadyH.nil)
        · go_simp
          refine (CL.out w14 ((MD14.out).below)).mono ?_
          rintro e w15 ⟨v15, rfl, ho15, hb15⟩
          obtain ⟨sa15, sc15, rfl⟩ := own_form ho15
          have MD15 := hid ((MD14.out).clone ho15 hb15)
          clear ho15 hb15
          go_wp2_with fail
          refine hK.out _ _ trivial (fun _ => ?_)
          clear hK K
          (try simp only [Act.put, List.setIfInBounds_toArray, List.set_cons_zero, List.set_cons_succ])
          refine wpAnyH_ready (rs := [6]) (by kernel_rfl) (by simp) ?_
          refine AllReadyH.cons (o := { dst := some 11, op := Go.Op.build 45 #[(0, Go.Operand.tmp 6), (1, Go.Operand.tmp 9), (2, Go.Operand.tmp 10)], type := 45, pos := _, after := #[{ on := 1, ground := Go.Ground.data }, { on := 4, ground := Go.Ground.data }, { on := 5, ground := Go.Ground.data }], guard := none }) rfl (fun K hK => ?_) AllReadyH.nil
          go_simp
          refine hK.out _ _ trivial (fun _ => ?_)
          clear hK K
          (try simp only [Act.put, List.setIfInBounds_toArray, List.set_cons_zero, List.set_cons_succ])
          refine wpAnyH_ready (rs := [7]) (by kernel_rfl) (by simp) ?_
          refine AllReadyH.cons (o := { dst := some 12, op := Go.Op.box 45 (Go.Operand.tmp 11), type := 37, pos := _, after := #[{ on := 6, ground := Go.Ground.data }], guard := none }) rfl (fun K hK => ?_) AllReadyH.nil
          go_simp
          refine hK.out _ _ trivial (fun _ => ?_)
          clear hK K
          (try simp only [Act.put, List.setIfInBounds_toArray, List.set_cons_zero, List.set_cons_succ])
          refine wpAnyH_ready (rs := [8]) (by kernel_rfl) (by simp) ?_
          refine AllReadyH.cons (o := { dst := some 3, op := Go.Op.assign (Go.Operand.tmp 12), type := 37, pos := _, after := #[{ on := 7, ground := Go.Ground.data }, { on := 1, ground := Go.Ground.chain }, { on := 0, ground := Go.Ground.phase }, { on := 1, ground := Go.Ground.phase }, { on := 2, ground := Go.Ground.phase }, { on := 3, ground := Go.Ground.phase }, { on := 4, ground := Go.Ground.phase }, { on := 5, ground := Go.Ground.phase }, { on := 6, ground := Go.Ground.phase }, { on := 7, ground := Go.Ground.phase }], guard := none }) rfl (fun K hK => ?_) AllReadyH.nil
          go_simp
          refine hK.out _ _ trivial (fun _ => ?_)
          clear hK K
          (try simp only [Act.put, List.setIfInBounds_toArray, List.set_cons_zero, List.set_cons_succ])
          refine wpAnyH_done (by kernel_rfl) ?_ _
          exact ⟨_, _, _, _, MD15.out, rfl, rfl⟩
end Go.Proofs.Ytdhjedpgdhageaa.Ord
