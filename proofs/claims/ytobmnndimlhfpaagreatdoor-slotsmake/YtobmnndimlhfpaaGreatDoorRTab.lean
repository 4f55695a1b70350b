/-
  The table of a guard, as the law lays it.
-/
import Derived.Test.YtobmnndimlhfpaaGreatDoorBk2
import Derived.Test.YtobmnndimlhfpaaGreatDoorRsc
namespace Go.Proofs.YtobmnndimlhfpaaGreatDoor.Slo
open Go.ChangeShapes Go.WideShapes Go.ChangeAt Go.RowKit Go.Joins
theorem info_parts {P : Program} {e : TypeId} {z : Value} {n m : Nat} (h : (P.info? e).map (fun i => (i.zero, i.size, i.bytes)) = some (some z, n, m)) : ∃ i, P.info? e = some i ∧ i.zero = some z ∧ i.size = n ∧ i.bytes = m := by
  cases hi : P.info? e with
  | none => rw [hi] at h; cases h
  | some i =>
    rw [hi] at h
    injection h with h
    injection h with h1 h2
    injection h2 with h2 h3
    exact ⟨i, rfl, h1, h2, h3⟩
/-- The slots of a guard. -/
def tgL (s : Su) (r : List Int) (g : Int) (k : Nat) : List Sl := (List.range k).map fun j => (rdN s r g j, rdN s r g j + g, rdN s r g (j + 1))
theorem tgL_len (s : Su) (r : List Int) (g : Int) (k : Nat) : (tgL s r g k).length = k := by simp [tgL]
theorem tgL_O {s : Su} {r : List Int} {g : Int} {k j : Nat} (h : j < k) : sO (tgL s r g k) j = rdN s r g j := by simp [sO, tgL, h]
theorem tgL_S {s : Su} {r : List Int} {g : Int} {k j : Nat} (h : j < k) : sS (tgL s r g k) j = rdN s r g j + g := by simp [sS, tgL, h]
theorem tgL_H {s : Su} {r : List Int} {g : Int} {k j : Nat} (h : j < k) : sH (tgL s r g k) j = rdN s r g (j + 1) := by simp [sH, tgL, h]
theorem tgL_pv {s : Su} {r : List Int} {g : Int} {k : Nat} : ∀ j, j ≤ k → pv (tgL s r g k) j = rdN s r g j
  | 0, _ => rfl
  | j + 1, h => tgL_H (by omega)
abbrev slV (x : Sl) : List Value := [.int .i64 x.1, .int .i64 x.2.1, .int .i64 x.2.2]
def slsC (l : List Sl) : List Value := (l.map slV).flatten
theorem slsC_len (l : List Sl) : (slsC l).length = l.length * 3 := by
  induction l with
  | nil => rfl
  | cons a l ih =>
    show (slV a ++ slsC l).length = _
    rw [List.length_append, ih]
    simp
    omega
theorem slsC_at (l : List Sl) : ∀ i (h : i < l.length) j, j < 3 → (slsC l)[i * 3 + j]? = (slV l[i])[j]? := by
  induction l with
  | nil => intro i h; cases h
  | cons a l ih =>
    intro i h j hj
    show (slV a ++ slsC l)[i * 3 + j]? = _
    cases i with
    | zero => rw [List.getElem?_append_left (by simp; omega)]; simp
    | succ i =>
      rw [List.getElem?_append_right (by simp; omega)]
      have : (i + 1) * 3 + j - (slV a).length = i * 3 + j := by simp; omega
      rw [this, ih i (by simpa using h) j hj]
      rfl
/-- A row of slots of one's own can be read. -/
theorem SlR.of_own {W : World} {B : Nat} {v : Value} {l : List Sl} (h : W.ownsRow B 64 3 v l.length (slsC l)) (h8 : l.length ≤ 1000) : SlR W W.heap.size v l := by
  rcases h.2 with ⟨rfl, hn⟩ | ⟨g, c, cur, rfl, hg, hrow, hc, hm, hs, ht⟩
  · refine ⟨none, 0, by rw [hn], by omega, by omega, .inl (List.length_eq_zero_iff.1 hn)⟩
  · have hlt := (Array.getElem?_eq_some_iff.1 hrow).1
    refine ⟨_, c, rfl, hc, ⟨by simp only [maxLen] at hm; omega, by omega⟩, .inr ⟨g, 0, rfl, hlt, fun i hi => ?_⟩⟩
    have key : ∀ j, j < 3 → W.cell? ⟨g, 0 + i * 3 + j, none⟩ = (slV l[i])[j]? := fun j hj => by
      rw [cell_of_row _ _ _ _ 64 (0, 0) hrow]
      have h1 : (cur.toList.take (l.length * 3))[i * 3 + j]? = (slsC l)[i * 3 + j]? := by rw [ht]
      rw [List.getElem?_take_of_lt (by omega), slsC_at l i hi j hj] at h1
      rw [← h1]
      simp
    exact ⟨by have := key 0 (by omega); rw [show sO l i = l[i].1 by simp [sO, hi]]; simpa using this, by have := key 1 (by omega); rw [show sS l i = l[i].2.1 by simp [sS, hi]]; simpa using this, by have := key 2 (by omega); rw [show sH l i = l[i].2.2 by simp [sH, hi]]; simpa using this⟩
/-- What is there while the table grows. -/
structure TgI (W wr : World) (s : Su) (r : List Int) (g : Int) (k : Nat) (v : Value) : Prop where
  box : wr.heap[W.heap.size]? = some (.cells (suC s) 23 (0, 0))
  res : wr.heap[W.heap.size + 1]? = some (.cells tC0 27 (0, 0))
  tab : wr.heap[W.heap.size + 1 + 1]? = some (.cells (tbC v 0 g) 27 (0, 0))
  row : wr.ownsRow (W.heap.size + 1 + 1 + 1) 64 3 v k (slsC (tgL s r g k))
  below : Below W.heap.size W wr
  size : W.heap.size + 1 + 1 + 1 ≤ wr.heap.size
theorem TgI.keep {W wr w2 : World} {s : Su} {r : List Int} {g : Int} {k : Nat} {v : Value} (h : TgI W wr s r g k v) (hb : Below wr.heap.size wr w2) : TgI W w2 s r g k v :=
  ⟨keep_row h.box hb, keep_row h.res hb, keep_row h.tab hb, own_carry h.row (fun b e => hb.block b (own_lo h.row b e).2), h.below.trans (hb.mono h.below.size), Nat.le_trans h.size hb.size⟩
theorem tgL_step (s : Su) (r : List Int) (g : Int) (k : Nat) : slsC (tgL s r g k) ++ slV (rdN s r g k, rdN s r g k + g, rdN s r g (k + 1)) = slsC (tgL s r g (k + 1)) := by
  simp [slsC, tgL, List.range_succ]
theorem TgI.grow {W wr w2 : World} {s : Su} {r : List Int} {g : Int} {k : Nat} {v v' : Value} (h : TgI W wr s r g k v) (hg : wr.grownBy w2 v.ownBlock) (ho : w2.ownsRow (W.heap.size + 1 + 1 + 1) 64 3 v' (k + 1) (slsC (tgL s r g k) ++ slV (rdN s r g k, rdN s r g k + g, rdN s r g (k + 1)))) : TgI W (w2.setCell ⟨W.heap.size + 1 + 1, 0, none⟩ v') s r g (k + 1) v' := by
  have hne : ∀ i, i < W.heap.size + 1 + 1 + 1 → some i ≠ v.ownBlock := fun i hi e => by have := (own_lo h.row i e.symm).1; omega
  have hk : ∀ i o, i < W.heap.size + 1 + 1 + 1 → wr.heap[i]? = some o → w2.heap[i]? = some o := fun i o hi hw => (hg.block i (by have := (Array.getElem?_eq_some_iff.1 hw).1; omega) (hne i hi)).trans hw
  refine ⟨?_, ?_, ?_, ?_, ?_, ?_⟩
  · rw [heap_setCell_other _ _ _ _ (by show W.heap.size ≠ W.heap.size + 1 + 1; omega)]; exact hk _ _ (by omega) h.box
  · rw [heap_setCell_other _ _ _ _ (by show W.heap.size + 1 ≠ W.heap.size + 1 + 1; omega)]; exact hk _ _ (by omega) h.res
  · exact heap_setCell_same _ _ _ _ 27 v' (hk _ _ (by omega) h.tab)
  · rw [← tgL_step]
    exact own_carry ho (fun b e => heap_setCell_other _ _ _ _ (by have := (own_lo ho b e).1; show b ≠ W.heap.size + 1 + 1; omega))
  · exact (h.below.grown hg h.below.size (fun b e => by have := (own_lo h.row b e).1; omega)).setCell (by show W.heap.size ≤ W.heap.size + 1 + 1; omega) _
  · have h1 := hg.size
    have h2 := h.size
    simp only [World.setCell, Array.size_modify]
    omega
theorem TgI.fin {W wr : World} {s : Su} {r : List Int} {g : Int} {k : Nat} {v : Value} (h : TgI W wr s r g k v) : (wr.setCell ⟨W.heap.size + 1 + 1, 1, none⟩ (.int .i64 (rdN s r g k))).heap[W.heap.size + 1]? = some (.cells tC0 27 (0, 0)) ∧ (wr.setCell ⟨W.heap.size + 1 + 1, 1, none⟩ (.int .i64 (rdN s r g k))).heap[W.heap.size + 1 + 1]? = some (.cells (tbC v (rdN s r g k) g) 27 (0, 0)) ∧ (wr.setCell ⟨W.heap.size + 1 + 1, 1, none⟩ (.int .i64 (rdN s r g k))).ownsRow (W.heap.size + 1 + 1 + 1) 64 3 v k (slsC (tgL s r g k)) ∧ Below W.heap.size W (wr.setCell ⟨W.heap.size + 1 + 1, 1, none⟩ (.int .i64 (rdN s r g k))) := by
  refine ⟨?_, heap_setCell_same _ _ _ _ 27 _ h.tab, ?_, h.below.setCell (by show W.heap.size ≤ W.heap.size + 1 + 1; omega) _⟩
  · rw [heap_setCell_other _ _ _ _ (by show W.heap.size + 1 ≠ W.heap.size + 1 + 1; omega)]; exact h.res
  · exact own_carry h.row (fun b e => heap_setCell_other _ _ _ _ (by have := (own_lo h.row b e).1; show b ≠ W.heap.size + 1 + 1; omega))
theorem TgI.next {W w6 w8 : World} {s : Su} {r : List Int} {g q X : Int} {k P : Nat} {v v' : Value} (h6 : TgI W w6 s r g k v) (hp : w6.heap[P]? = some (.cells (slC q (q + g) X) 64 (0, 0))) (hob : ∀ b, v.ownBlock = some b → b < P) (hpq : W.heap.size + 1 + 1 < P) (hq : q = rdN s r g k) (hX : X = rdN s r g (k + 1))
    (ho : w8.ownsRow (W.heap.size + 1 + 1 + 1) 64 3 v' (k + 1) (slsC (tgL s r g k) ++ slV (q, q + g, X))) (hg : w6.grownBy w8 v.ownBlock) : TgI W (w8.setCell ⟨W.heap.size + 1 + 1, 0, none⟩ v') s r g (k + 1) v' ∧ w8.heap[W.heap.size + 1 + 1]? = some (.cells (tbC v 0 g) 27 (0, 0)) ∧ (w8.setCell ⟨W.heap.size + 1 + 1, 0, none⟩ v').heap[P]? = some (.cells (slC q (q + g) X) 64 (0, 0)) := by
  have h8 : w8.heap[P]? = some (.cells (slC q (q + g) X) 64 (0, 0)) := (hg.block P (Array.getElem?_eq_some_iff.1 hp).1 (fun e => by have := hob P e.symm; omega)).trans hp
  refine ⟨h6.grow hg (by rw [← hq, ← hX]; exact ho), (hg.block (W.heap.size + 1 + 1) (by have := h6.size; omega) (fun e => by have := (own_lo h6.row (W.heap.size + 1 + 1) e.symm).1; omega)).trans h6.tab, ?_⟩
  rw [heap_setCell_other _ _ _ _ (by show P ≠ W.heap.size + 1 + 1; omega)]
  exact h8
set_option maxRecDepth 100000 in
set_option maxHeartbeats 8000000 in
theorem rtable_at (W : World) (s : Su) (v : Value) (r : List Int) (g : Int) (h : Rd W W.heap.size v r) (hm : mayF s r = true) (hg : 0 ≤ g ∧ g ≤ 1099511627776) : Calls Tryz.prog 26 #[.agg (suC s), v, .int .i64 g] W fun e w' => (∃ u, e = .returned (.agg (tbC u (RD s r g) g)) ∧ w'.ownsRow W.heap.size 64 3 u r.length (slsC (tgL s r g r.length))) ∧ Below W.heap.size W w' := by
  obtain ⟨hs, hl8, hr⟩ := mayF_iff.1 hm
  have h8 : r.length ≤ 8 := by have := (wi_iff.1 hl8).2; omega
  obtain ⟨ao, c, rfl, hle, hcc, hcs⟩ := h
  have HC := hid hcs
  obtain ⟨i0, hi, hz0, hz1, hz2⟩ := info_parts inf39z
  clear hcs hl8
  go_enter Tryz.func26, Tryz.ntmps26
  go_wp2_with (fail)
  have HI : Hid (TgI W (((W.alloc (.cells (suC s) 23)).alloc (.cells tC0 27)).alloc (.cells (tbC (.slice none 0 0) 0 g) 27)) s r g 0 (.slice none 0 0)) := hid
    ⟨push_old (push_old (push_new W _ W.heap.size rfl)), push_old (push_new _ _ _ (by simp)), push_new _ _ _ (by simp), ⟨rfl, .inl ⟨rfl, rfl⟩⟩, bstep (bstep (balloc _ _) (balloc _ _)) (balloc _ _), by simp⟩
  generalize (((W.alloc (.cells (suC s) 23)).alloc (.cells tC0 27)).alloc (.cells (tbC (.slice none 0 0) 0 g) 27)) = W1 at *
  go_loopw [8, 9] (fun s8 s9 wr => ∃ k : Nat, k ≤ r.length ∧ s9 = .int .i64 (k : Int) ∧ s8 = .int .i64 (rdN s r g k) ∧ ∃ v, Hid (TgI W wr s r g k v)) (fun _ s9 _ => r.length - (intOf s9).toNat)
  case atStart => exact ⟨0, by omega, rfl, rfl, _, HI⟩
  case round =>
    clear HI
    obtain ⟨k, hk, rfl, rfl, v, HK⟩ := hrel
    obtain ⟨x0, x1, x2, x3, x4⟩ := su_cells HK.out.box
    obtain ⟨y0, y1, y2⟩ := tb_cells HK.out.tab
    by_cases hlt : k < r.length
    · have hlt' : (k : Int) < (r.length : Int) := by omega
      obtain ⟨b, o, rfl, hb, hc⟩ := HC.out.resolve_left (by intro e; rw [e] at hlt; simp at hlt)
      have bc := (HK.out.below.cell (p := ⟨b, o + k, none⟩) hb).trans (hc k hlt)
      have HC0 := hid (hc k hlt)
      clear hc
      have hz := bit_le hs (btAll_at hr hlt)
      have hR := rdN_le (T := 2300000000000) hs hr hg.1 (by omega) k (by omega)
      have hf := (chk_iff.1 hs).2.1
      have hk0 : (0 : Int) ≤ (k : Int) := by omega
      have HN : Hid (rdN s r g (k + 1) = rdN s r g k + g + ga r k * s.b + s.f + g) := hid rfl
      have HT0 := HK
      have hR2 : rdN s r g k ≤ 18400000000000 := by omega
      clear hm hs hr
      obtain ⟨z, hzz⟩ : ∃ z, z = ga r k := ⟨_, rfl⟩
      obtain ⟨q, hqq⟩ : ∃ q, q = rdN s r g k := ⟨_, rfl⟩
      have HQ := hid hqq
      rw [← hzz] at bc hz HN HC0
      rw [← hqq] at hR hR2 HN ⊢
      clear hzz hqq
      have hw1 : IntKind.i64.wrap (q + g) = q + g := by rw [IntKind.wrap_i64]; omega
      have hw2 : IntKind.i64.wrap (z * s.b) = z * s.b := by rw [IntKind.wrap_i64]; omega
      have hw3 : IntKind.i64.wrap (q + g + z * s.b) = q + g + z * s.b := by rw [IntKind.wrap_i64]; omega
      have hw4 : IntKind.i64.wrap (q + g + z * s.b + s.f) = q + g + z * s.b + s.f := by rw [IntKind.wrap_i64]; omega
      have hw5 : IntKind.i64.wrap (q + g + z * s.b + s.f + g) = q + g + z * s.b + s.f + g := by rw [IntKind.wrap_i64]; omega
      have hw6 : True := trivial
      go_wp2_with (fail)
      refine wp_region_held_drew (S := fun V => V.cell? ⟨W.heap.size, 0, none⟩ = some (.int .i64 s.b) ∧ V.cell? ⟨W.heap.size, 1, none⟩ = some (.int .i64 s.n) ∧ V.cell? ⟨W.heap.size, 2, none⟩ = some (.int .i64 s.f) ∧ V.cell? ⟨W.heap.size, 3, none⟩ = some (.int .i64 s.d) ∧ V.cell? ⟨W.heap.size, 4, none⟩ = some (.int .i64 s.k) ∧ V.cell? ⟨b, o + k, none⟩ = some (.int .i64 z)) (by kernel_rfl) ?_ (fun hHeld => ?_)
      · exact ⟨x0, x1, x2, x3, x4, bc⟩
      refine wpAnyH_take (i := 0) (oi := { dst := some 19, op := Go.Op.move (Go.Operand.tmp 8), type := 3, pos := _, after := #[], guard := none }) (v := ?_) rfl (by kernel_rfl) (by kernel_rfl) (by kernel_rfl) (fun _ _ _ h => h) (Or.inl ⟨by rfl, ?_⟩) (by assumption) ?_
      rotate_left
      · intro w hSw; (try dsimp only at hSw); go_simp <;> first | with_reducible rfl | (rw [if_neg (by first | omega | (simp only [ByteArray.size_append] at *; omega))])
      simp only [Act.put, List.setIfInBounds_toArray, List.set_cons_zero, List.set_cons_succ]
      refine wpAnyH_take (i := 1) (oi := { dst := some 20, op := Go.Op.move (Go.Operand.tmp 8), type := 3, pos := _, after := #[], guard := none }) (v := ?_) rfl (by kernel_rfl) (by kernel_rfl) (by kernel_rfl) (fun _ _ _ h => h) (Or.inl ⟨by rfl, ?_⟩) (by assumption) ?_
      rotate_left
      · intro w hSw; (try dsimp only at hSw); go_simp <;> first | with_reducible rfl | (rw [if_neg (by first | omega | (simp only [ByteArray.size_append] at *; omega))])
      simp only [Act.put, List.setIfInBounds_toArray, List.set_cons_zero, List.set_cons_succ]
      refine wpAnyH_take (i := 2) (oi := { dst := some 21, op := Go.Op.move (Go.Operand.tmp 2), type := 3, pos := _, after := #[], guard := none }) (v := ?_) rfl (by kernel_rfl) (by kernel_rfl) (by kernel_rfl) (fun _ _ _ h => h) (Or.inl ⟨by rfl, ?_⟩) (by assumption) ?_
      rotate_left
      · intro w hSw; (try dsimp only at hSw); go_simp <;> first | with_reducible rfl | (rw [if_neg (by first | omega | (simp only [ByteArray.size_append] at *; omega))])
      simp only [Act.put, List.setIfInBounds_toArray, List.set_cons_zero, List.set_cons_succ]
      refine wpAnyH_take (i := 3) (oi := { dst := some 22, op := Go.Op.binOp Go.BinOp.add 3 (Go.Operand.tmp 20) (Go.Operand.tmp 21) 3, type := 3, pos := _, after := #[{ on := 1, ground := Go.Ground.data }, { on := 2, ground := Go.Ground.data }], guard := none }) (v := ?_) rfl (by kernel_rfl) (by kernel_rfl) (by kernel_rfl) (fun _ _ _ h => h) (Or.inl ⟨by rfl, ?_⟩) (by assumption) ?_
      rotate_left
      · intro w hSw; (try dsimp only at hSw); go_simp <;> first | with_reducible rfl | (rw [if_neg (by first | omega | (simp only [ByteArray.size_append] at *; omega))])
      simp only [Act.put, List.setIfInBounds_toArray, List.set_cons_zero, List.set_cons_succ]
      refine wpAnyH_take (i := 4) (oi := { dst := some 23, op := Go.Op.move (Go.Operand.tmp 8), type := 3, pos := _, after := #[], guard := none }) (v := ?_) rfl (by kernel_rfl) (by kernel_rfl) (by kernel_rfl) (fun _ _ _ h => h) (Or.inl ⟨by rfl, ?_⟩) (by assumption) ?_
      rotate_left
      · intro w hSw; (try dsimp only at hSw); go_simp <;> first | with_reducible rfl | (rw [if_neg (by first | omega | (simp only [ByteArray.size_append] at *; omega))])
      simp only [Act.put, List.setIfInBounds_toArray, List.set_cons_zero, List.set_cons_succ]
      refine wpAnyH_take (i := 5) (oi := { dst := some 24, op := Go.Op.move (Go.Operand.tmp 2), type := 3, pos := _, after := #[], guard := none }) (v := ?_) rfl (by kernel_rfl) (by kernel_rfl) (by kernel_rfl) (fun _ _ _ h => h) (Or.inl ⟨by rfl, ?_⟩) (by assumption) ?_
      rotate_left
      · intro w hSw; (try dsimp only at hSw); go_simp <;> first | with_reducible rfl | (rw [if_neg (by first | omega | (simp only [ByteArray.size_append] at *; omega))])
      simp only [Act.put, List.setIfInBounds_toArray, List.set_cons_zero, List.set_cons_succ]
      refine wpAnyH_take (i := 6) (oi := { dst := some 25, op := Go.Op.binOp Go.BinOp.add 3 (Go.Operand.tmp 23) (Go.Operand.tmp 24) 3, type := 3, pos := _, after := #[{ on := 4, ground := Go.Ground.data }, { on := 5, ground := Go.Ground.data }], guard := none }) (v := ?_) rfl (by kernel_rfl) (by kernel_rfl) (by kernel_rfl) (fun _ _ _ h => h) (Or.inl ⟨by rfl, ?_⟩) (by assumption) ?_
      rotate_left
      · intro w hSw; (try dsimp only at hSw); go_simp <;> first | with_reducible rfl | (rw [if_neg (by first | omega | (simp only [ByteArray.size_append] at *; omega))])
      simp only [Act.put, List.setIfInBounds_toArray, List.set_cons_zero, List.set_cons_succ]
      refine wpAnyH_take (i := 7) (oi := { dst := some 26, op := Go.Op.move (Go.Operand.tmp 1), type := 24, pos := _, after := #[], guard := none }) (v := ?_) rfl (by kernel_rfl) (by kernel_rfl) (by kernel_rfl) (fun _ _ _ h => h) (Or.inl ⟨by rfl, ?_⟩) (by assumption) ?_
      rotate_left
      · intro w hSw; (try dsimp only at hSw); go_simp <;> first | with_reducible rfl | (rw [if_neg (by first | omega | (simp only [ByteArray.size_append] at *; omega))])
      simp only [Act.put, List.setIfInBounds_toArray, List.set_cons_zero, List.set_cons_succ]
      refine wpAnyH_take (i := 8) (oi := { dst := some 27, op := Go.Op.move (Go.Operand.tmp 9), type := 3, pos := _, after := #[], guard := none }) (v := ?_) rfl (by kernel_rfl) (by kernel_rfl) (by kernel_rfl) (fun _ _ _ h => h) (Or.inl ⟨by rfl, ?_⟩) (by assumption) ?_
      rotate_left
      · intro w hSw; (try dsimp only at hSw); go_simp <;> first | with_reducible rfl | (rw [if_neg (by first | omega | (simp only [ByteArray.size_append] at *; omega))])
      simp only [Act.put, List.setIfInBounds_toArray, List.set_cons_zero, List.set_cons_succ]
      refine wpAnyH_take (i := 9) (oi := { dst := some 28, op := Go.Op.indexAddr 24 (Go.Operand.tmp 26) (Go.Operand.tmp 27), type := 0, pos := _, after := #[{ on := 7, ground := Go.Ground.data }, { on := 8, ground := Go.Ground.data }], guard := none }) (v := ?_) rfl (by kernel_rfl) (by kernel_rfl) (by kernel_rfl) (fun _ _ _ h => h) (Or.inl ⟨by rfl, ?_⟩) (by assumption) ?_
      rotate_left
      · intro w hSw; (try dsimp only at hSw); go_simp <;> first | with_reducible rfl | (rw [if_neg (by first | omega | (simp only [ByteArray.size_append] at *; omega))])
      simp only [Act.put, List.setIfInBounds_toArray, List.set_cons_zero, List.set_cons_succ]
      refine wpAnyH_take (i := 10) (oi := { dst := some 29, op := Go.Op.load 3 (Go.Operand.tmp 28), type := 3, pos := _, after := #[{ on := 9, ground := Go.Ground.data }], guard := none }) (v := ?_) rfl (by kernel_rfl) (by kernel_rfl) (by kernel_rfl) (fun _ _ _ h => h) (Or.inl ⟨by rfl, ?_⟩) (by assumption) ?_
      rotate_left
      · intro w hSw; (try dsimp only at hSw); go_simp <;> first | with_reducible rfl | (rw [if_neg (by first | omega | (simp only [ByteArray.size_append] at *; omega))])
      simp only [Act.put, List.setIfInBounds_toArray, List.set_cons_zero, List.set_cons_succ]
      refine wpAnyH_take (i := 11) (oi := { dst := some 30, op := Go.Op.fieldAddr 23 (Go.Operand.tmp 3) 0, type := 0, pos := _, after := #[], guard := none }) (v := ?_) rfl (by kernel_rfl) (by kernel_rfl) (by kernel_rfl) (fun _ _ _ h => h) (Or.inl ⟨by rfl, ?_⟩) (by assumption) ?_
      rotate_left
      · intro w hSw; (try dsimp only at hSw); go_simp <;> first | with_reducible rfl | (rw [if_neg (by first | omega | (simp only [ByteArray.size_append] at *; omega))])
      simp only [Act.put, List.setIfInBounds_toArray, List.set_cons_zero, List.set_cons_succ]
      refine wpAnyH_take (i := 12) (oi := { dst := some 31, op := Go.Op.load 3 (Go.Operand.tmp 30), type := 3, pos := _, after := #[{ on := 11, ground := Go.Ground.data }], guard := none }) (v := ?_) rfl (by kernel_rfl) (by kernel_rfl) (by kernel_rfl) (fun _ _ _ h => h) (Or.inl ⟨by rfl, ?_⟩) (by assumption) ?_
      rotate_left
      · intro w hSw; (try dsimp only at hSw); go_simp <;> first | with_reducible rfl | (rw [if_neg (by first | omega | (simp only [ByteArray.size_append] at *; omega))])
      simp only [Act.put, List.setIfInBounds_toArray, List.set_cons_zero, List.set_cons_succ]
      refine wpAnyH_take (i := 13) (oi := { dst := some 32, op := Go.Op.binOp Go.BinOp.mul 3 (Go.Operand.tmp 29) (Go.Operand.tmp 31) 3, type := 3, pos := _, after := #[{ on := 10, ground := Go.Ground.data }, { on := 12, ground := Go.Ground.data }], guard := none }) (v := ?_) rfl (by kernel_rfl) (by kernel_rfl) (by kernel_rfl) (fun _ _ _ h => h) (Or.inl ⟨by rfl, ?_⟩) (by assumption) ?_
      rotate_left
      · intro w hSw; (try dsimp only at hSw); go_simp <;> first | with_reducible rfl | (rw [if_neg (by first | omega | (simp only [ByteArray.size_append] at *; omega))])
      simp only [Act.put, List.setIfInBounds_toArray, List.set_cons_zero, List.set_cons_succ]
      refine wpAnyH_take (i := 14) (oi := { dst := some 33, op := Go.Op.binOp Go.BinOp.add 3 (Go.Operand.tmp 25) (Go.Operand.tmp 32) 3, type := 3, pos := _, after := #[{ on := 6, ground := Go.Ground.data }, { on := 13, ground := Go.Ground.data }], guard := none }) (v := ?_) rfl (by kernel_rfl) (by kernel_rfl) (by kernel_rfl) (fun _ _ _ h => h) (Or.inl ⟨by rfl, ?_⟩) (by assumption) ?_
      rotate_left
      · intro w hSw; (try dsimp only at hSw); go_simp <;> first | with_reducible rfl | (rw [if_neg (by first | omega | (simp only [ByteArray.size_append] at *; omega))])
      simp only [Act.put, List.setIfInBounds_toArray, List.set_cons_zero, List.set_cons_succ]
      refine wpAnyH_take (i := 15) (oi := { dst := some 34, op := Go.Op.fieldAddr 23 (Go.Operand.tmp 3) 2, type := 0, pos := _, after := #[], guard := none }) (v := ?_) rfl (by kernel_rfl) (by kernel_rfl) (by kernel_rfl) (fun _ _ _ h => h) (Or.inl ⟨by rfl, ?_⟩) (by assumption) ?_
      rotate_left
      · intro w hSw; (try dsimp only at hSw); go_simp <;> first | with_reducible rfl | (rw [if_neg (by first | omega | (simp only [ByteArray.size_append] at *; omega))])
      simp only [Act.put, List.setIfInBounds_toArray, List.set_cons_zero, List.set_cons_succ]
      refine wpAnyH_take (i := 16) (oi := { dst := some 35, op := Go.Op.load 3 (Go.Operand.tmp 34), type := 3, pos := _, after := #[{ on := 15, ground := Go.Ground.data }], guard := none }) (v := ?_) rfl (by kernel_rfl) (by kernel_rfl) (by kernel_rfl) (fun _ _ _ h => h) (Or.inl ⟨by rfl, ?_⟩) (by assumption) ?_
      rotate_left
      · intro w hSw; (try dsimp only at hSw); go_simp <;> first | with_reducible rfl | (rw [if_neg (by first | omega | (simp only [ByteArray.size_append] at *; omega))])
      simp only [Act.put, List.setIfInBounds_toArray, List.set_cons_zero, List.set_cons_succ]
      refine wpAnyH_take (i := 17) (oi := { dst := some 36, op := Go.Op.binOp Go.BinOp.add 3 (Go.Operand.tmp 33) (Go.Operand.tmp 35) 3, type := 3, pos := _, after := #[{ on := 14, ground := Go.Ground.data }, { on := 16, ground := Go.Ground.data }], guard := none }) (v := ?_) rfl (by kernel_rfl) (by kernel_rfl) (by kernel_rfl) (fun _ _ _ h => h) (Or.inl ⟨by rfl, ?_⟩) (by assumption) ?_
      rotate_left
      · intro w hSw; (try dsimp only at hSw); go_simp <;> first | with_reducible rfl | (rw [if_neg (by first | omega | (simp only [ByteArray.size_append] at *; omega))])
      simp only [Act.put, List.setIfInBounds_toArray, List.set_cons_zero, List.set_cons_succ]
      refine wpAnyH_take (i := 18) (oi := { dst := some 37, op := Go.Op.move (Go.Operand.tmp 2), type := 3, pos := _, after := #[], guard := none }) (v := ?_) rfl (by kernel_rfl) (by kernel_rfl) (by kernel_rfl) (fun _ _ _ h => h) (Or.inl ⟨by rfl, ?_⟩) (by assumption) ?_
      rotate_left
      · intro w hSw; (try dsimp only at hSw); go_simp <;> first | with_reducible rfl | (rw [if_neg (by first | omega | (simp only [ByteArray.size_append] at *; omega))])
      simp only [Act.put, List.setIfInBounds_toArray, List.set_cons_zero, List.set_cons_succ]
      refine wpAnyH_take (i := 19) (oi := { dst := some 38, op := Go.Op.binOp Go.BinOp.add 3 (Go.Operand.tmp 36) (Go.Operand.tmp 37) 3, type := 3, pos := _, after := #[{ on := 17, ground := Go.Ground.data }, { on := 18, ground := Go.Ground.data }], guard := none }) (v := ?_) rfl (by kernel_rfl) (by kernel_rfl) (by kernel_rfl) (fun _ _ _ h => h) (Or.inl ⟨by rfl, ?_⟩) (by assumption) ?_
      rotate_left
      · intro w hSw; (try dsimp only at hSw); go_simp <;> first | with_reducible rfl | (rw [if_neg (by first | omega | (simp only [ByteArray.size_append] at *; omega))])
      simp only [Act.put, List.setIfInBounds_toArray, List.set_cons_zero, List.set_cons_succ]
      refine wpAnyH_take (i := 20) (oi := { dst := some 39, op := Go.Op.build 64 #[(0, Go.Operand.tmp 19), (1, Go.Operand.tmp 22), (2, Go.Operand.tmp 38)], type := 64, pos := _, after := #[{ on := 0, ground := Go.Ground.data }, { on := 3, ground := Go.Ground.data }, { on := 19, ground := Go.Ground.data }], guard := none }) (v := ?_) rfl (by kernel_rfl) (by kernel_rfl) (by kernel_rfl) (fun _ _ _ h => h) (Or.inl ⟨by rfl, ?_⟩) (by assumption) ?_
      rotate_left
      · intro w hSw; (try dsimp only at hSw); go_simp <;> first | with_reducible rfl | (rw [if_neg (by first | omega | (simp only [ByteArray.size_append] at *; omega))])
      simp only [Act.put, List.setIfInBounds_toArray, List.set_cons_zero, List.set_cons_succ]
      refine wpAnyH_ready (rs := [21]) (by kernel_rfl) (by simp) ?_
      refine AllReadyH.cons (o := { dst := some 10, op := Go.Op.alloc 64, type := 0, pos := _, after := #[], guard := none }) rfl (fun K hK => ?_) AllReadyH.nil
      go_simp
      clear x0 x1 x2 x3 x4 bc
      have HB1 : Hid (TgI W (wr.drew.alloc (.cells #[.int .i64 0, .int .i64 0, .int .i64 0] 64)) s r g k v) := hid (HT0.out.keep ((Below.refl _ _).drew.trans ((balloc _ _).mono (Nat.le_refl _))))
      obtain ⟨x0, x1, x2, x3, x4⟩ := su_cells HB1.out.box
      have bc := (HB1.out.below.cell (p := ⟨b, o + k, none⟩) hb).trans HC0.out
      go_wp2_with fail
      refine hK.out _ _ ?_ (fun hHeld1 => ?_)
      · exact ⟨x0, x1, x2, x3, x4, bc⟩
      clear hK K
      refine wpAnyH_ready (rs := [22]) (by kernel_rfl) (by simp) ?_
      refine AllReadyH.cons (o := { dst := none, op := Go.Op.store 64 (Go.Operand.tmp 10) (Go.Operand.tmp 39), type := 0, pos := _, after := #[{ on := 21, ground := Go.Ground.data }, { on := 20, ground := Go.Ground.data }, { on := 0, ground := Go.Ground.phase }, { on := 1, ground := Go.Ground.phase }, { on := 2, ground := Go.Ground.phase }, { on := 3, ground := Go.Ground.phase }, { on := 4, ground := Go.Ground.phase }, { on := 5, ground := Go.Ground.phase }, { on := 6, ground := Go.Ground.phase }, { on := 7, ground := Go.Ground.phase }, { on := 8, ground := Go.Ground.phase }, { on := 9, ground := Go.Ground.phase }, { on := 10, ground := Go.Ground.phase }, { on := 11, ground := Go.Ground.phase }, { on := 12, ground := Go.Ground.phase }, { on := 13, ground := Go.Ground.phase }, { on := 14, ground := Go.Ground.phase }, { on := 15, ground := Go.Ground.phase }, { on := 16, ground := Go.Ground.phase }, { on := 17, ground := Go.Ground.phase }, { on := 18, ground := Go.Ground.phase }, { on := 19, ground := Go.Ground.phase }, { on := 20, ground := Go.Ground.phase }, { on := 21, ground := Go.Ground.phase }], guard := none }) rfl (fun K hK => ?_) AllReadyH.nil
      go_simp
      clear x0 x1 x2 x3 x4 bc
      have HB2 : Hid (TgI W (wr.drew.alloc (.cells (slV (q, q + g, q + g + z * s.b + s.f + g)).toArray 64)) s r g k v) := hid (HT0.out.keep ((Below.refl _ _).drew.trans ((balloc _ _).mono (Nat.le_refl _))))
      obtain ⟨x0, x1, x2, x3, x4⟩ := su_cells HB2.out.box
      have bc := (HB2.out.below.cell (p := ⟨b, o + k, none⟩) hb).trans HC0.out
      go_wp2_with fail
      refine hK.out _ _ ?_ (fun hHeld2 => ?_)
      · exact ⟨x0, x1, x2, x3, x4, bc⟩
      clear hK K
      refine wpAnyH_done (by kernel_rfl) ?_ _
      clear hHeld hHeld1 hHeld2 x0 x1 x2 x3 x4 y0 y1 y2 bc hw1 hw2 hw3 hw4 hw5 hw6 HB1 HB2
      obtain ⟨P, hP⟩ : ∃ P, P = wr.heap.size := ⟨_, rfl⟩
      have HOB : Hid (∀ b, v.ownBlock = some b → b < P) := hid (fun b e => by rw [hP]; exact (own_lo HK.out.row b e).2)
      obtain ⟨X, hX⟩ : ∃ X, X = q + g + z * s.b + s.f + g := ⟨_, rfl⟩
      rw [← hX]
      have H5 : Hid (TgI W ((wr.alloc (.cells (slC q (q + g) X) 64)).drew) s r g k v ∧ ((wr.alloc (.cells (slC q (q + g) X) 64)).drew).heap[P]? = some (.cells (slC q (q + g) X) 64 (0, 0))) := hid ⟨HK.out.keep ((balloc _ _).drew), push_new _ _ _ hP.symm⟩
      rw [← hP]
      have HPQ : Hid (W.heap.size + 1 + 1 < P) := hid (by have := HK.out.size; omega)
      have HXX : Hid (X = rdN s r g (k + 1)) := hid (by rw [HN.out]; exact hX)
      clear hP hX HK HT0 HN
      generalize ((wr.alloc (.cells (slC q (q + g) X) 64)).drew) = w5 at *
      have HNX := hid (next_cells w5 (slV (q, q + g, X)) 64)
      have H6 : Hid (TgI W (w5.alloc (.cells (slV (q, q + g, X)).toArray 64)) s r g k v ∧ (w5.alloc (.cells (slV (q, q + g, X)).toArray 64)).heap[P]? = some (.cells (slC q (q + g) X) 64 (0, 0))) := hid ⟨H5.out.1.keep (balloc _ _), push_old H5.out.2⟩
      obtain ⟨p0, p1, p2⟩ := sl_cells H5.out.2
      obtain ⟨y0, y1, y2⟩ := tb_cells H5.out.1.tab
      have hz5 := H6.out.1.size
      go_wp2_with (at_builtin
                   refine wpList_append_own_at _ rfl _ _ 25 rfl (W.heap.size + 1 + 1 + 1) 64 i0 (.agg #[.int .i64 0, .int .i64 0, .int .i64 0]) 3 24 Tryz.underlying25 hi hz0 hz1 hz2 rfl (by decide) _ _ _ rfl H6.out.1.row ⟨w5.heap.size, 0, none⟩ 1 1 (slV (q, q + g, X)) rfl rfl HNX.out (by simp [Value.oneCell']) (by unfold maxLen; omega) (by omega) hz5 ?_
                   intro v' w8 hown' hgrow _ _
                   obtain ⟨va, vc, rfl⟩ := own_form hown'
                   have HG := hid (TgI.next H6.out.1 H6.out.2 HOB.out HPQ.out HQ.out HXX.out hown' hgrow)
                   obtain ⟨u0, u1, u2⟩ := tb_cells HG.out.2.1
                   obtain ⟨q0, q1, q2⟩ := sl_cells HG.out.2.2
                   have uf := frozen_of_row _ _ 0 _ 27 HG.out.2.1
                   clear hown' hgrow)
      go_roundw
      case rel => exact ⟨k + 1, by omega, by go_num, by rw [HXX.out], _, hid HG.out.1⟩
      case measure => simp [intOf]; omega
    · have hlt' : ¬ (k : Int) < (r.length : Int) := by omega
      obtain rfl : k = r.length := by omega
      obtain ⟨va, vc, rfl⟩ := own_form HK.out.row
      clear x0 x1 x2 x3 x4
      have HF := hid HK.out.fin
      obtain ⟨q0, q1, q2⟩ := tb_cells HF.out.2.1
      have uf := frozen_of_row _ _ 1 _ 27 HK.out.tab
      obtain ⟨R, hR⟩ : ∃ R, R = rdN s r g r.length := ⟨_, rfl⟩
      have HRR : Hid (R = RD s r g) := hid hR
      rw [← hR] at HF q0 q1 q2 ⊢
      clear HK hR
      go_wp2_with (refine wpList_store_row rfl 27 _ _ rfl (W.heap.size + 1) (tbC (.slice va r.length vc) R g) rfl rfl 27 _ HF.out.1 (by kernel_rfl) rfl (by simp [Value.oneCell']) ?_)
      refine bodyPost_ret (results_cell_row rfl _ _ (W.heap.size + 1) 27 (tbC (.slice va r.length vc) R g) (0, 0) _ rfl (setRow_heap _ _ _ _ _ _ HF.out.1) Tryz.underlying27 rfl (by kernel_rfl)) rfl ?_
      exact ⟨⟨_, by rw [HRR.out], ownsRow_mono (own_carry HF.out.2.2.1 (fun b e => setRow_other _ _ _ _ (by have := (own_lo HF.out.2.2.1 b e).1; omega))) (by omega)⟩, below_row HF.out.2.2.2 HF.out.2.2.2.size (by omega) _⟩
end Go.Proofs.YtobmnndimlhfpaaGreatDoor.Slo
