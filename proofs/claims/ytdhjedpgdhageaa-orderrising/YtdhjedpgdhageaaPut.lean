/-
  The queue: a number is put.
-/
import Derived.Test.YtdhjedpgdhageaaQs
namespace Go.Proofs.Ytdhjedpgdhageaa.Ord
open Go.ChangeShapes Go.WideShapes Go.ChangeAt Go.RowKit Go.Joins
theorem dropT_cons {t : List Int} {y : Int} {ys : List Int} : dropT t (y :: ys) = if y ∈ t then dropT t ys else y :: ys := by
  unfold dropT
  rw [List.dropWhile_cons]
  by_cases h : y ∈ t
  · simp [h]
  · simp [h]
theorem wp_look {P : Program} {w : World} {o : Oper} {a : Act} {K : Act → World → Prop} {Q : Exit → Act → World → Prop} (m x : Operand) (t : TypeId) (hop : o.op = Op.lookup t m x false) {M X V : Value} (hm : a.eval m = M) (hx : a.eval x = X)
    (hrun : (Instr.lookup t M X false).run P w = .ok V w) (h : K (a.put o.dst V) w) : o.wp P a w K Q := by
  unfold Oper.wp
  simp [execOp, hop, hm, hx, hrun, Result.andThen]
  exact h
theorem wp_mapUpd {P : Program} {w w2 : World} {o : Oper} {a : Act} {K : Act → World → Prop} {Q : Exit → Act → World → Prop} (m x v : Operand) (t : TypeId) (hop : o.op = Op.mapUpdate t m x v) {M X V : Value} (hm : a.eval m = M) (hx : a.eval x = X) (hv : a.eval v = V)
    (hrun : (Instr.mapUpdate t M X V).run P w = .ok () w2) (h : K (a.put o.dst undef) w2) : o.wp P a w K Q := by
  unfold Oper.wp
  simp [execOp, hop, hm, hx, hv, hrun, Result.andThen]
  exact h
theorem bdrew (W : World) (q : Nat) : Below W.heap.size W (W.drewN q) := ⟨rfl, rfl, rfl, Nat.le_refl _, fun _ _ => rfl⟩
theorem QS.more {W : World} {lo base qb mb n k : Nat} {lv tv v : Value} {xs : List Value} {t : List Int} {V : Int → Option Sl} {L : List (List Int)} {F : Int → List Int} {R : List Int} (h : QS W lo base qb mb n k lv tv v xs t V L F R) : QS W lo base qb mb n (k + 1) lv tv v xs t V L F R :=
  { h with m := by obtain ⟨D, h1, h2⟩ := h.m; exact ⟨D, h1.mono (Nat.le_succ k), h2⟩ }
theorem Rd.tail2 {W : World} {lo b o c : Nat} {y : Int} {ys : List Int} (h : Rd W lo (.slice (some ⟨b, o, none⟩) (ys.length + 1) c) (y :: ys)) : Rd W lo (.slice (if c = 1 then some ⟨b, o, none⟩ else some ⟨b, o + 1, none⟩) ys.length (c - 1)) ys := by
  by_cases e : c = 1
  · rw [if_pos e]
    obtain ⟨ao, c', h1, h2, h3, _⟩ := h
    injection h1 with _ _ e3
    have h5 : (y :: ys).length = ys.length + 1 := rfl
    exact ⟨_, _, rfl, by omega, by omega, .inl (List.length_eq_zero_iff.1 (by omega))⟩
  · rw [if_neg e]
    exact Rd.tail h
theorem cell_of_heap {w w' : World} {b o : Nat} (h : w'.heap[b]? = w.heap[b]?) : w'.cell? ⟨b, o, none⟩ = w.cell? ⟨b, o, none⟩ := by
  unfold World.cell?
  simp only [h]
theorem push_same {w : World} {b : Nat} {o : Obj} (h : b < w.heap.size) : (w.alloc o).heap[b]? = w.heap[b]? := Below.heap_alloc _ _ _ h
def lenS : Value → Nat
  | .slice _ n _ => n
  | _ => 0
/-- What a call of put leaves. -/
structure PutE (W W' : World) (lo base qb mb n k : Nat) (lv tv v : Value) (t : List Int) (V : Int → Option Sl) (L : List (List Int)) (F : Int → List Int) (R : List Int) (x : Nat) (v' : Value) (xs' : List Value) (V' : Int → Option Sl) (F' : Int → List Int) (R' : List Int) : Prop where
  s : QS W' lo base qb mb n (k + 1) lv tv v' xs' t V' (L.set x (dropT t (L.getD x []))) F' R'
  mv : Mv W W' (own qb mb lv tv v V)
  own : ∀ i, own qb mb lv tv v' V' i → own qb mb lv tv v V i ∨ W.heap.size ≤ i
  hp : Hp R'.length R'
  told : ∀ z ∈ t, V' z = V z
  ready : dropT t (L.getD x []) = [] → R'.Perm (R ++ [(x : Int)]) ∧ F' = F
  wait : ∀ y ys, dropT t (L.getD x []) = y :: ys → R' = R ∧ F' = upF F y (x : Int)
set_option maxRecDepth 100000 in
set_option maxHeartbeats 2000000 in
theorem put_at (W : World) (lo base qb mb n k : Nat) (lv tv v : Value) (xs : List Value) (t : List Int) (V : Int → Option Sl) (L : List (List Int)) (F : Int → List Int) (R : List Int) (h : QS W lo base qb mb n k lv tv v xs t V L F R) (hH : Hp R.length R) (hn : n ≤ 1048576) (hL : L.length = n) (hk : k ≤ 1099511627776 * 4) (hR : R.length ≤ 1048576) (hF : ∀ z, (F z).length ≤ 1048576)
    (x : Nat) (hx : x < n) (hin : ∀ y ∈ L.getD x [], 0 ≤ y ∧ y < (n : Int)) :
    Calls Try.prog 19 #[.pointer (some ⟨qb, 0, none⟩), .int .i64 (x : Int)] W fun e w' => e = .returned (.tuple #[]) ∧ ∃ v' xs' V' F' R', PutE W w' lo base qb mb n k lv tv v t V L F R x v' xs' V' F' R' := by
  obtain ⟨c0, c1, c2, c3, f3⟩ := row4 h.q
  obtain ⟨xv, hxv, hrd⟩ := h.rd x hx
  obtain ⟨lb, lc, rfl, hlc, cx, fx⟩ := own_cell h.l hx hxv
  obtain ⟨tb, tc, rfl, htc, _, _⟩ := own_cell (i := x) h.t hx (x := .bool (decide ((x : Int) ∈ t))) (by rw [List.getElem?_map, TL_get hx]; rfl)
  have HT : Hid (∀ i, i < n → W.cell? ⟨tb, i, none⟩ = some (.bool (decide ((i : Int) ∈ t)))) := hid (fun i hi => by
    obtain ⟨b, c, e, _, hc, _⟩ := own_cell (i := i) h.t hi (x := .bool (decide ((i : Int) ∈ t))) (by rw [List.getElem?_map, TL_get hi]; rfl)
    injection e with e
    injection e with e
    injection e with e
    rw [e]
    exact hc)
  have HQ := hid h
  have HH := hid hH
  have HRD := hid hrd
  have HIN := hid hin
  have HLL := hid hL
  clear h hH hrd hin hL hxv
  have HG := hid (rfl : L.getD x [] = L.getD x [])
  generalize hr0 : L.getD x [] = r0 at HRD HIN
  have HR0 := hid hr0
  clear hr0 HG
  obtain ⟨ao, c, rfl, hle, hcc, _⟩ := HRD.out
  go_enter Try.func19, Try.ntmps19
  go_wp2_with (fail)
  go_loopw [4] (fun s4 wr => ∃ (r : List Int) (q : Nat), Hid (wr = W.drewN q ∧ Rd W lo s4 r ∧ dropT t r = dropT t r0 ∧ ∀ y ∈ r, y ∈ r0)) (fun s4 _ => lenS s4)
  case atStart => exact ⟨r0, 0, hid ⟨rfl, HRD.out, rfl, fun _ h => h⟩⟩
  case round =>
    obtain ⟨r, q, HL⟩ := hrel
    obtain ⟨hwr, hr, hdr, hsub⟩ := HL.out
    subst hwr
    obtain ⟨ao2, c2', rfl, hle2, hcc2, hcs⟩ := hr
    have HDR := hid hdr
    have HSUB := hid hsub
    clear hdr hsub
    cases r with
    | nil =>
      clear hcs
      simp only [List.length_nil] at *
      go_wp2_with (fail)
      refine wp_region_held_drew (S := fun V => True) (by kernel_rfl) ?_ (fun hHeld => ?_)
      · trivial
      refine wpAnyH_take (i := 0) (oi := { dst := some 12, op := Go.Op.move (Go.Operand.tmp 4), type := 25, pos := _, after := #[], guard := none }) (v := ?_) rfl (by kernel_rfl) (by kernel_rfl) (by kernel_rfl) (fun _ _ _ h => h) (Or.inl ⟨by rfl, ?_⟩) (by assumption) ?_
      rotate_left
      · intro w hSw; (try dsimp only at hSw); (try obtain ⟨hS1, hS2, hS3⟩ := hSw); go_simp <;> first | with_reducible rfl | (rw [if_neg (by first | omega | (simp only [ByteArray.size_append] at *; omega))])
      simp only [Act.put, List.setIfInBounds_toArray, List.set_cons_zero, List.set_cons_succ]
      refine wpAnyH_take (i := 1) (oi := { dst := some 13, op := Go.Op.call { callee := Go.Callee.builtin Go.Builtin.len, args := #[Go.Operand.tmp 12], argTypes := #[25] }, type := 3, pos := _, after := #[{ on := 0, ground := Go.Ground.data }], guard := none }) (v := ?_) rfl (by kernel_rfl) (by kernel_rfl) (by kernel_rfl) (fun _ _ _ h => h) (Or.inl ⟨by rfl, ?_⟩) (by assumption) ?_
      rotate_left
      · intro w hSw; (try dsimp only at hSw); (try obtain ⟨hS1, hS2, hS3⟩ := hSw); go_simp <;> first | with_reducible rfl | (rw [if_neg (by first | omega | (simp only [ByteArray.size_append] at *; omega))])
      simp only [Act.put, List.setIfInBounds_toArray, List.set_cons_zero, List.set_cons_succ]
      refine wpAnyH_take (i := 2) (oi := { dst := some 14, op := Go.Op.binOp Go.BinOp.gtr 3 (Go.Operand.tmp 13) (Go.Operand.const (Go.Value.int Go.IntKind.i64 0)) 3, type := 4, pos := _, after := #[{ on := 1, ground := Go.Ground.data }], guard := none }) (v := ?_) rfl (by kernel_rfl) (by kernel_rfl) (by kernel_rfl) (fun _ _ _ h => h) (Or.inl ⟨by rfl, ?_⟩) (by assumption) ?_
      rotate_left
      · intro w hSw; (try dsimp only at hSw); (try obtain ⟨hS1, hS2, hS3⟩ := hSw); go_simp <;> first | with_reducible rfl | (rw [if_neg (by first | omega | (simp only [ByteArray.size_append] at *; omega))])
      simp only [Act.put, List.setIfInBounds_toArray, List.set_cons_zero, List.set_cons_succ]
      refine wpAnyH_take (i := 3) (oi := { dst := some 15, op := Go.Op.move (Go.Operand.tmp 14), type := 4, pos := _, after := #[{ on := 2, ground := Go.Ground.data }], guard := none }) (v := ?_) rfl (by kernel_rfl) (by kernel_rfl) (by kernel_rfl) (fun _ _ _ h => h) (Or.inl ⟨by rfl, ?_⟩) (by assumption) ?_
      rotate_left
      · intro w hSw; (try dsimp only at hSw); (try obtain ⟨hS1, hS2, hS3⟩ := hSw); go_simp <;> first | with_reducible rfl | (rw [if_neg (by first | omega | (simp only [ByteArray.size_append] at *; omega))])
      simp only [Act.put, List.setIfInBounds_toArray, List.set_cons_zero, List.set_cons_succ]
      refine wpAnyH_take (i := 4) (oi := { dst := some 16, op := Go.Op.move (Go.Operand.tmp 0), type := 37, pos := _, after := #[{ on := 3, ground := Go.Ground.guard }], guard := some (3, true) }) (v := undef) rfl (by kernel_rfl) (by kernel_rfl) (by kernel_rfl) (fun _ _ _ h => h) (Or.inr ⟨by rfl, rfl⟩) (by assumption) ?_
      simp only [Act.put, List.setIfInBounds_toArray, List.set_cons_zero, List.set_cons_succ]
      refine wpAnyH_take (i := 5) (oi := { dst := some 17, op := Go.Op.nilCheck (Go.Operand.tmp 16), type := 0, pos := _, after := #[{ on := 4, ground := Go.Ground.data }, { on := 3, ground := Go.Ground.guard }], guard := some (3, true) }) (v := undef) rfl (by kernel_rfl) (by kernel_rfl) (by kernel_rfl) (fun _ _ _ h => h) (Or.inr ⟨by rfl, rfl⟩) (by assumption) ?_
      simp only [Act.put, List.setIfInBounds_toArray, List.set_cons_zero, List.set_cons_succ]
      refine wpAnyH_take (i := 6) (oi := { dst := some 18, op := Go.Op.fieldAddr 45 (Go.Operand.tmp 17) 1, type := 0, pos := _, after := #[{ on := 5, ground := Go.Ground.data }, { on := 3, ground := Go.Ground.guard }], guard := some (3, true) }) (v := undef) rfl (by kernel_rfl) (by kernel_rfl) (by kernel_rfl) (fun _ _ _ h => h) (Or.inr ⟨by rfl, rfl⟩) (by assumption) ?_
      simp only [Act.put, List.setIfInBounds_toArray, List.set_cons_zero, List.set_cons_succ]
      refine wpAnyH_take (i := 7) (oi := { dst := some 19, op := Go.Op.load 41 (Go.Operand.tmp 18), type := 41, pos := _, after := #[{ on := 6, ground := Go.Ground.data }, { on := 3, ground := Go.Ground.guard }], guard := some (3, true) }) (v := undef) rfl (by kernel_rfl) (by kernel_rfl) (by kernel_rfl) (fun _ _ _ h => h) (Or.inr ⟨by rfl, rfl⟩) (by assumption) ?_
      simp only [Act.put, List.setIfInBounds_toArray, List.set_cons_zero, List.set_cons_succ]
      refine wpAnyH_take (i := 8) (oi := { dst := some 20, op := Go.Op.move (Go.Operand.tmp 4), type := 25, pos := _, after := #[{ on := 3, ground := Go.Ground.guard }], guard := some (3, true) }) (v := undef) rfl (by kernel_rfl) (by kernel_rfl) (by kernel_rfl) (fun _ _ _ h => h) (Or.inr ⟨by rfl, rfl⟩) (by assumption) ?_
      simp only [Act.put, List.setIfInBounds_toArray, List.set_cons_zero, List.set_cons_succ]
      refine wpAnyH_take (i := 9) (oi := { dst := some 21, op := Go.Op.indexAddr 25 (Go.Operand.tmp 20) (Go.Operand.const (Go.Value.int Go.IntKind.i64 0)), type := 0, pos := _, after := #[{ on := 8, ground := Go.Ground.data }, { on := 3, ground := Go.Ground.guard }], guard := some (3, true) }) (v := undef) rfl (by kernel_rfl) (by kernel_rfl) (by kernel_rfl) (fun _ _ _ h => h) (Or.inr ⟨by rfl, rfl⟩) (by assumption) ?_
      simp only [Act.put, List.setIfInBounds_toArray, List.set_cons_zero, List.set_cons_succ]
      refine wpAnyH_take (i := 10) (oi := { dst := some 22, op := Go.Op.load 3 (Go.Operand.tmp 21), type := 3, pos := _, after := #[{ on := 9, ground := Go.Ground.data }, { on := 3, ground := Go.Ground.guard }], guard := some (3, true) }) (v := undef) rfl (by kernel_rfl) (by kernel_rfl) (by kernel_rfl) (fun _ _ _ h => h) (Or.inr ⟨by rfl, rfl⟩) (by assumption) ?_
      simp only [Act.put, List.setIfInBounds_toArray, List.set_cons_zero, List.set_cons_succ]
      refine wpAnyH_take (i := 11) (oi := { dst := some 23, op := Go.Op.indexAddr 41 (Go.Operand.tmp 19) (Go.Operand.tmp 22), type := 0, pos := _, after := #[{ on := 7, ground := Go.Ground.data }, { on := 10, ground := Go.Ground.data }, { on := 3, ground := Go.Ground.guard }], guard := some (3, true) }) (v := undef) rfl (by kernel_rfl) (by kernel_rfl) (by kernel_rfl) (fun _ _ _ h => h) (Or.inr ⟨by rfl, rfl⟩) (by assumption) ?_
      simp only [Act.put, List.setIfInBounds_toArray, List.set_cons_zero, List.set_cons_succ]
      refine wpAnyH_take (i := 12) (oi := { dst := some 24, op := Go.Op.load 4 (Go.Operand.tmp 23), type := 4, pos := _, after := #[{ on := 11, ground := Go.Ground.data }, { on := 3, ground := Go.Ground.guard }], guard := some (3, true) }) (v := undef) rfl (by kernel_rfl) (by kernel_rfl) (by kernel_rfl) (fun _ _ _ h => h) (Or.inr ⟨by rfl, rfl⟩) (by assumption) ?_
      simp only [Act.put, List.setIfInBounds_toArray, List.set_cons_zero, List.set_cons_succ]
      refine wpAnyH_take (i := 13) (oi := { dst := some 25, op := Go.Op.pick (Go.Operand.tmp 15) (Go.Operand.tmp 24) (Go.Operand.const (Go.Value.bool false)), type := 4, pos := _, after := #[{ on := 3, ground := Go.Ground.data }, { on := 12, ground := Go.Ground.data }], guard := none }) (v := ?_) rfl (by kernel_rfl) (by kernel_rfl) (by kernel_rfl) (fun _ _ _ h => h) (Or.inl ⟨by rfl, ?_⟩) (by assumption) ?_
      rotate_left
      · intro w hSw; (try dsimp only at hSw); (try obtain ⟨hS1, hS2, hS3⟩ := hSw); go_simp <;> first | with_reducible rfl | (rw [if_neg (by first | omega | (simp only [ByteArray.size_append] at *; omega))])
      simp only [Act.put, List.setIfInBounds_toArray, List.set_cons_zero, List.set_cons_succ]
      refine wpAnyH_done (by kernel_rfl) ?_ _
      go_wp2_with (fail)
      have HB := hid (bdrew W (q + 1))
      have HQ1 := hid (HQ.out.below HB.out)
      have HQ2 := hid (HQ1.out.stored (x := .slice ao2 0 c2') (r := []) rfl hx (by have := HLL.out; omega) ⟨ao2, c2', rfl, Nat.zero_le _, hcc2, .inl rfl⟩)
      have HM2 := hid ((Mv.ofBelow (S := own qb mb (.slice (some ⟨lb, 0, none⟩) n lc) (.slice (some ⟨tb, 0, none⟩) n tc) v V) HB.out).trans (stored_own (W := W.drewN (q + 1)) (i := x) (qb := qb) (mb := mb) (tv := .slice (some ⟨tb, 0, none⟩) n tc) (v := v) (V := V) (n := n) (c := lc) (b := lb) rfl (.slice ao2 0 c2')) (fun i hi => .inl hi))
      generalize ((W.drewN (q + 1)).setCell ⟨lb, x, none⟩ (.slice ao2 0 c2')) = W2 at *
      refine (push_at qb base HQ2.out.qb_.2 R _ _ _ v W2 HQ2.out.q HQ2.out.r HH.out HQ2.out.lob.2 (x : Int) hR).mono ?_
      rintro e w3 ⟨rfl, v', R', hP, hperm, hH'⟩
      have HP := hid hP
      clear hP
      go_wp2_with (fail)
      (try simp only [Exit.inBlock, Exit.then])
      refine bodyPost_ret (results_none rfl _ _ _) rfl ?_
      have hown := pushed_own (V := V) HP.out
      refine ⟨rfl, v', xs.set x (.slice ao2 0 c2'), V, F, R', ⟨?_, ?_, ?_, hH', fun _ _ => rfl, fun _ => ⟨hperm, rfl⟩, fun y ys e => ?_⟩⟩
      · rw [HR0.out, ← HDR.out]
        exact (HQ2.out.pushed HP.out).more
      · exact HM2.out.trans hown.1 (fun i hi => .inl hi)
      · exact fun i hi => (hown.2 i hi).imp id (fun e => Nat.le_trans HM2.out.size e)
      · rw [HR0.out, ← HDR.out] at e
        cases e
    | cons y ys =>
      obtain ⟨yb, yo, rfl, hyb, hyc⟩ := hcs.resolve_left (by simp)
      obtain ⟨y0, y1⟩ := HIN.out y (HSUB.out y (by simp))
      obtain ⟨yn, rfl⟩ := Int.eq_ofNat_of_zero_le y0
      have hyn : yn < n := by omega
      have cy : W.cell? ⟨yb, yo, none⟩ = some (.int .i64 (yn : Int)) := hyc 0 (by simp)
      have ct := HT.out yn hyn
      have hpos : 0 < (ys.length + 1) := by omega
      have HRY : Hid (Rd W lo (.slice (some ⟨yb, yo, none⟩) ((yn : Int) :: ys).length c2') ((yn : Int) :: ys)) := hid ⟨_, c2', rfl, hle2, hcc2, .inr ⟨yb, yo, rfl, hyb, hyc⟩⟩
      simp only [List.length_cons] at *
      clear hyc
      by_cases hy : (yn : Int) ∈ t
      · have hy' : decide ((yn : Int) ∈ t) = true := by simpa using hy
        have HDD := hid (dropT_cons (t := t) (y := (yn : Int)) (ys := ys))
        rw [if_pos hy] at HDD
        go_wp2_with (fail)
        refine wp_region_held_drew (S := fun V => V.cell? ⟨qb, 1, none⟩ = some (.slice (some ⟨tb, 0, none⟩) n tc) ∧ V.cell? ⟨yb, yo, none⟩ = some (.int .i64 (yn : Int)) ∧ V.cell? ⟨tb, yn, none⟩ = some (.bool (decide ((yn : Int) ∈ t)))) (by kernel_rfl) ?_ (fun hHeld => ?_)
        · exact ⟨c1, cy, ct⟩
        refine wpAnyH_take (i := 0) (oi := { dst := some 12, op := Go.Op.move (Go.Operand.tmp 4), type := 25, pos := _, after := #[], guard := none }) (v := ?_) rfl (by kernel_rfl) (by kernel_rfl) (by kernel_rfl) (fun _ _ _ h => h) (Or.inl ⟨by rfl, ?_⟩) (by assumption) ?_
        rotate_left
        · intro w hSw; (try dsimp only at hSw); (try obtain ⟨hS1, hS2, hS3⟩ := hSw); go_simp <;> first | with_reducible rfl | (rw [if_neg (by first | omega | (simp only [ByteArray.size_append] at *; omega))])
        simp only [Act.put, List.setIfInBounds_toArray, List.set_cons_zero, List.set_cons_succ]
        refine wpAnyH_take (i := 1) (oi := { dst := some 13, op := Go.Op.call { callee := Go.Callee.builtin Go.Builtin.len, args := #[Go.Operand.tmp 12], argTypes := #[25] }, type := 3, pos := _, after := #[{ on := 0, ground := Go.Ground.data }], guard := none }) (v := ?_) rfl (by kernel_rfl) (by kernel_rfl) (by kernel_rfl) (fun _ _ _ h => h) (Or.inl ⟨by rfl, ?_⟩) (by assumption) ?_
        rotate_left
        · intro w hSw; (try dsimp only at hSw); (try obtain ⟨hS1, hS2, hS3⟩ := hSw); go_simp <;> first | with_reducible rfl | (rw [if_neg (by first | omega | (simp only [ByteArray.size_append] at *; omega))])
        simp only [Act.put, List.setIfInBounds_toArray, List.set_cons_zero, List.set_cons_succ]
        refine wpAnyH_take (i := 2) (oi := { dst := some 14, op := Go.Op.binOp Go.BinOp.gtr 3 (Go.Operand.tmp 13) (Go.Operand.const (Go.Value.int Go.IntKind.i64 0)) 3, type := 4, pos := _, after := #[{ on := 1, ground := Go.Ground.data }], guard := none }) (v := ?_) rfl (by kernel_rfl) (by kernel_rfl) (by kernel_rfl) (fun _ _ _ h => h) (Or.inl ⟨by rfl, ?_⟩) (by assumption) ?_
        rotate_left
        · intro w hSw; (try dsimp only at hSw); (try obtain ⟨hS1, hS2, hS3⟩ := hSw); go_simp <;> first | with_reducible rfl | (rw [if_neg (by first | omega | (simp only [ByteArray.size_append] at *; omega))])
        simp only [Act.put, List.setIfInBounds_toArray, List.set_cons_zero, List.set_cons_succ]
        refine wpAnyH_take (i := 3) (oi := { dst := some 15, op := Go.Op.move (Go.Operand.tmp 14), type := 4, pos := _, after := #[{ on := 2, ground := Go.Ground.data }], guard := none }) (v := ?_) rfl (by kernel_rfl) (by kernel_rfl) (by kernel_rfl) (fun _ _ _ h => h) (Or.inl ⟨by rfl, ?_⟩) (by assumption) ?_
        rotate_left
        · intro w hSw; (try dsimp only at hSw); (try obtain ⟨hS1, hS2, hS3⟩ := hSw); go_simp <;> first | with_reducible rfl | (rw [if_neg (by first | omega | (simp only [ByteArray.size_append] at *; omega))])
        simp only [Act.put, List.setIfInBounds_toArray, List.set_cons_zero, List.set_cons_succ]
        refine wpAnyH_take (i := 4) (oi := { dst := some 16, op := Go.Op.move (Go.Operand.tmp 0), type := 37, pos := _, after := #[{ on := 3, ground := Go.Ground.guard }], guard := some (3, true) }) (v := ?_) rfl (by kernel_rfl) (by kernel_rfl) (by kernel_rfl) (fun _ _ _ h => h) (Or.inl ⟨by rfl, ?_⟩) (by assumption) ?_
        rotate_left
        · intro w hSw; (try dsimp only at hSw); (try obtain ⟨hS1, hS2, hS3⟩ := hSw); go_simp <;> first | with_reducible rfl | (rw [if_neg (by first | omega | (simp only [ByteArray.size_append] at *; omega))])
        simp only [Act.put, List.setIfInBounds_toArray, List.set_cons_zero, List.set_cons_succ]
        refine wpAnyH_take (i := 5) (oi := { dst := some 17, op := Go.Op.nilCheck (Go.Operand.tmp 16), type := 0, pos := _, after := #[{ on := 4, ground := Go.Ground.data }, { on := 3, ground := Go.Ground.guard }], guard := some (3, true) }) (v := ?_) rfl (by kernel_rfl) (by kernel_rfl) (by kernel_rfl) (fun _ _ _ h => h) (Or.inl ⟨by rfl, ?_⟩) (by assumption) ?_
        rotate_left
        · intro w hSw; (try dsimp only at hSw); (try obtain ⟨hS1, hS2, hS3⟩ := hSw); go_simp <;> first | with_reducible rfl | (rw [if_neg (by first | omega | (simp only [ByteArray.size_append] at *; omega))])
        simp only [Act.put, List.setIfInBounds_toArray, List.set_cons_zero, List.set_cons_succ]
        refine wpAnyH_take (i := 6) (oi := { dst := some 18, op := Go.Op.fieldAddr 45 (Go.Operand.tmp 17) 1, type := 0, pos := _, after := #[{ on := 5, ground := Go.Ground.data }, { on := 3, ground := Go.Ground.guard }], guard := some (3, true) }) (v := ?_) rfl (by kernel_rfl) (by kernel_rfl) (by kernel_rfl) (fun _ _ _ h => h) (Or.inl ⟨by rfl, ?_⟩) (by assumption) ?_
        rotate_left
        · intro w hSw; (try dsimp only at hSw); (try obtain ⟨hS1, hS2, hS3⟩ := hSw); go_simp <;> first | with_reducible rfl | (rw [if_neg (by first | omega | (simp only [ByteArray.size_append] at *; omega))])
        simp only [Act.put, List.setIfInBounds_toArray, List.set_cons_zero, List.set_cons_succ]
        refine wpAnyH_take (i := 7) (oi := { dst := some 19, op := Go.Op.load 41 (Go.Operand.tmp 18), type := 41, pos := _, after := #[{ on := 6, ground := Go.Ground.data }, { on := 3, ground := Go.Ground.guard }], guard := some (3, true) }) (v := ?_) rfl (by kernel_rfl) (by kernel_rfl) (by kernel_rfl) (fun _ _ _ h => h) (Or.inl ⟨by rfl, ?_⟩) (by assumption) ?_
        rotate_left
        · intro w hSw; (try dsimp only at hSw); (try obtain ⟨hS1, hS2, hS3⟩ := hSw); go_simp <;> first | with_reducible rfl | (rw [if_neg (by first | omega | (simp only [ByteArray.size_append] at *; omega))])
        simp only [Act.put, List.setIfInBounds_toArray, List.set_cons_zero, List.set_cons_succ]
        refine wpAnyH_take (i := 8) (oi := { dst := some 20, op := Go.Op.move (Go.Operand.tmp 4), type := 25, pos := _, after := #[{ on := 3, ground := Go.Ground.guard }], guard := some (3, true) }) (v := ?_) rfl (by kernel_rfl) (by kernel_rfl) (by kernel_rfl) (fun _ _ _ h => h) (Or.inl ⟨by rfl, ?_⟩) (by assumption) ?_
        rotate_left
        · intro w hSw; (try dsimp only at hSw); (try obtain ⟨hS1, hS2, hS3⟩ := hSw); go_simp <;> first | with_reducible rfl | (rw [if_neg (by first | omega | (simp only [ByteArray.size_append] at *; omega))])
        simp only [Act.put, List.setIfInBounds_toArray, List.set_cons_zero, List.set_cons_succ]
        refine wpAnyH_take (i := 9) (oi := { dst := some 21, op := Go.Op.indexAddr 25 (Go.Operand.tmp 20) (Go.Operand.const (Go.Value.int Go.IntKind.i64 0)), type := 0, pos := _, after := #[{ on := 8, ground := Go.Ground.data }, { on := 3, ground := Go.Ground.guard }], guard := some (3, true) }) (v := ?_) rfl (by kernel_rfl) (by kernel_rfl) (by kernel_rfl) (fun _ _ _ h => h) (Or.inl ⟨by rfl, ?_⟩) (by assumption) ?_
        rotate_left
        · intro w hSw; (try dsimp only at hSw); (try obtain ⟨hS1, hS2, hS3⟩ := hSw); go_simp <;> first | with_reducible rfl | (rw [if_neg (by first | omega | (simp only [ByteArray.size_append] at *; omega))])
        simp only [Act.put, List.setIfInBounds_toArray, List.set_cons_zero, List.set_cons_succ]
        refine wpAnyH_take (i := 10) (oi := { dst := some 22, op := Go.Op.load 3 (Go.Operand.tmp 21), type := 3, pos := _, after := #[{ on := 9, ground := Go.Ground.data }, { on := 3, ground := Go.Ground.guard }], guard := some (3, true) }) (v := ?_) rfl (by kernel_rfl) (by kernel_rfl) (by kernel_rfl) (fun _ _ _ h => h) (Or.inl ⟨by rfl, ?_⟩) (by assumption) ?_
        rotate_left
        · intro w hSw; (try dsimp only at hSw); (try obtain ⟨hS1, hS2, hS3⟩ := hSw); go_simp <;> first | with_reducible rfl | (rw [if_neg (by first | omega | (simp only [ByteArray.size_append] at *; omega))])
        simp only [Act.put, List.setIfInBounds_toArray, List.set_cons_zero, List.set_cons_succ]
        refine wpAnyH_take (i := 11) (oi := { dst := some 23, op := Go.Op.indexAddr 41 (Go.Operand.tmp 19) (Go.Operand.tmp 22), type := 0, pos := _, after := #[{ on := 7, ground := Go.Ground.data }, { on := 10, ground := Go.Ground.data }, { on := 3, ground := Go.Ground.guard }], guard := some (3, true) }) (v := ?_) rfl (by kernel_rfl) (by kernel_rfl) (by kernel_rfl) (fun _ _ _ h => h) (Or.inl ⟨by rfl, ?_⟩) (by assumption) ?_
        rotate_left
        · intro w hSw; (try dsimp only at hSw); (try obtain ⟨hS1, hS2, hS3⟩ := hSw); go_simp <;> first | with_reducible rfl | (rw [if_neg (by first | omega | (simp only [ByteArray.size_append] at *; omega))])
        simp only [Act.put, List.setIfInBounds_toArray, List.set_cons_zero, List.set_cons_succ]
        refine wpAnyH_take (i := 12) (oi := { dst := some 24, op := Go.Op.load 4 (Go.Operand.tmp 23), type := 4, pos := _, after := #[{ on := 11, ground := Go.Ground.data }, { on := 3, ground := Go.Ground.guard }], guard := some (3, true) }) (v := ?_) rfl (by kernel_rfl) (by kernel_rfl) (by kernel_rfl) (fun _ _ _ h => h) (Or.inl ⟨by rfl, ?_⟩) (by assumption) ?_
        rotate_left
        · intro w hSw; (try dsimp only at hSw); (try obtain ⟨hS1, hS2, hS3⟩ := hSw); go_simp <;> first | with_reducible rfl | (rw [if_neg (by first | omega | (simp only [ByteArray.size_append] at *; omega))])
        simp only [Act.put, List.setIfInBounds_toArray, List.set_cons_zero, List.set_cons_succ]
        refine wpAnyH_take (i := 13) (oi := { dst := some 25, op := Go.Op.pick (Go.Operand.tmp 15) (Go.Operand.tmp 24) (Go.Operand.const (Go.Value.bool false)), type := 4, pos := _, after := #[{ on := 3, ground := Go.Ground.data }, { on := 12, ground := Go.Ground.data }], guard := none }) (v := ?_) rfl (by kernel_rfl) (by kernel_rfl) (by kernel_rfl) (fun _ _ _ h => h) (Or.inl ⟨by rfl, ?_⟩) (by assumption) ?_
        rotate_left
        · intro w hSw; (try dsimp only at hSw); (try obtain ⟨hS1, hS2, hS3⟩ := hSw); go_simp <;> first | with_reducible rfl | (rw [if_neg (by first | omega | (simp only [ByteArray.size_append] at *; omega))])
        simp only [Act.put, List.setIfInBounds_toArray, List.set_cons_zero, List.set_cons_succ]
        refine wpAnyH_done (by kernel_rfl) ?_ _
        go_wp2_with (fail)
        refine ⟨⟨ys, q + 1, hid ⟨rfl, HRY.out.tail2, ?_, fun y hy => HSUB.out y (by simp [hy])⟩⟩, by simp [lenS]⟩
        rw [← HDD.out]
        exact HDR.out
      · have hy' : decide ((yn : Int) ∈ t) = false := by simpa using hy
        have HDD := hid (dropT_cons (t := t) (y := (yn : Int)) (ys := ys))
        rw [if_neg hy] at HDD
        rw [HDD.out] at HDR
        go_wp2_with (fail)
        refine wp_region_held_drew (S := fun V => V.cell? ⟨qb, 1, none⟩ = some (.slice (some ⟨tb, 0, none⟩) n tc) ∧ V.cell? ⟨yb, yo, none⟩ = some (.int .i64 (yn : Int)) ∧ V.cell? ⟨tb, yn, none⟩ = some (.bool (decide ((yn : Int) ∈ t)))) (by kernel_rfl) ?_ (fun hHeld => ?_)
        · exact ⟨c1, cy, ct⟩
        refine wpAnyH_take (i := 0) (oi := { dst := some 12, op := Go.Op.move (Go.Operand.tmp 4), type := 25, pos := _, after := #[], guard := none }) (v := ?_) rfl (by kernel_rfl) (by kernel_rfl) (by kernel_rfl) (fun _ _ _ h => h) (Or.inl ⟨by rfl, ?_⟩) (by assumption) ?_
        rotate_left
        · intro w hSw; (try dsimp only at hSw); (try obtain ⟨hS1, hS2, hS3⟩ := hSw); go_simp <;> first | with_reducible rfl | (rw [if_neg (by first | omega | (simp only [ByteArray.size_append] at *; omega))])
        simp only [Act.put, List.setIfInBounds_toArray, List.set_cons_zero, List.set_cons_succ]
        refine wpAnyH_take (i := 1) (oi := { dst := some 13, op := Go.Op.call { callee := Go.Callee.builtin Go.Builtin.len, args := #[Go.Operand.tmp 12], argTypes := #[25] }, type := 3, pos := _, after := #[{ on := 0, ground := Go.Ground.data }], guard := none }) (v := ?_) rfl (by kernel_rfl) (by kernel_rfl) (by kernel_rfl) (fun _ _ _ h => h) (Or.inl ⟨by rfl, ?_⟩) (by assumption) ?_
        rotate_left
        · intro w hSw; (try dsimp only at hSw); (try obtain ⟨hS1, hS2, hS3⟩ := hSw); go_simp <;> first | with_reducible rfl | (rw [if_neg (by first | omega | (simp only [ByteArray.size_append] at *; omega))])
        simp only [Act.put, List.setIfInBounds_toArray, List.set_cons_zero, List.set_cons_succ]
        refine wpAnyH_take (i := 2) (oi := { dst := some 14, op := Go.Op.binOp Go.BinOp.gtr 3 (Go.Operand.tmp 13) (Go.Operand.const (Go.Value.int Go.IntKind.i64 0)) 3, type := 4, pos := _, after := #[{ on := 1, ground := Go.Ground.data }], guard := none }) (v := ?_) rfl (by kernel_rfl) (by kernel_rfl) (by kernel_rfl) (fun _ _ _ h => h) (Or.inl ⟨by rfl, ?_⟩) (by assumption) ?_
        rotate_left
        · intro w hSw; (try dsimp only at hSw); (try obtain ⟨hS1, hS2, hS3⟩ := hSw); go_simp <;> first | with_reducible rfl | (rw [if_neg (by first | omega | (simp only [ByteArray.size_append] at *; omega))])
        simp only [Act.put, List.setIfInBounds_toArray, List.set_cons_zero, List.set_cons_succ]
        refine wpAnyH_take (i := 3) (oi := { dst := some 15, op := Go.Op.move (Go.Operand.tmp 14), type := 4, pos := _, after := #[{ on := 2, ground := Go.Ground.data }], guard := none }) (v := ?_) rfl (by kernel_rfl) (by kernel_rfl) (by kernel_rfl) (fun _ _ _ h => h) (Or.inl ⟨by rfl, ?_⟩) (by assumption) ?_
        rotate_left
        · intro w hSw; (try dsimp only at hSw); (try obtain ⟨hS1, hS2, hS3⟩ := hSw); go_simp <;> first | with_reducible rfl | (rw [if_neg (by first | omega | (simp only [ByteArray.size_append] at *; omega))])
        simp only [Act.put, List.setIfInBounds_toArray, List.set_cons_zero, List.set_cons_succ]
        refine wpAnyH_take (i := 4) (oi := { dst := some 16, op := Go.Op.move (Go.Operand.tmp 0), type := 37, pos := _, after := #[{ on := 3, ground := Go.Ground.guard }], guard := some (3, true) }) (v := ?_) rfl (by kernel_rfl) (by kernel_rfl) (by kernel_rfl) (fun _ _ _ h => h) (Or.inl ⟨by rfl, ?_⟩) (by assumption) ?_
        rotate_left
        · intro w hSw; (try dsimp only at hSw); (try obtain ⟨hS1, hS2, hS3⟩ := hSw); go_simp <;> first | with_reducible rfl | (rw [if_neg (by first | omega | (simp only [ByteArray.size_append] at *; omega))])
        simp only [Act.put, List.setIfInBounds_toArray, List.set_cons_zero, List.set_cons_succ]
        refine wpAnyH_take (i := 5) (oi := { dst := some 17, op := Go.Op.nilCheck (Go.Operand.tmp 16), type := 0, pos := _, after := #[{ on := 4, ground := Go.Ground.data }, { on := 3, ground := Go.Ground.guard }], guard := some (3, true) }) (v := ?_) rfl (by kernel_rfl) (by kernel_rfl) (by kernel_rfl) (fun _ _ _ h => h) (Or.inl ⟨by rfl, ?_⟩) (by assumption) ?_
        rotate_left
        · intro w hSw; (try dsimp only at hSw); (try obtain ⟨hS1, hS2, hS3⟩ := hSw); go_simp <;> first | with_reducible rfl | (rw [if_neg (by first | omega | (simp only [ByteArray.size_append] at *; omega))])
        simp only [Act.put, List.setIfInBounds_toArray, List.set_cons_zero, List.set_cons_succ]
        refine wpAnyH_take (i := 6) (oi := { dst := some 18, op := Go.Op.fieldAddr 45 (Go.Operand.tmp 17) 1, type := 0, pos := _, after := #[{ on := 5, ground := Go.Ground.data }, { on := 3, ground := Go.Ground.guard }], guard := some (3, true) }) (v := ?_) rfl (by kernel_rfl) (by kernel_rfl) (by kernel_rfl) (fun _ _ _ h => h) (Or.inl ⟨by rfl, ?_⟩) (by assumption) ?_
        rotate_left
        · intro w hSw; (try dsimp only at hSw); (try obtain ⟨hS1, hS2, hS3⟩ := hSw); go_simp <;> first | with_reducible rfl | (rw [if_neg (by first | omega | (simp only [ByteArray.size_append] at *; omega))])
        simp only [Act.put, List.setIfInBounds_toArray, List.set_cons_zero, List.set_cons_succ]
        refine wpAnyH_take (i := 7) (oi := { dst := some 19, op := Go.Op.load 41 (Go.Operand.tmp 18), type := 41, pos := _, after := #[{ on := 6, ground := Go.Ground.data }, { on := 3, ground := Go.Ground.guard }], guard := some (3, true) }) (v := ?_) rfl (by kernel_rfl) (by kernel_rfl) (by kernel_rfl) (fun _ _ _ h => h) (Or.inl ⟨by rfl, ?_⟩) (by assumption) ?_
        rotate_left
        · intro w hSw; (try dsimp only at hSw); (try obtain ⟨hS1, hS2, hS3⟩ := hSw); go_simp <;> first | with_reducible rfl | (rw [if_neg (by first | omega | (simp only [ByteArray.size_append] at *; omega))])
        simp only [Act.put, List.setIfInBounds_toArray, List.set_cons_zero, List.set_cons_succ]
        refine wpAnyH_take (i := 8) (oi := { dst := some 20, op := Go.Op.move (Go.Operand.tmp 4), type := 25, pos := _, after := #[{ on := 3, ground := Go.Ground.guard }], guard := some (3, true) }) (v := ?_) rfl (by kernel_rfl) (by kernel_rfl) (by kernel_rfl) (fun _ _ _ h => h) (Or.inl ⟨by rfl, ?_⟩) (by assumption) ?_
        rotate_left
        · intro w hSw; (try dsimp only at hSw); (try obtain ⟨hS1, hS2, hS3⟩ := hSw); go_simp <;> first | with_reducible rfl | (rw [if_neg (by first | omega | (simp only [ByteArray.size_append] at *; omega))])
        simp only [Act.put, List.setIfInBounds_toArray, List.set_cons_zero, List.set_cons_succ]
        refine wpAnyH_take (i := 9) (oi := { dst := some 21, op := Go.Op.indexAddr 25 (Go.Operand.tmp 20) (Go.Operand.const (Go.Value.int Go.IntKind.i64 0)), type := 0, pos := _, after := #[{ on := 8, ground := Go.Ground.data }, { on := 3, ground := Go.Ground.guard }], guard := some (3, true) }) (v := ?_) rfl (by kernel_rfl) (by kernel_rfl) (by kernel_rfl) (fun _ _ _ h => h) (Or.inl ⟨by rfl, ?_⟩) (by assumption) ?_
        rotate_left
        · intro w hSw; (try dsimp only at hSw); (try obtain ⟨hS1, hS2, hS3⟩ := hSw); go_simp <;> first | with_reducible rfl | (rw [if_neg (by first | omega | (simp only [ByteArray.size_append] at *; omega))])
        simp only [Act.put, List.setIfInBounds_toArray, List.set_cons_zero, List.set_cons_succ]
        refine wpAnyH_take (i := 10) (oi := { dst := some 22, op := Go.Op.load 3 (Go.Operand.tmp 21), type := 3, pos := _, after := #[{ on := 9, ground := Go.Ground.data }, { on := 3, ground := Go.Ground.guard }], guard := some (3, true) }) (v := ?_) rfl (by kernel_rfl) (by kernel_rfl) (by kernel_rfl) (fun _ _ _ h => h) (Or.inl ⟨by rfl, ?_⟩) (by assumption) ?_
        rotate_left
        · intro w hSw; (try dsimp only at hSw); (try obtain ⟨hS1, hS2, hS3⟩ := hSw); go_simp <;> first | with_reducible rfl | (rw [if_neg (by first | omega | (simp only [ByteArray.size_append] at *; omega))])
        simp only [Act.put, List.setIfInBounds_toArray, List.set_cons_zero, List.set_cons_succ]
        refine wpAnyH_take (i := 11) (oi := { dst := some 23, op := Go.Op.indexAddr 41 (Go.Operand.tmp 19) (Go.Operand.tmp 22), type := 0, pos := _, after := #[{ on := 7, ground := Go.Ground.data }, { on := 10, ground := Go.Ground.data }, { on := 3, ground := Go.Ground.guard }], guard := some (3, true) }) (v := ?_) rfl (by kernel_rfl) (by kernel_rfl) (by kernel_rfl) (fun _ _ _ h => h) (Or.inl ⟨by rfl, ?_⟩) (by assumption) ?_
        rotate_left
        · intro w hSw; (try dsimp only at hSw); (try obtain ⟨hS1, hS2, hS3⟩ := hSw); go_simp <;> first | with_reducible rfl | (rw [if_neg (by first | omega | (simp only [ByteArray.size_append] at *; omega))])
        simp only [Act.put, List.setIfInBounds_toArray, List.set_cons_zero, List.set_cons_succ]
        refine wpAnyH_take (i := 12) (oi := { dst := some 24, op := Go.Op.load 4 (Go.Operand.tmp 23), type := 4, pos := _, after := #[{ on := 11, ground := Go.Ground.data }, { on := 3, ground := Go.Ground.guard }], guard := some (3, true) }) (v := ?_) rfl (by kernel_rfl) (by kernel_rfl) (by kernel_rfl) (fun _ _ _ h => h) (Or.inl ⟨by rfl, ?_⟩) (by assumption) ?_
        rotate_left
        · intro w hSw; (try dsimp only at hSw); (try obtain ⟨hS1, hS2, hS3⟩ := hSw); go_simp <;> first | with_reducible rfl | (rw [if_neg (by first | omega | (simp only [ByteArray.size_append] at *; omega))])
        simp only [Act.put, List.setIfInBounds_toArray, List.set_cons_zero, List.set_cons_succ]
        refine wpAnyH_take (i := 13) (oi := { dst := some 25, op := Go.Op.pick (Go.Operand.tmp 15) (Go.Operand.tmp 24) (Go.Operand.const (Go.Value.bool false)), type := 4, pos := _, after := #[{ on := 3, ground := Go.Ground.data }, { on := 12, ground := Go.Ground.data }], guard := none }) (v := ?_) rfl (by kernel_rfl) (by kernel_rfl) (by kernel_rfl) (fun _ _ _ h => h) (Or.inl ⟨by rfl, ?_⟩) (by assumption) ?_
        rotate_left
        · intro w hSw; (try dsimp only at hSw); (try obtain ⟨hS1, hS2, hS3⟩ := hSw); go_simp <;> first | with_reducible rfl | (rw [if_neg (by first | omega | (simp only [ByteArray.size_append] at *; omega))])
        simp only [Act.put, List.setIfInBounds_toArray, List.set_cons_zero, List.set_cons_succ]
        refine wpAnyH_done (by kernel_rfl) ?_ _
        obtain ⟨i0, hi, hz0, hz1, hz2⟩ := info_parts inf3
        have HB := hid (bdrew W (q + 1 + 1))
        have HQ1 := hid (HQ.out.below HB.out)
        have HQ2 := hid (HQ1.out.stored (x := .slice (some ⟨yb, yo, none⟩) (ys.length + 1) c2') (r := (yn : Int) :: ys) rfl hx (by have := HLL.out; omega) (HRY.out.keep (HB.out.mono (Nat.le_trans HQ.out.lob.1 HQ.out.lob.2))))
        have HM2 := hid ((Mv.ofBelow (S := own qb mb (.slice (some ⟨lb, 0, none⟩) n lc) (.slice (some ⟨tb, 0, none⟩) n tc) v V) HB.out).trans (stored_own (W := W.drewN (q + 1 + 1)) (i := x) (qb := qb) (mb := mb) (tv := .slice (some ⟨tb, 0, none⟩) n tc) (v := v) (V := V) (n := n) (c := lc) (b := lb) rfl (.slice (some ⟨yb, yo, none⟩) (ys.length + 1) c2')) (fun i hi => .inl hi))
        have hlbne : yb ≠ lb := by have := (Ord.own_lo HQ.out.l lb rfl).1; omega
        have S1 : Hid ((fun V : World => V.cell? ⟨qb, 2, none⟩ = some (.map (some mb)) ∧ V.cell? ⟨yb, yo, none⟩ = some (.int .i64 (yn : Int))) ((W.drewN (q + 1 + 1)).setCell ⟨lb, x, none⟩ (.slice (some ⟨yb, yo, none⟩) (ys.length + 1) c2'))) := hid ⟨(row4 HQ2.out.q).2.2.1, by rw [cell_of_heap (Below.heap_setCell _ _ _ _ hlbne)]; exact cy⟩
        go_wp2_with (fail)
        change Code.wp _ _ _ _ ((W.drewN (q + 1)).setCell ⟨lb, x, none⟩ (.slice (some ⟨yb, yo, none⟩) (ys.length + 1) c2'))
        have hdr2 : ((W.drewN (q + 1)).setCell ⟨lb, x, none⟩ (.slice (some ⟨yb, yo, none⟩) (ys.length + 1) c2')).drew = ((W.drewN (q + 1 + 1)).setCell ⟨lb, x, none⟩ (.slice (some ⟨yb, yo, none⟩) (ys.length + 1) c2')) := rfl
        generalize ((W.drewN (q + 1 + 1)).setCell ⟨lb, x, none⟩ (.slice (some ⟨yb, yo, none⟩) (ys.length + 1) c2')) = W2 at *
        generalize ((W.drewN (q + 1)).setCell ⟨lb, x, none⟩ (.slice (some ⟨yb, yo, none⟩) (ys.length + 1) c2')) = W2' at *
        subst hdr2
        have HMX : Hid ((F (yn : Int)).length + 1 ≤ maxLen) := hid (by have := hF (yn : Int); unfold maxLen; omega)
        have HBY : Hid (((F (yn : Int)).length + 1) * 8 ≤ 140737488355328) := hid (by have := hF (yn : Int); omega)
        have HBB : Hid (base ≤ (W2'.drew.alloc (.cells #[.int .i64 (x : Int)] 3)).heap.size) := hid (by have := HQ2.out.lob.2; simp at this ⊢; omega)
        have HKM : Hid (k < maxLen) := hid (by unfold maxLen; omega)
        have S2 : Hid ((fun V : World => V.cell? ⟨qb, 2, none⟩ = some (.map (some mb)) ∧ V.cell? ⟨yb, yo, none⟩ = some (.int .i64 (yn : Int))) (W2'.drew.alloc (.cells #[.int .i64 (x : Int)] 3))) := hid ⟨(World.grownBy_alloc _ _ none).cell S1.out.1 (by simp), (World.grownBy_alloc _ _ none).cell S1.out.2 (by simp)⟩
        refine wp_region_held_drew (S := fun V => V.cell? ⟨qb, 2, none⟩ = some (.map (some mb)) ∧ V.cell? ⟨yb, yo, none⟩ = some (.int .i64 (yn : Int))) (by kernel_rfl) ?_ (fun hHeld => ?_)
        · exact S1.out
        refine wpAnyH_take (i := 0) (oi := { dst := some 45, op := Go.Op.move (Go.Operand.tmp 0), type := 37, pos := _, after := #[], guard := none }) (v := ?_) rfl (by kernel_rfl) (by kernel_rfl) (by kernel_rfl) (fun _ _ _ h => h) (Or.inl ⟨by rfl, ?_⟩) (by assumption) ?_
        rotate_left
        · intro w hSw; (try dsimp only at hSw); (try obtain ⟨hS1, hS2⟩ := hSw); go_simp <;> first | with_reducible rfl | (rw [if_neg (by omega)])
        simp only [Act.put, List.setIfInBounds_toArray, List.set_cons_zero, List.set_cons_succ]
        refine wpAnyH_take (i := 1) (oi := { dst := some 46, op := Go.Op.nilCheck (Go.Operand.tmp 45), type := 0, pos := _, after := #[{ on := 0, ground := Go.Ground.data }], guard := none }) (v := ?_) rfl (by kernel_rfl) (by kernel_rfl) (by kernel_rfl) (fun _ _ _ h => h) (Or.inl ⟨by rfl, ?_⟩) (by assumption) ?_
        rotate_left
        · intro w hSw; (try dsimp only at hSw); (try obtain ⟨hS1, hS2⟩ := hSw); go_simp <;> first | with_reducible rfl | (rw [if_neg (by omega)])
        simp only [Act.put, List.setIfInBounds_toArray, List.set_cons_zero, List.set_cons_succ]
        refine wpAnyH_take (i := 2) (oi := { dst := some 47, op := Go.Op.fieldAddr 45 (Go.Operand.tmp 46) 2, type := 0, pos := _, after := #[{ on := 1, ground := Go.Ground.data }], guard := none }) (v := ?_) rfl (by kernel_rfl) (by kernel_rfl) (by kernel_rfl) (fun _ _ _ h => h) (Or.inl ⟨by rfl, ?_⟩) (by assumption) ?_
        rotate_left
        · intro w hSw; (try dsimp only at hSw); (try obtain ⟨hS1, hS2⟩ := hSw); go_simp <;> first | with_reducible rfl | (rw [if_neg (by omega)])
        simp only [Act.put, List.setIfInBounds_toArray, List.set_cons_zero, List.set_cons_succ]
        refine wpAnyH_take (i := 3) (oi := { dst := some 48, op := Go.Op.load 42 (Go.Operand.tmp 47), type := 42, pos := _, after := #[{ on := 2, ground := Go.Ground.data }], guard := none }) (v := ?_) rfl (by kernel_rfl) (by kernel_rfl) (by kernel_rfl) (fun _ _ _ h => h) (Or.inl ⟨by rfl, ?_⟩) (by assumption) ?_
        rotate_left
        · intro w hSw; (try dsimp only at hSw); (try obtain ⟨hS1, hS2⟩ := hSw); go_simp <;> first | with_reducible rfl | (rw [if_neg (by omega)])
        simp only [Act.put, List.setIfInBounds_toArray, List.set_cons_zero, List.set_cons_succ]
        refine wpAnyH_take (i := 4) (oi := { dst := some 49, op := Go.Op.move (Go.Operand.tmp 4), type := 25, pos := _, after := #[], guard := none }) (v := ?_) rfl (by kernel_rfl) (by kernel_rfl) (by kernel_rfl) (fun _ _ _ h => h) (Or.inl ⟨by rfl, ?_⟩) (by assumption) ?_
        rotate_left
        · intro w hSw; (try dsimp only at hSw); (try obtain ⟨hS1, hS2⟩ := hSw); go_simp <;> first | with_reducible rfl | (rw [if_neg (by omega)])
        simp only [Act.put, List.setIfInBounds_toArray, List.set_cons_zero, List.set_cons_succ]
        refine wpAnyH_take (i := 5) (oi := { dst := some 50, op := Go.Op.indexAddr 25 (Go.Operand.tmp 49) (Go.Operand.const (Go.Value.int Go.IntKind.i64 0)), type := 0, pos := _, after := #[{ on := 4, ground := Go.Ground.data }], guard := none }) (v := ?_) rfl (by kernel_rfl) (by kernel_rfl) (by kernel_rfl) (fun _ _ _ h => h) (Or.inl ⟨by rfl, ?_⟩) (by assumption) ?_
        rotate_left
        · intro w hSw; (try dsimp only at hSw); (try obtain ⟨hS1, hS2⟩ := hSw); go_simp <;> first | with_reducible rfl | (rw [if_neg (by omega)])
        simp only [Act.put, List.setIfInBounds_toArray, List.set_cons_zero, List.set_cons_succ]
        refine wpAnyH_take (i := 6) (oi := { dst := some 51, op := Go.Op.load 3 (Go.Operand.tmp 50), type := 3, pos := _, after := #[{ on := 5, ground := Go.Ground.data }], guard := none }) (v := ?_) rfl (by kernel_rfl) (by kernel_rfl) (by kernel_rfl) (fun _ _ _ h => h) (Or.inl ⟨by rfl, ?_⟩) (by assumption) ?_
        rotate_left
        · intro w hSw; (try dsimp only at hSw); (try obtain ⟨hS1, hS2⟩ := hSw); go_simp <;> first | with_reducible rfl | (rw [if_neg (by omega)])
        simp only [Act.put, List.setIfInBounds_toArray, List.set_cons_zero, List.set_cons_succ]
        refine wpAnyH_take (i := 7) (oi := { dst := some 52, op := Go.Op.move (Go.Operand.tmp 0), type := 37, pos := _, after := #[], guard := none }) (v := ?_) rfl (by kernel_rfl) (by kernel_rfl) (by kernel_rfl) (fun _ _ _ h => h) (Or.inl ⟨by rfl, ?_⟩) (by assumption) ?_
        rotate_left
        · intro w hSw; (try dsimp only at hSw); (try obtain ⟨hS1, hS2⟩ := hSw); go_simp <;> first | with_reducible rfl | (rw [if_neg (by omega)])
        simp only [Act.put, List.setIfInBounds_toArray, List.set_cons_zero, List.set_cons_succ]
        refine wpAnyH_take (i := 8) (oi := { dst := some 53, op := Go.Op.nilCheck (Go.Operand.tmp 52), type := 0, pos := _, after := #[{ on := 7, ground := Go.Ground.data }], guard := none }) (v := ?_) rfl (by kernel_rfl) (by kernel_rfl) (by kernel_rfl) (fun _ _ _ h => h) (Or.inl ⟨by rfl, ?_⟩) (by assumption) ?_
        rotate_left
        · intro w hSw; (try dsimp only at hSw); (try obtain ⟨hS1, hS2⟩ := hSw); go_simp <;> first | with_reducible rfl | (rw [if_neg (by omega)])
        simp only [Act.put, List.setIfInBounds_toArray, List.set_cons_zero, List.set_cons_succ]
        refine wpAnyH_take (i := 9) (oi := { dst := some 54, op := Go.Op.fieldAddr 45 (Go.Operand.tmp 53) 2, type := 0, pos := _, after := #[{ on := 8, ground := Go.Ground.data }], guard := none }) (v := ?_) rfl (by kernel_rfl) (by kernel_rfl) (by kernel_rfl) (fun _ _ _ h => h) (Or.inl ⟨by rfl, ?_⟩) (by assumption) ?_
        rotate_left
        · intro w hSw; (try dsimp only at hSw); (try obtain ⟨hS1, hS2⟩ := hSw); go_simp <;> first | with_reducible rfl | (rw [if_neg (by omega)])
        simp only [Act.put, List.setIfInBounds_toArray, List.set_cons_zero, List.set_cons_succ]
        refine wpAnyH_take (i := 10) (oi := { dst := some 55, op := Go.Op.load 42 (Go.Operand.tmp 54), type := 42, pos := _, after := #[{ on := 9, ground := Go.Ground.data }], guard := none }) (v := ?_) rfl (by kernel_rfl) (by kernel_rfl) (by kernel_rfl) (fun _ _ _ h => h) (Or.inl ⟨by rfl, ?_⟩) (by assumption) ?_
        rotate_left
        · intro w hSw; (try dsimp only at hSw); (try obtain ⟨hS1, hS2⟩ := hSw); go_simp <;> first | with_reducible rfl | (rw [if_neg (by omega)])
        simp only [Act.put, List.setIfInBounds_toArray, List.set_cons_zero, List.set_cons_succ]
        refine wpAnyH_take (i := 11) (oi := { dst := some 56, op := Go.Op.move (Go.Operand.tmp 4), type := 25, pos := _, after := #[], guard := none }) (v := ?_) rfl (by kernel_rfl) (by kernel_rfl) (by kernel_rfl) (fun _ _ _ h => h) (Or.inl ⟨by rfl, ?_⟩) (by assumption) ?_
        rotate_left
        · intro w hSw; (try dsimp only at hSw); (try obtain ⟨hS1, hS2⟩ := hSw); go_simp <;> first | with_reducible rfl | (rw [if_neg (by omega)])
        simp only [Act.put, List.setIfInBounds_toArray, List.set_cons_zero, List.set_cons_succ]
        refine wpAnyH_take (i := 12) (oi := { dst := some 57, op := Go.Op.indexAddr 25 (Go.Operand.tmp 56) (Go.Operand.const (Go.Value.int Go.IntKind.i64 0)), type := 0, pos := _, after := #[{ on := 11, ground := Go.Ground.data }], guard := none }) (v := ?_) rfl (by kernel_rfl) (by kernel_rfl) (by kernel_rfl) (fun _ _ _ h => h) (Or.inl ⟨by rfl, ?_⟩) (by assumption) ?_
        rotate_left
        · intro w hSw; (try dsimp only at hSw); (try obtain ⟨hS1, hS2⟩ := hSw); go_simp <;> first | with_reducible rfl | (rw [if_neg (by omega)])
        simp only [Act.put, List.setIfInBounds_toArray, List.set_cons_zero, List.set_cons_succ]
        refine wpAnyH_take (i := 13) (oi := { dst := some 58, op := Go.Op.load 3 (Go.Operand.tmp 57), type := 3, pos := _, after := #[{ on := 12, ground := Go.Ground.data }], guard := none }) (v := ?_) rfl (by kernel_rfl) (by kernel_rfl) (by kernel_rfl) (fun _ _ _ h => h) (Or.inl ⟨by rfl, ?_⟩) (by assumption) ?_
        rotate_left
        · intro w hSw; (try dsimp only at hSw); (try obtain ⟨hS1, hS2⟩ := hSw); go_simp <;> first | with_reducible rfl | (rw [if_neg (by omega)])
        simp only [Act.put, List.setIfInBounds_toArray, List.set_cons_zero, List.set_cons_succ]
        refine wpAnyH_take (i := 15) (oi := { dst := some 60, op := Go.Op.move (Go.Operand.tmp 1), type := 3, pos := _, after := #[], guard := none }) (v := ?_) rfl (by kernel_rfl) (by kernel_rfl) (by kernel_rfl) (fun _ _ _ h => h) (Or.inl ⟨by rfl, ?_⟩) (by assumption) ?_
        rotate_left
        · intro w hSw; (try dsimp only at hSw); (try obtain ⟨hS1, hS2⟩ := hSw); go_simp <;> first | with_reducible rfl | (rw [if_neg (by omega)])
        simp only [Act.put, List.setIfInBounds_toArray, List.set_cons_zero, List.set_cons_succ]
        refine wpAnyH_ready (rs := [14, 16]) (by kernel_rfl) (by simp) ?_
        refine AllReadyH.cons (o := { dst := some 59, op := Go.Op.lookup 42 (Go.Operand.tmp 55) (Go.Operand.tmp 58) false, type := 25, pos := _, after := #[{ on := 10, ground := Go.Ground.data }, { on := 13, ground := Go.Ground.data }], guard := none }) rfl (fun K hK => ?_) (AllReadyH.cons (o := { dst := some 61, op := Go.Op.buildSlice 25 1 #[(0, Go.Operand.tmp 60)], type := 25, pos := _, after := #[{ on := 15, ground := Go.Ground.data }], guard := none }) rfl (fun K hK => ?_) AllReadyH.nil)
        · refine if_take (by rfl) ?_
          refine wp_look (.tmp 55) (.tmp 58) 42 rfl rfl rfl (HQ2.out.m.look (by omega) (by omega)) ?_
          refine hK.out _ _ ?_ (fun hHeldL => ?_)
          · exact S1.out
          clear hK K
          (try simp only [Act.put, List.setIfInBounds_toArray, List.set_cons_zero, List.set_cons_succ])
          refine wpAnyH_ready (rs := [16]) (by kernel_rfl) (by simp) ?_
          refine AllReadyH.cons (o := { dst := some 61, op := Go.Op.buildSlice 25 1 #[(0, Go.Operand.tmp 60)], type := 25, pos := _, after := #[{ on := 15, ground := Go.Ground.data }], guard := none }) rfl (fun K hK => ?_) AllReadyH.nil
          go_simp
          refine hK.out _ _ ?_ (fun hHeldA => ?_)
          · exact S2.out
          clear hK K
          (try simp only [Act.put, List.setIfInBounds_toArray, List.set_cons_zero, List.set_cons_succ])
          refine wpAnyH_ready (rs := [17]) (by kernel_rfl) (by simp) ?_
          refine AllReadyH.cons (o := { dst := some 62, op := Go.Op.call { callee := Go.Callee.builtin Go.Builtin.append, args := #[Go.Operand.tmp 59, Go.Operand.tmp 61], argTypes := #[25, 25] }, type := 25, pos := _, after := #[{ on := 14, ground := Go.Ground.data }, { on := 16, ground := Go.Ground.data }], guard := none }) rfl (fun K hK => ?_) AllReadyH.nil
          refine if_take (by rfl) ?_
          refine wp_append_lies _ (.tmp 59) (.tmp 61) 25 rfl base 3 i0 _ 1 8 Try.underlying25 hi hz0 hz1 hz2 rfl (by decide) (slV (V (yn : Int))) (F (yn : Int)).length (ints (F (yn : Int))) rfl (World.ownsRow.alloc (HQ2.out.rows (yn : Int)) _) ⟨W2'.drew.heap.size, 0, none⟩ 1 1 [.int .i64 (x : Int)] rfl rfl (cell_one_new _ _ _) (by simp [Value.oneCell']) (by omega) HMX.out HBY.out HBB.out (W2'.drew.heap.size + 1) (by simp) ?_
          intro g cap wa hown9 hgr9 hat9 _
          have hall : W2'.drew.grownBy wa (slV (V (yn : Int))).ownBlock := (World.grownBy_alloc _ _ _).trans hgr9
          have hat : (slV (V (yn : Int))).ownBlock = some g ∨ W2'.drew.heap.size ≤ g := hat9.imp id (fun e => by omega)
          have hVa : VMap wa mb k V := HQ2.out.m.block (hall.block mb HQ2.out.m.lt (fun e => by have h1 := ((HQ2.out.rows (yn : Int)).lo mb e.symm).1; have h2 := HQ2.out.mb_.2; omega))
          obtain ⟨wb, hup, hVb, hgb⟩ := hVa.update HKM.out (k := (yn : Int)) (by omega) (by omega) (some ⟨g, (F (yn : Int)).length + 1, cap⟩)
          have HF := hid (HQ2.out.waited hall hown9 hat hVb hgb)
          refine hK.out _ _ ?_ (fun hHeld2 => ?_)
          · exact ⟨hall.cell S1.out.1 (fun e => by have h1 := ((HQ2.out.rows (yn : Int)).lo qb e.symm).1; have h2 := HQ2.out.qb_.2; omega), hall.cell S1.out.2 (fun e => by have h1 := ((HQ2.out.rows (yn : Int)).lo yb e.symm).1; have h2 := HQ2.out.lob.1; omega)⟩
          clear hK K
          (try simp only [Act.put, List.setIfInBounds_toArray, List.set_cons_zero, List.set_cons_succ])
          refine wpAnyH_ready (rs := [18]) (by kernel_rfl) (by simp) ?_
          refine AllReadyH.cons (o := { dst := none, op := Go.Op.mapUpdate 42 (Go.Operand.tmp 48) (Go.Operand.tmp 51) (Go.Operand.tmp 62), type := 0, pos := _, after := #[{ on := 3, ground := Go.Ground.data }, { on := 6, ground := Go.Ground.data }, { on := 17, ground := Go.Ground.data }, { on := 17, ground := Go.Ground.chain }, { on := 0, ground := Go.Ground.phase }, { on := 1, ground := Go.Ground.phase }, { on := 2, ground := Go.Ground.phase }, { on := 3, ground := Go.Ground.phase }, { on := 4, ground := Go.Ground.phase }, { on := 5, ground := Go.Ground.phase }, { on := 6, ground := Go.Ground.phase }, { on := 7, ground := Go.Ground.phase }, { on := 8, ground := Go.Ground.phase }, { on := 9, ground := Go.Ground.phase }, { on := 10, ground := Go.Ground.phase }, { on := 11, ground := Go.Ground.phase }, { on := 12, ground := Go.Ground.phase }, { on := 13, ground := Go.Ground.phase }, { on := 14, ground := Go.Ground.phase }, { on := 15, ground := Go.Ground.phase }, { on := 16, ground := Go.Ground.phase }, { on := 17, ground := Go.Ground.phase }], guard := none }) rfl (fun K hK => ?_) AllReadyH.nil
          refine if_take (by rfl) ?_
          refine wp_mapUpd (.tmp 48) (.tmp 51) (.tmp 62) 42 rfl rfl rfl rfl hup ?_
          refine hK.out _ _ ?_ (fun hHeld3 => ?_)
          · exact ⟨(row4 HF.out.1.q).2.2.1, (hgb.cell (hall.cell S1.out.2 (fun e => by have h1 := ((HQ2.out.rows (yn : Int)).lo yb e.symm).1; have h2 := HQ2.out.lob.1; omega)) (fun e => by have h1 := HQ2.out.mb_.1; have h2 : yb = mb := (by simpa using e); omega))⟩
          clear hK K
          refine wpAnyH_done (by kernel_rfl) ?_ _
          clear hall hown9 hgr9 hat9 hat hVa hup hVb hgb
          go_wp2_with (fail)
          go_end0
          refine ⟨rfl, v, xs.set x (.slice (some ⟨yb, yo, none⟩) (ys.length + 1) c2'), (fun u => if u = (yn : Int) then some ⟨g, (F (yn : Int)).length + 1, cap⟩ else V u), upF F (yn : Int) (x : Int), R, ⟨?_, ?_, ?_, HH.out, ?_, fun e => ?_, fun y2 ys2 e => ?_⟩⟩
          · rw [HR0.out, ← HDR.out]; exact HF.out.1
          · exact HM2.out.trans HF.out.2.1 (fun i hi => .inl hi)
          · exact fun i hi => (HF.out.2.2 i hi).imp id (fun e => Nat.le_trans HM2.out.size e)
          · intro z hz; exact if_neg (fun e : z = (yn : Int) => hy (by rw [← e]; exact hz))
          · rw [HR0.out, ← HDR.out] at e; cases e
          · rw [HR0.out, ← HDR.out] at e
            injection e with e1 e2
            exact ⟨rfl, by rw [e1]⟩
        · go_simp
          refine hK.out _ _ ?_ (fun hHeldA => ?_)
          · exact S2.out
          clear hK K
          (try simp only [Act.put, List.setIfInBounds_toArray, List.set_cons_zero, List.set_cons_succ])
          refine wpAnyH_ready (rs := [14]) (by kernel_rfl) (by simp) ?_
          refine AllReadyH.cons (o := { dst := some 59, op := Go.Op.lookup 42 (Go.Operand.tmp 55) (Go.Operand.tmp 58) false, type := 25, pos := _, after := #[{ on := 10, ground := Go.Ground.data }, { on := 13, ground := Go.Ground.data }], guard := none }) rfl (fun K hK => ?_) AllReadyH.nil
          refine if_take (by rfl) ?_
          refine wp_look (.tmp 55) (.tmp 58) 42 rfl rfl rfl ((HQ2.out.m.block (push_same HQ2.out.m.lt)).look (by omega) (by omega)) ?_
          refine hK.out _ _ ?_ (fun hHeldL => ?_)
          · exact S2.out
          clear hK K
          (try simp only [Act.put, List.setIfInBounds_toArray, List.set_cons_zero, List.set_cons_succ])
          refine wpAnyH_ready (rs := [17]) (by kernel_rfl) (by simp) ?_
          refine AllReadyH.cons (o := { dst := some 62, op := Go.Op.call { callee := Go.Callee.builtin Go.Builtin.append, args := #[Go.Operand.tmp 59, Go.Operand.tmp 61], argTypes := #[25, 25] }, type := 25, pos := _, after := #[{ on := 14, ground := Go.Ground.data }, { on := 16, ground := Go.Ground.data }], guard := none }) rfl (fun K hK => ?_) AllReadyH.nil
          refine if_take (by rfl) ?_
          refine wp_append_lies _ (.tmp 59) (.tmp 61) 25 rfl base 3 i0 _ 1 8 Try.underlying25 hi hz0 hz1 hz2 rfl (by decide) (slV (V (yn : Int))) (F (yn : Int)).length (ints (F (yn : Int))) rfl (World.ownsRow.alloc (HQ2.out.rows (yn : Int)) _) ⟨W2'.drew.heap.size, 0, none⟩ 1 1 [.int .i64 (x : Int)] rfl rfl (cell_one_new _ _ _) (by simp [Value.oneCell']) (by omega) HMX.out HBY.out HBB.out (W2'.drew.heap.size + 1) (by simp) ?_
          intro g cap wa hown9 hgr9 hat9 _
          have hall : W2'.drew.grownBy wa (slV (V (yn : Int))).ownBlock := (World.grownBy_alloc _ _ _).trans hgr9
          have hat : (slV (V (yn : Int))).ownBlock = some g ∨ W2'.drew.heap.size ≤ g := hat9.imp id (fun e => by omega)
          have hVa : VMap wa mb k V := HQ2.out.m.block (hall.block mb HQ2.out.m.lt (fun e => by have h1 := ((HQ2.out.rows (yn : Int)).lo mb e.symm).1; have h2 := HQ2.out.mb_.2; omega))
          obtain ⟨wb, hup, hVb, hgb⟩ := hVa.update HKM.out (k := (yn : Int)) (by omega) (by omega) (some ⟨g, (F (yn : Int)).length + 1, cap⟩)
          have HF := hid (HQ2.out.waited hall hown9 hat hVb hgb)
          refine hK.out _ _ ?_ (fun hHeld2 => ?_)
          · exact ⟨hall.cell S1.out.1 (fun e => by have h1 := ((HQ2.out.rows (yn : Int)).lo qb e.symm).1; have h2 := HQ2.out.qb_.2; omega), hall.cell S1.out.2 (fun e => by have h1 := ((HQ2.out.rows (yn : Int)).lo yb e.symm).1; have h2 := HQ2.out.lob.1; omega)⟩
          clear hK K
          (try simp only [Act.put, List.setIfInBounds_toArray, List.set_cons_zero, List.set_cons_succ])
          refine wpAnyH_ready (rs := [18]) (by kernel_rfl) (by simp) ?_
          refine AllReadyH.cons (o := { dst := none, op := Go.Op.mapUpdate 42 (Go.Operand.tmp 48) (Go.Operand.tmp 51) (Go.Operand.tmp 62), type := 0, pos := _, after := #[{ on := 3, ground := Go.Ground.data }, { on := 6, ground := Go.Ground.data }, { on := 17, ground := Go.Ground.data }, { on := 17, ground := Go.Ground.chain }, { on := 0, ground := Go.Ground.phase }, { on := 1, ground := Go.Ground.phase }, { on := 2, ground := Go.Ground.phase }, { on := 3, ground := Go.Ground.phase }, { on := 4, ground := Go.Ground.phase }, { on := 5, ground := Go.Ground.phase }, { on := 6, ground := Go.Ground.phase }, { on := 7, ground := Go.Ground.phase }, { on := 8, ground := Go.Ground.phase }, { on := 9, ground := Go.Ground.phase }, { on := 10, ground := Go.Ground.phase }, { on := 11, ground := Go.Ground.phase }, { on := 12, ground := Go.Ground.phase }, { on := 13, ground := Go.Ground.phase }, { on := 14, ground := Go.Ground.phase }, { on := 15, ground := Go.Ground.phase }, { on := 16, ground := Go.Ground.phase }, { on := 17, ground := Go.Ground.phase }], guard := none }) rfl (fun K hK => ?_) AllReadyH.nil
          refine if_take (by rfl) ?_
          refine wp_mapUpd (.tmp 48) (.tmp 51) (.tmp 62) 42 rfl rfl rfl rfl hup ?_
          refine hK.out _ _ ?_ (fun hHeld3 => ?_)
          · exact ⟨(row4 HF.out.1.q).2.2.1, (hgb.cell (hall.cell S1.out.2 (fun e => by have h1 := ((HQ2.out.rows (yn : Int)).lo yb e.symm).1; have h2 := HQ2.out.lob.1; omega)) (fun e => by have h1 := HQ2.out.mb_.1; have h2 : yb = mb := (by simpa using e); omega))⟩
          clear hK K
          refine wpAnyH_done (by kernel_rfl) ?_ _
          clear hall hown9 hgr9 hat9 hat hVa hup hVb hgb
          go_wp2_with (fail)
          go_end0
          refine ⟨rfl, v, xs.set x (.slice (some ⟨yb, yo, none⟩) (ys.length + 1) c2'), (fun u => if u = (yn : Int) then some ⟨g, (F (yn : Int)).length + 1, cap⟩ else V u), upF F (yn : Int) (x : Int), R, ⟨?_, ?_, ?_, HH.out, ?_, fun e => ?_, fun y2 ys2 e => ?_⟩⟩
          · rw [HR0.out, ← HDR.out]; exact HF.out.1
          · exact HM2.out.trans HF.out.2.1 (fun i hi => .inl hi)
          · exact fun i hi => (HF.out.2.2 i hi).imp id (fun e => Nat.le_trans HM2.out.size e)
          · intro z hz; exact if_neg (fun e : z = (yn : Int) => hy (by rw [← e]; exact hz))
          · rw [HR0.out, ← HDR.out] at e; cases e
          · rw [HR0.out, ← HDR.out] at e
            injection e with e1 e2
            exact ⟨rfl, by rw [e1]⟩
end Go.Proofs.Ytdhjedpgdhageaa.Ord
