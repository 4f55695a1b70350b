/-
  What a station keeps: Places.
-/
import Derived.Test.YtdenddknbmiboaaDoorG8
namespace Go.Proofs.YtdenddknbmiboaaDoor.Lex
open Go.ChangeShapes Go.WideShapes Go.ChangeAt Go.RowKit Go.Joins
attribute [local go_sem] Oper.semAt_some
theorem lls_two {W : World} {g : Nat} {u v : Value} {l m : List ByteArray} (h : TxR W u l) (h' : TxR W v m) (hg : W.heap[g]? = some (.cells #[u, v] 44 (0, 0))) : LLs W (.slice (some ⟨g, 0, none⟩) 2 2) [l, m] :=
  ⟨_, 2, rfl, .inr ⟨g, 0, rfl, fun i hi => by
    have hi2 : i < 2 := hi
    match i, hi2 with
    | 0, _ => exact ⟨u, (cell_of_row _ _ _ _ 44 (0, 0) hg).trans rfl, h⟩
    | 1, _ => exact ⟨v, (cell_of_row _ _ _ _ 44 (0, 0) hg).trans rfl, h'⟩⟩⟩
/-- All names that a station keeps. -/
def allN_ (p : Pg) (s : Int) : List ByteArray := declL p s ++ needL p s
theorem thing_found {l : List (Int × Hd)} {x : Int × Hd} (hx : x ∈ l) : ∃ y, findT l x.2.name = some y := by
  cases e : findT l x.2.name with
  | some y => exact ⟨y, rfl⟩
  | none =>
    unfold findT at e
    have := List.find?_eq_none.1 e x hx
    simp at this
theorem need_mem {p : Pg} {s : Int} {nm : ByteArray} (h : nm ∈ needL p s) : ∃ x ∈ thingsL p, x.2.name = nm := by
  obtain ⟨i, _, _, h3⟩ := oth_mem.1 (List.mem_filter.1 h).1
  obtain ⟨x, hx, e, _⟩ := declL_mem.1 h3
  exact ⟨x, hx, e⟩
theorem alln_mem {p : Pg} {s : Int} {nm : ByteArray} (h : nm ∈ allN_ p s) : ∃ x ∈ thingsL p, x.2.name = nm := by
  rcases List.mem_append.1 h with h | h
  · obtain ⟨x, hx, e, _⟩ := declL_mem.1 h
    exact ⟨x, hx, e⟩
  · exact need_mem h
theorem need_len {p : Pg} (hE : nmErr p = 0) (s : Int) : (needL p s).length ≤ 1600 := by
  have h1 := askedF_len s (akAll p) (othL p s p.st.toNat).flatten
  have h2 := (oth_len p s p.st.toNat).2
  have h3 := pgOk_few hE
  have h4 : p.st.toNat ≤ 8 := by
    have h := (nmErr_zero hE).1
    unfold pgOk inR at h
    simp only [Bool.and_eq_true, decide_eq_true_eq] at h
    omega
  have h5 : p.st.toNat * (p.ins.length + p.flows.length) ≤ 8 * 192 := Nat.mul_le_mul h4 (by omega)
  unfold needL
  omega
/-- What a station keeps. -/
def placesL (p : Pg) (l : List Int) (s : Int) : List Plc := (allN_ p s).map (plcF p l s)
def plsC (l : List Plc) : List Value := (l.map plcC).flatten
theorem plsC_len (l : List Plc) : (plsC l).length = l.length * 6 := by
  induction l with
  | nil => rfl
  | cons a l ih =>
    show (plcC a ++ plsC l).length = _
    rw [List.length_append, ih]
    simp
    omega
theorem plsC_at (l : List Plc) : ∀ i (h : i < l.length) j, j < 6 → (plsC l)[i * 6 + j]? = (plcC l[i])[j]? := by
  induction l with
  | nil => intro i h; cases h
  | cons a l ih =>
    intro i h j hj
    show (plcC a ++ plsC l)[i * 6 + j]? = _
    cases i with
    | zero => rw [List.getElem?_append_left (by simp; omega)]; simp
    | succ i =>
      rw [List.getElem?_append_right (by simp; omega)]
      have : (i + 1) * 6 + j - (plcC a).length = i * 6 + j := by simp; omega
      rw [this, ih i (by simpa using h) j hj]
      rfl
/-- A row of places of one's own. -/
def RowP (W : World) (B : Nat) (v : Value) (l : List Plc) : Prop := W.ownsRow B 55 6 v l.length (plsC l)
/-- What is answered. -/
def PlE (w : World) (p : Pg) (l : List Int) (s : Int) (e : Ending) (w' : World) : Prop :=
  (stOk p s = false ∧ e = .returned (.tuple #[.slice none 0 0, .int .i64 1])) ∨ (stOk p s = true ∧ lateOk p l = false ∧ e = .returned (.tuple #[.slice none 0 0, .int .i64 10])) ∨
    (stOk p s = true ∧ lateOk p l = true ∧ ∃ r, e = .returned (.tuple #[r, .int .i64 0]) ∧ RowP w' w.heap.size r (placesL p l s))
theorem late_fine {p : Pg} {l : List Int} (h : lateOk p l = true) : Fine l ∧ l.length = p.flows.length := by
  unfold lateOk at h
  simp only [Bool.and_eq_true, decide_eq_true_eq, Bool.not_eq_true'] at h
  refine ⟨fun a ha => ?_, h.2.1⟩
  have h2 := h.2.2.1
  unfold anyOut at h2
  rw [List.any_eq_false] at h2
  have := h2 a ha
  unfold outB at this
  simp at this
  omega
theorem infoP : (Tryd.prog.info? 55).map (fun i => (i.zero, i.size, i.bytes)) = some (some (.agg #[.string ByteArray.empty, .int .u8 0, .int .i64 0, .bool false, .int .i64 0, .int .i64 0]), 6, 56) := by kernel_rfl
/-- A row of places being made. -/
structure PsI (w : World) (v : Value) (l : List Plc) (W : World) : Prop where
  row : W.ownsRow w.heap.size 55 6 v l.length (plsC l)
  below : Below w.heap.size w W
theorem PsI.keep {w W W' : World} {v : Value} {l : List Plc} (h : PsI w v l W) (hb : Below W.heap.size W W') : PsI w v l W' := ⟨own_same h.row (fun b e => hb.block b (h.row.lt b e).2), h.below.trans (hb.mono h.below.size)⟩
theorem PsI.grown {w W W' : World} {v v' : Value} {l : List Plc} {x : Plc} (h : PsI w v l W) (hg : W.grownBy W' v.ownBlock) (ho : W'.ownsRow w.heap.size 55 6 v' (l.length + 1) (plsC l ++ plcC x)) : PsI w v' (l ++ [x]) W' :=
  ⟨by have e : (l ++ [x]).length = l.length + 1 := by simp
      have e2 : plsC (l ++ [x]) = plsC l ++ plcC x := by simp [plsC]
      rw [e, e2]; exact ho, h.below.grown hg h.below.size (fun b e => (h.row.lt b e).1)⟩
set_option maxRecDepth 100000 in
set_option maxHeartbeats 8000000 in
theorem places_ (p : Pg) (l : List Int) (lv : Value) (s : Int) (w : World) (A B C : Value) (hP : PgAt w p A B C) (hR : TabR w) (hJ : TabJ w) (hI : IAt w l lv) : Calls Tryd.prog 14 #[pgV p A B C, lv, .int .i64 s] w fun e w' => PlE w p l s e w' ∧ Below w.heap.size w w' := by
  have HI := hid hI
  obtain ⟨la, lc, rfl, _⟩ := hI
  have RT := @results_two Tryd.f14 6 7 rfl
  obtain ⟨A0, A1, rfl, _⟩ := hP.ins
  obtain ⟨B0, B1, _, rfl, _⟩ := hP.flows
  obtain ⟨C0, C1, rfl, _⟩ := hP.outs
  have X0 := hid (FV.new hP hR hJ)
  clear hP hR hJ
  have hmf : ∀ (fn : Fn) (first cap : Array Value) (w : World), (Instr.makeFunc fn first cap).run Tryd.prog w = .ok (.func fn first cap) w := fun _ _ _ _ => rfl
  go_enter Tryd.func14, Tryd.ntmps14
  obtain ⟨r0, r1, r2, r3⟩ := row4 X0.out.row
  go_wp2_with (fail)
  refine (cut_of p s _ _ _ _ X0.out.P X0.out.R X0.out.J).mono ?_
  rintro e w1 ⟨hO, hb1⟩
  have X1 := hid (X0.out.keep hb1)
  clear hb1 X0 r0 r1 r2 r3
  rcases hO with ⟨hst, rfl⟩ | ⟨mb, hst, rfl, hA⟩
  · have HV : Hid (∀ W, PlE w p l s (.returned (.tuple #[.slice none 0 0, .int .i64 1])) W) := hid (fun W => .inl ⟨hst, rfl⟩)
    clear hst
    go_wp2_with (fail)
    (try simp only [Exit.inBlock, Exit.then])
    refine bodyPost_ret (RT _ _ _) rfl ⟨HV.out _, X1.out.below.alloc X1.out.below.size _⟩
  · have HE := hid (st_nm hst)
    have HST := hid hst
    have hal := (Below.refl w1.heap.size w1).alloc (Nat.le_refl _) (.cells (cutC p (.slice A0 p.ins.length A1) (.slice B0 p.flows.length B1) (.slice C0 p.outs.length C1) s mb) 79)
    have XV0 := X1.out.keep hal
    have CV0 : CutAt (w1.alloc (.cells (cutC p (.slice A0 p.ins.length A1) (.slice B0 p.flows.length B1) (.slice C0 p.outs.length C1) s mb) 79)) w1.heap.size (cutC p (.slice A0 p.ins.length A1) (.slice B0 p.flows.length B1) (.slice C0 p.outs.length C1) s mb) := heap_alloc_new w1 _
    have MV0 := hA.keep hal
    obtain ⟨W2, hW2⟩ : ∃ W2, w1.alloc (.cells (cutC p (.slice A0 p.ins.length A1) (.slice B0 p.flows.length B1) (.slice C0 p.outs.length C1) s mb) 79) = W2 := ⟨_, rfl⟩
    rw [hW2] at XV0 CV0 MV0
    have CI := hid (PbI.mk XV0 CV0 MV0)
    have HW2 := hid hW2
    clear hal XV0 CV0 MV0 hW2 hA hst X1
    obtain ⟨cb, hcb⟩ : ∃ cb, cb = w1.heap.size := ⟨_, rfl⟩
    rw [← hcb] at CI
    have HCB := hid hcb
    clear hcb
    obtain ⟨⟨x0, x1, x2, x3⟩, _⟩ := CI.out.cells
    go_wp2_with (rw [HW2.out, ← HCB.out])
    clear x0 x1 x2 x3
    refine ((callsIn_wide (n := 20)).1 (check_ p l _ _ _ _ _ CI.out.fv.P (HI.out.keep CI.out.fv.below) CI.out.fv.R CI.out.fv.J)).mono ?_
    rintro e v2 ⟨rfl, hb2⟩
    have C2 := hid (CI.out.keep hb2)
    clear hb2 CI HW2
    cases hlt : lateOk p l with
    | false =>
      have HV : Hid (∀ W, PlE w p l s (.returned (.tuple #[.slice none 0 0, .int .i64 10])) W) := hid (fun W => .inr (.inl ⟨HST.out, hlt, rfl⟩))
      clear hlt
      go_wp2_with (fail)
      (try simp only [Exit.inBlock, Exit.then])
      refine bodyPost_ret (RT _ _ _) rfl ⟨HV.out _, C2.out.fv.below⟩
    | true =>
      have HLT := hid hlt
      have HFI := hid (late_fine hlt)
      clear hlt
      obtain ⟨i0, hi, hz0, hz1, hz2⟩ := info_parts infoP
      have HN2 : Hid ([declL p s, needL p s].flatten.length ≤ 10000000) := hid (by
        have h1 := decl_len p s
        have h2 := need_len HE.out s
        have h3 := pgOk_few HE.out
        have : [declL p s, needL p s].flatten = declL p s ++ needL p s := by simp
        rw [this, List.length_append]
        omega)
      have HFL : Hid ([declL p s, needL p s].flatten = allN_ p s) := hid (by simp [allN_])
      have HAN : Hid ((allN_ p s).length ≤ 2000) := hid (by
        have h1 := decl_len p s
        have h2 := need_len HE.out s
        have h3 := pgOk_few HE.out
        unfold allN_
        rw [List.length_append]
        omega)
      have HAM : Hid (∀ nm ∈ allN_ p s, NmK nm ∧ ∃ x, findT (thingsL p) nm = some x) := hid (fun nm h => by
        obtain ⟨x, hx, rfl⟩ := alln_mem h
        exact ⟨thing_nmk (nmErr_zero HE.out).1 hx, thing_found hx⟩)
      have HPL : Hid (placesL p l s = (allN_ p s).map (plcF p l s)) := hid rfl
      go_wp2_with (fail)
      refine wp_region_held_drew (S := fun W => (W.cell? ⟨w.heap.size, 0, none⟩ = some (.int .i64 p.st) ∧ W.cell? ⟨w.heap.size, 1, none⟩ = some (.slice A0 p.ins.length A1) ∧ W.cell? ⟨w.heap.size, 2, none⟩ = some (.slice B0 p.flows.length B1) ∧ W.cell? ⟨w.heap.size, 3, none⟩ = some (.slice C0 p.outs.length C1)) ∧ W.cell? ⟨cb, 0, none⟩ = some (.int .i64 p.st) ∧ W.cell? ⟨cb, 1, none⟩ = some (.slice A0 p.ins.length A1) ∧ W.cell? ⟨cb, 2, none⟩ = some (.slice B0 p.flows.length B1) ∧ W.cell? ⟨cb, 3, none⟩ = some (.slice C0 p.outs.length C1) ∧ W.cell? ⟨cb, 4, none⟩ = some (.int .i64 s) ∧ W.cell? ⟨cb, 5, none⟩ = some (.map (some mb))) (by kernel_rfl) ?_ (fun hHeld => ?_)
      · exact C2.out.cells
      refine wpAnyH_take (i := 0) (oi := { dst := some 25, op := Go.Op.load 46 (Go.Operand.tmp 3), type := 46, pos := _, after := #[], guard := none }) (v := ?_) rfl (by kernel_rfl) (by kernel_rfl) (by kernel_rfl) (fun _ _ _ h => h) (Or.inl ⟨by rfl, ?_⟩) (by assumption) ?_
      rotate_left
      · intro w hSw; (try dsimp only at hSw); go_simp <;> first | with_reducible rfl | (rw [if_neg (by first | omega | (simp only [ByteArray.size_append] at *; omega))])
      simp only [Act.put, List.setIfInBounds_toArray, List.set_cons_zero, List.set_cons_succ]
      refine wpAnyH_take (i := 1) (oi := { dst := some 26, op := Go.Op.move (Go.Operand.tmp 2), type := 3, pos := _, after := #[], guard := none }) (v := ?_) rfl (by kernel_rfl) (by kernel_rfl) (by kernel_rfl) (fun _ _ _ h => h) (Or.inl ⟨by rfl, ?_⟩) (by assumption) ?_
      rotate_left
      · intro w hSw; (try dsimp only at hSw); go_simp <;> first | with_reducible rfl | (rw [if_neg (by first | omega | (simp only [ByteArray.size_append] at *; omega))])
      simp only [Act.put, List.setIfInBounds_toArray, List.set_cons_zero, List.set_cons_succ]
      refine wpAnyH_take (i := 3) (oi := { dst := some 28, op := Go.Op.load 79 (Go.Operand.tmp 8), type := 79, pos := _, after := #[], guard := none }) (v := ?_) rfl (by kernel_rfl) (by kernel_rfl) (by kernel_rfl) (fun _ _ _ h => h) (Or.inl ⟨by rfl, ?_⟩) (by assumption) ?_
      rotate_left
      · intro w hSw; (try dsimp only at hSw); go_simp <;> first | with_reducible rfl | (rw [if_neg (by first | omega | (simp only [ByteArray.size_append] at *; omega))])
      simp only [Act.put, List.setIfInBounds_toArray, List.set_cons_zero, List.set_cons_succ]
      refine wpAnyH_take (i := 8) (oi := { dst := some 33, op := Go.Op.move (Go.Operand.const (Go.Value.int Go.IntKind.i64 0)), type := 3, pos := _, after := #[], guard := none }) (v := ?_) rfl (by kernel_rfl) (by kernel_rfl) (by kernel_rfl) (fun _ _ _ h => h) (Or.inl ⟨by rfl, ?_⟩) (by assumption) ?_
      rotate_left
      · intro w hSw; (try dsimp only at hSw); go_simp <;> first | with_reducible rfl | (rw [if_neg (by first | omega | (simp only [ByteArray.size_append] at *; omega))])
      simp only [Act.put, List.setIfInBounds_toArray, List.set_cons_zero, List.set_cons_succ]
      refine wpAnyH_ready (rs := [2]) (by kernel_rfl) (by simp) ?_
      refine AllReadyH.cons (o := { dst := some 27, op := Go.Op.call { callee := Go.Callee.value (Go.Operand.func 29), args := #[Go.Operand.tmp 25, Go.Operand.tmp 26], argTypes := #[46, 3] }, type := 44, pos := _, after := #[{ on := 0, ground := Go.Ground.data }, { on := 1, ground := Go.Ground.data }], guard := none }) rfl (fun K hK => ?_) AllReadyH.nil
      go_simp
      refine (declared p s _ _ _ _ (C2.out.fv.P.keep (Below.refl _ _).drew) (by have := pgOk_few HE.out; omega) (by have := pgOk_few HE.out; omega)).mono ?_
      rintro e w3 ⟨u, rfl, hrow, hb3⟩
      have hb3' := (Below.refl _ _).drew.trans hb3
      have C3 := hid (C2.out.keep hb3')
      obtain ⟨ua, uc, hue⟩ : ∃ ua uc, u = .slice ua (declL p s).length uc := by
        rcases hrow.2 with ⟨h1, h2⟩ | ⟨g, c, cur, h1, _⟩
        · exact ⟨none, 0, by rw [h1, h2]⟩
        · exact ⟨_, _, h1⟩
      subst hue
      have R3 := hid (TxR.of_own hrow)
      clear hrow hb3 hb3'
      go_wp2_with fail
      refine hK.out _ _ ?_ (fun hHeld1 => ?_)
      · exact C3.out.cells
      clear hK K
      refine wpAnyH_ready (rs := [4]) (by kernel_rfl) (by simp) ?_
      refine AllReadyH.cons (o := { dst := some 29, op := Go.Op.call { callee := Go.Callee.value (Go.Operand.func 30), args := #[Go.Operand.tmp 28], argTypes := #[79] }, type := 44, pos := _, after := #[{ on := 3, ground := Go.Ground.data }, { on := 2, ground := Go.Ground.chain }], guard := none }) rfl (fun K hK => ?_) AllReadyH.nil
      go_simp
      refine (needs_ p s mb _ _ _ _ C3.out.fv.P HE.out C3.out.am).mono ?_
      rintro e w4 ⟨n, rfl, hrow, hb4⟩
      have C4 := hid (C3.out.keep hb4)
      have R3' := hid (R3.out.keep hb4)
      obtain ⟨na, nc, hne⟩ : ∃ na nc, n = .slice na (needL p s).length nc := by
        rcases hrow.2 with ⟨h1, h2⟩ | ⟨g, c, cur, h1, _⟩
        · exact ⟨none, 0, by rw [h1, h2]⟩
        · exact ⟨_, _, h1⟩
      subst hne
      have R4 := hid (TxR.of_own hrow)
      clear hrow hb4
      go_wp2_with fail
      refine hK.out _ _ ?_ (fun hHeld2 => ?_)
      · exact C4.out.cells
      clear hK K
      have hal5 := (Below.refl w4.heap.size w4).alloc (Nat.le_refl _) (.cells #[.slice ua (declL p s).length uc, .slice na (needL p s).length nc] 44)
      have C5 := hid (C4.out.keep hal5)
      have L5 : Hid (LLs (w4.alloc (.cells #[.slice ua (declL p s).length uc, .slice na (needL p s).length nc] 44)) (.slice (some ⟨w4.heap.size, 0, none⟩) 2 2) [declL p s, needL p s]) := hid (lls_two (R3'.out.keep hal5) (R4.out.keep hal5) (heap_alloc_new w4 _))
      clear hal5
      refine wpAnyH_ready (rs := [5]) (by kernel_rfl) (by simp) ?_
      refine AllReadyH.cons (o := { dst := some 30, op := Go.Op.buildSlice 113 2 #[(0, Go.Operand.tmp 27), (1, Go.Operand.tmp 29)], type := 113, pos := _, after := #[{ on := 2, ground := Go.Ground.data }, { on := 4, ground := Go.Ground.data }], guard := none }) rfl (fun K hK => ?_) AllReadyH.nil
      go_simp
      refine hK.out _ _ ?_ (fun hHeldB5 => ?_)
      · exact C5.out.cells
      clear hK K
      refine wpAnyH_ready (rs := [6]) (by kernel_rfl) (by simp) ?_
      refine AllReadyH.cons (o := { dst := some 31, op := Go.Op.call { callee := Go.Callee.value (Go.Operand.func 28), args := #[Go.Operand.tmp 30], argTypes := #[113] }, type := 44, pos := _, after := #[{ on := 5, ground := Go.Ground.data }, { on := 4, ground := Go.Ground.chain }], guard := none }) rfl (fun K hK => ?_) AllReadyH.nil
      go_simp
      refine (concat_ [declL p s, needL p s] _ _ L5.out HN2.out (by show (2 : Nat) ≤ _; omega)).mono ?_
      rintro e w6 ⟨r, rfl, hrow6, hb6⟩
      have C6 := hid (C5.out.keep hb6)
      rw [HFL.out] at hrow6
      obtain ⟨ra, rc, hre⟩ : ∃ ra rc, r = .slice ra (allN_ p s).length rc := by
        rcases hrow6.2 with ⟨h1, h2⟩ | ⟨g, c, cur, h1, _⟩
        · exact ⟨none, 0, by rw [h1, h2]⟩
        · exact ⟨_, _, h1⟩
      subst hre
      have R6 := hid (TxR.of_own hrow6)
      clear hrow6 hb6
      go_wp2_with fail
      refine hK.out _ _ ?_ (fun hHeld1 => ?_)
      · exact C6.out.cells
      clear hK K
      refine wpAnyH_take (i := 7) (oi := { dst := some 32, op := Go.Op.call { callee := Go.Callee.builtin Go.Builtin.len, args := #[Go.Operand.tmp 31], argTypes := #[44] }, type := 3, pos := _, after := #[{ on := 6, ground := Go.Ground.data }], guard := none }) (v := ?_) rfl (by kernel_rfl) (by kernel_rfl) (by kernel_rfl) (fun _ _ _ h => h) (Or.inl ⟨by rfl, ?_⟩) (by assumption) ?_
      rotate_left
      · intro w hSw; (try dsimp only at hSw); go_simp <;> first | with_reducible rfl | (rw [if_neg (by first | omega | (simp only [ByteArray.size_append] at *; omega))])
      simp only [Act.put, List.setIfInBounds_toArray, List.set_cons_zero, List.set_cons_succ]
      refine wpAnyH_done (by kernel_rfl) ?_ _
      have HAN2 := HAN.out
      generalize allN_ p s = F at *
      go_wp2_with (fail)
      go_loopw [10, 33] (fun x i wr => ∃ k : Nat, k ≤ F.length ∧ i = .int .i64 (k : Int) ∧ Hid (PsI w6 x ((F.take k).map (plcF p l s)) wr)) (fun _ i _ => F.length - (intOf i).toNat)
      case atStart => exact ⟨0, Nat.zero_le _, rfl, hid ⟨⟨rfl, .inl ⟨rfl, rfl⟩⟩, Below.refl _ _⟩⟩
      case round =>
        obtain ⟨k, hk, rfl, HS⟩ := hrel
        by_cases hlt : k < F.length
        · have hlt' : (k : Int) < (F.length : Int) := by omega
          have hk0 : (0 : Int) ≤ (k : Int) := by omega
          obtain ⟨g, rfl, hcl⟩ : ∃ g, ra = some ⟨g, 0, none⟩ ∧ ∀ i u, (txC F)[i]? = some u → w6.cell? ⟨g, i, none⟩ = some u := by
            rcases R6.out with ⟨_, h2⟩ | ⟨g', c', h1, h2⟩
            · rw [h2] at hlt; cases hlt
            · injection h1 with h1 _ _
              exact ⟨g', h1, h2⟩
          have hx := cell_kept (hcl k (.string F[k]) (by simp [txC, hlt])) HS.out.below
          obtain ⟨hnk, xf, hxf⟩ := HAM.out _ (List.getElem_mem hlt)
          have HF : Hid ((F.take (k + 1)).map (plcF p l s) = (F.take k).map (plcF p l s) ++ [plcF p l s F[k]]) := hid (by rw [List.take_succ_eq_append_getElem hlt, List.map_append]; rfl)
          have hle : ((F.take k).map (plcF p l s)).length ≤ 2000 := by rw [List.length_map, List.length_take]; omega
          have CW := hid (C6.out.keep HS.out.below)
          have cp := place_ p s mb F[k] hnk l _ wr _ _ _ xf hxf CW.out.fv.P HE.out CW.out.am (HI.out.keep CW.out.fv.below) HFI.out.1 HFI.out.2
          clear hcl hnk hxf
          generalize (F.take k).map (plcF p l s) = L0 at *
          generalize F[k] = y at *
          generalize plcF p l s y = P0 at *
          obtain ⟨⟨_, _, _, _⟩, y0, y1, y2, y3, y4, y5⟩ := CW.out.cells
          go_wp2_with (fail)
          refine cp.mono ?_
          rintro e w7 ⟨rfl, hb7⟩
          have hal := (Below.refl w7.heap.size w7).alloc (Nat.le_refl _) (.cells (plcC P0).toArray 55)
          have S7 := hid (HS.out.keep (hb7.trans (hal.mono hb7.size)))
          have HNX := hid (next_cells w7 (plcC P0) 55)
          have hs7 := S7.out.below.size
          clear hb7 hal cp y0 y1 y2 y3 y4 y5
          go_wp2_with (at_builtin
                       refine wpList_append_own_at _ rfl _ _ 22 rfl w6.heap.size 55 i0 (.agg #[.string ByteArray.empty, .int .u8 0, .int .i64 0, .bool false, .int .i64 0, .int .i64 0]) 6 56 Tryd.underlying22 hi hz0 hz1 hz2 rfl (by decide) _ _ _ rfl S7.out.row ⟨w7.heap.size, 0, none⟩ 1 1 (plcC P0) rfl rfl HNX.out (by simp [Value.oneCell']) (by unfold maxLen; omega) (by omega) hs7 ?_
                       intro v' w8 hown' hgrow _ _
                       have S8 := hid (S7.out.grown hgrow hown')
                       clear hown' hgrow)
          go_roundw
          case rel => exact ⟨k + 1, by omega, by go_num, hid (by rw [HF.out]; exact S8.out)⟩
          case measure => simp [intOf]; omega
        · have hlt' : ¬ (k : Int) < (F.length : Int) := by omega
          have HE2 : Hid ((F.take k).map (plcF p l s) = placesL p l s) := hid (by rw [List.take_of_length_le (by omega), HPL.out])
          have hS := HS.out
          rw [HE2.out] at hS
          have S9 := hid hS
          have HV : Hid (∀ x, wr.ownsRow w6.heap.size 55 6 x (placesL p l s).length (plsC (placesL p l s)) → PlE w p l s (.returned (.tuple #[x, .int .i64 0])) wr) := hid (fun x hx => .inr (.inr ⟨HST.out, HLT.out, x, rfl, ownsRow_mono hx C6.out.fv.below.size⟩))
          clear hS HS HE2
          go_wp2_with (fail)
          (try simp only [Exit.inBlock, Exit.then])
          refine bodyPost_ret (RT _ _ _) rfl ⟨HV.out _ S9.out.row, C6.out.fv.below.trans (S9.out.below.mono C6.out.fv.below.size)⟩
end Go.Proofs.YtdenddknbmiboaaDoor.Lex
