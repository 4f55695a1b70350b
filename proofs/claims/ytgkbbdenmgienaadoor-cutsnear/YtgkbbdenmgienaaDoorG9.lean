/-
  What a station sends, needs, keeps: Sends, Needs, Places.
  What a station keeps: Places.
  Programs and what is worked out, as the law builds them: rows, names, two, pre.
  A drawn region, operation by operation, where operations without a slot store into one block: what each slot holds when its operation has come up is said once, and each operation is met once, whatever the order.
  The chapter's program, as the law builds it: the contract of Known.
  What the chapter's calls answer: closed facts.
  What the chapter's calls answer: closed facts of stations.
  lives: the chapter's stations answer what the chapter says.
  What stations send and need: plain mathematics.
  What stations need: plain mathematics.
  great: where it says no, the rows are short.
-/
import Derived.Test.YtgkbbdenmgienaaDoorG8
import Derived.Test.YtgkbbdenmgienaaDoorG6
import Derived.Laws.ResultCell
import Derived.BigRegionIn
import Derived.Laws.StructEq
namespace Go.Proofs.YtgkbbdenmgienaaDoor.Lex
open Go.ChangeShapes Go.WideShapes Go.ChangeAt Go.RowKit Go.Joins
attribute [local go_sem] Oper.semAt_some
/-- A program and a cut in their variables. -/
structure PbI (w : World) (p : Pg) (A B C : Value) (s : Int) (mb cb : Nat) (W : World) : Prop where
  fv : FV w p A B C W
  cut : CutAt W cb (cutC p A B C s mb)
  am : AMr W mb (akAll p)
theorem PbI.keep {w W W' : World} {p : Pg} {A B C : Value} {s : Int} {mb cb : Nat} (h : PbI w p A B C s mb cb W) (hb : Below W.heap.size W W') : PbI w p A B C s mb cb W' := ⟨h.fv.keep hb, h.cut.keep hb, h.am.keep hb⟩
theorem PbI.cells {w W : World} {p : Pg} {A B C : Value} {s : Int} {mb cb : Nat} (h : PbI w p A B C s mb cb W) : (W.cell? ⟨w.heap.size, 0, none⟩ = some (.int .i64 p.st) ∧ W.cell? ⟨w.heap.size, 1, none⟩ = some A ∧ W.cell? ⟨w.heap.size, 2, none⟩ = some B ∧ W.cell? ⟨w.heap.size, 3, none⟩ = some C) ∧ W.cell? ⟨cb, 0, none⟩ = some (.int .i64 p.st) ∧ W.cell? ⟨cb, 1, none⟩ = some A ∧ W.cell? ⟨cb, 2, none⟩ = some B ∧ W.cell? ⟨cb, 3, none⟩ = some C ∧ W.cell? ⟨cb, 4, none⟩ = some (.int .i64 s) ∧ W.cell? ⟨cb, 5, none⟩ = some (.map (some mb)) := ⟨row4 h.fv.row, h.cut.cells⟩
theorem lls_one {W : World} {g : Nat} {u : Value} {l : List ByteArray} (h : TxR W u l) (hg : W.heap[g]? = some (.cells #[u] 24 (0, 0))) : LLs W (.slice (some ⟨g, 0, none⟩) 1 1) [l] :=
  ⟨_, 1, rfl, .inr ⟨g, 0, rfl, fun i hi => by
    have : i = 0 := by simp at hi; omega
    subst this
    exact ⟨u, (cell_of_row _ _ _ _ 24 (0, 0) hg).trans rfl, h⟩⟩⟩
theorem ak_len {p : Pg} (hE : nmErr p = 0) : (akAll p).length ≤ 1000000 := by
  have h1 := akN_len (nm_chk hE) p.flows.length (Nat.le_refl _)
  have h2 := pgOk_few hE
  unfold akAll
  omega
theorem decl_few {p : Pg} (hE : nmErr p = 0) (s : Int) : [declL p s].flatten.length ≤ 1000000 := by
  have h1 := decl_len p s
  have h2 := pgOk_few hE
  have : [declL p s].flatten = declL p s := by simp
  rw [this]
  omega
theorem decl_nmk {p : Pg} (hE : nmErr p = 0) (s : Int) : ∀ nm ∈ declL p s, NmK nm := fun nm h => by
  obtain ⟨x, hx, e, _⟩ := declL_mem.1 h
  rw [← e]
  exact thing_nmk (nmErr_zero hE).1 hx
theorem decl_nmk1 {p : Pg} (hE : nmErr p = 0) (s : Int) : ∀ nm ∈ [declL p s].flatten, NmK nm := by
  have : [declL p s].flatten = declL p s := by simp
  rw [this]
  exact decl_nmk hE s
theorem st_nm {p : Pg} {s : Int} (h : stOk p s = true) : nmErr p = 0 := by
  unfold stOk at h
  simp only [Bool.and_eq_true, decide_eq_true_eq] at h
  exact h.1
/-- What is sent, what is needed. -/
def sendsA (p : Pg) (s : Int) : List ByteArray := if stOk p s then sentF s (akAll p) (declL p s) else []
def needsA (p : Pg) (s : Int) : List ByteArray := if stOk p s then needL p s else []
set_option maxRecDepth 100000 in
set_option maxHeartbeats 4000000 in
theorem sends_ (p : Pg) (s : Int) (w : World) (A B C : Value) (hP : PgAt w p A B C) (hR : TabR w) (hJ : TabJ w) : Calls Tryd.prog 8 #[pgV p A B C, .int .i64 s] w fun e w' => ∃ r, e = .returned r ∧ RowN w' w.heap.size r (sendsA p s) ∧ Below w.heap.size w w' := by
  obtain ⟨A0, A1, rfl, _⟩ := hP.ins
  obtain ⟨B0, B1, _, rfl, _⟩ := hP.flows
  obtain ⟨C0, C1, rfl, _⟩ := hP.outs
  have X0 := hid (FV.new hP hR hJ)
  clear hP hR hJ
  have hmf : ∀ (fn : Fn) (first cap : Array Value) (w : World), (Instr.makeFunc fn first cap).run Tryd.prog w = .ok (.func fn first cap) w := fun _ _ _ _ => rfl
  go_enter Tryd.func8, Tryd.ntmps8
  obtain ⟨r0, r1, r2, r3⟩ := row4 X0.out.row
  go_wp2_with (fail)
  refine (cut_of p s _ _ _ _ X0.out.P X0.out.R X0.out.J).mono ?_
  rintro e w1 ⟨hO, hb1⟩
  have X1 := hid (X0.out.keep hb1)
  clear hb1 X0 r0 r1 r2 r3
  rcases hO with ⟨hst, rfl⟩ | ⟨mb, hst, rfl, hA⟩
  · have HV : Hid (∀ W, RowN W w.heap.size (.slice none 0 0) (sendsA p s)) := hid (fun W => by unfold sendsA; rw [hst]; exact ⟨rfl, .inl ⟨rfl, rfl⟩⟩)
    clear hst
    go_wp2_with (fail)
    go_ret
    exact ⟨_, rfl, HV.out _, X1.out.below.alloc X1.out.below.size _⟩
  · have HE := hid (st_nm hst)
    have HST := hid hst
    have hal := (Below.refl w1.heap.size w1).alloc (Nat.le_refl _) (.cells (cutC p (.slice A0 p.ins.length A1) (.slice B0 p.flows.length B1) (.slice C0 p.outs.length C1) s mb) 70)
    have XV0 := X1.out.keep hal
    have CV0 : CutAt (w1.alloc (.cells (cutC p (.slice A0 p.ins.length A1) (.slice B0 p.flows.length B1) (.slice C0 p.outs.length C1) s mb) 70)) w1.heap.size (cutC p (.slice A0 p.ins.length A1) (.slice B0 p.flows.length B1) (.slice C0 p.outs.length C1) s mb) := heap_alloc_new w1 _
    have MV0 := hA.keep hal
    obtain ⟨W2, hW2⟩ : ∃ W2, w1.alloc (.cells (cutC p (.slice A0 p.ins.length A1) (.slice B0 p.flows.length B1) (.slice C0 p.outs.length C1) s mb) 70) = W2 := ⟨_, rfl⟩
    rw [hW2] at XV0 CV0 MV0
    have CI := hid (PbI.mk XV0 CV0 MV0)
    have HW2 := hid hW2
    clear hal XV0 CV0 MV0 hW2 hA hst X1
    obtain ⟨cb, hcb⟩ : ∃ cb, cb = w1.heap.size := ⟨_, rfl⟩
    rw [← hcb] at CI
    have HCB := hid hcb
    clear hcb
    have HSA : Hid (sentF s (akAll p) [declL p s].flatten = sendsA p s) := hid (by unfold sendsA; rw [HST.out]; simp)
    go_wp2_with (rw [HW2.out, ← HCB.out])
    refine wp_region_held_drew (S := fun W => (W.cell? ⟨w.heap.size, 0, none⟩ = some (.int .i64 p.st) ∧ W.cell? ⟨w.heap.size, 1, none⟩ = some (.slice A0 p.ins.length A1) ∧ W.cell? ⟨w.heap.size, 2, none⟩ = some (.slice B0 p.flows.length B1) ∧ W.cell? ⟨w.heap.size, 3, none⟩ = some (.slice C0 p.outs.length C1)) ∧ W.cell? ⟨cb, 0, none⟩ = some (.int .i64 p.st) ∧ W.cell? ⟨cb, 1, none⟩ = some (.slice A0 p.ins.length A1) ∧ W.cell? ⟨cb, 2, none⟩ = some (.slice B0 p.flows.length B1) ∧ W.cell? ⟨cb, 3, none⟩ = some (.slice C0 p.outs.length C1) ∧ W.cell? ⟨cb, 4, none⟩ = some (.int .i64 s) ∧ W.cell? ⟨cb, 5, none⟩ = some (.map (some mb))) (by kernel_rfl) ?_ (fun hHeld => ?_)
    · exact CI.out.cells
    refine wpAnyH_take (i := 0) (oi := { dst := some 15, op := Go.Op.load 70 (Go.Operand.tmp 5), type := 70, pos := _, after := #[], guard := none }) (v := ?_) rfl (by kernel_rfl) (by kernel_rfl) (by kernel_rfl) (fun _ _ _ h => h) (Or.inl ⟨by rfl, ?_⟩) (by assumption) ?_
    rotate_left
    · intro w hSw; (try dsimp only at hSw); go_simp <;> first | with_reducible rfl | (rw [if_neg (by first | omega | (simp only [ByteArray.size_append] at *; omega))])
    simp only [Act.put, List.setIfInBounds_toArray, List.set_cons_zero, List.set_cons_succ]
    refine wpAnyH_take (i := 1) (oi := { dst := some 16, op := Go.Op.makeFunc (Go.Fn.func 22) #[Go.Operand.tmp 15] #[], type := 74, pos := _, after := #[{ on := 0, ground := Go.Ground.data }], guard := none }) (v := ?_) rfl (by kernel_rfl) (by kernel_rfl) (by kernel_rfl) (fun _ _ _ h => h) (Or.inl ⟨by rfl, ?_⟩) (by assumption) ?_
    rotate_left
    · intro w hSw; (try dsimp only at hSw); go_simp <;> first | with_reducible rfl | (rw [if_neg (by first | omega | (simp only [ByteArray.size_append] at *; omega))])
    simp only [Act.put, List.setIfInBounds_toArray, List.set_cons_zero, List.set_cons_succ]
    refine wpAnyH_take (i := 2) (oi := { dst := some 17, op := Go.Op.load 26 (Go.Operand.tmp 2), type := 26, pos := _, after := #[], guard := none }) (v := ?_) rfl (by kernel_rfl) (by kernel_rfl) (by kernel_rfl) (fun _ _ _ h => h) (Or.inl ⟨by rfl, ?_⟩) (by assumption) ?_
    rotate_left
    · intro w hSw; (try dsimp only at hSw); go_simp <;> first | with_reducible rfl | (rw [if_neg (by first | omega | (simp only [ByteArray.size_append] at *; omega))])
    simp only [Act.put, List.setIfInBounds_toArray, List.set_cons_zero, List.set_cons_succ]
    refine wpAnyH_take (i := 3) (oi := { dst := some 18, op := Go.Op.move (Go.Operand.tmp 1), type := 3, pos := _, after := #[], guard := none }) (v := ?_) rfl (by kernel_rfl) (by kernel_rfl) (by kernel_rfl) (fun _ _ _ h => h) (Or.inl ⟨by rfl, ?_⟩) (by assumption) ?_
    rotate_left
    · intro w hSw; (try dsimp only at hSw); go_simp <;> first | with_reducible rfl | (rw [if_neg (by first | omega | (simp only [ByteArray.size_append] at *; omega))])
    simp only [Act.put, List.setIfInBounds_toArray, List.set_cons_zero, List.set_cons_succ]
    refine wpAnyH_ready (rs := [4]) (by kernel_rfl) (by simp) ?_
    refine AllReadyH.cons (o := { dst := some 19, op := Go.Op.call { callee := Go.Callee.value (Go.Operand.func 23), args := #[Go.Operand.tmp 17, Go.Operand.tmp 18], argTypes := #[26, 3] }, type := 24, pos := _, after := #[{ on := 2, ground := Go.Ground.data }, { on := 3, ground := Go.Ground.data }], guard := none }) rfl (fun K hK => ?_) AllReadyH.nil
    go_simp
    refine (declared p s _ _ _ _ (CI.out.fv.P.keep (Below.refl _ _).drew) (by have := pgOk_few HE.out; omega) (by have := pgOk_few HE.out; omega)).mono ?_
    rintro e w3 ⟨u, rfl, hrow, hb3⟩
    have hb3' := (Below.refl _ _).drew.trans hb3
    have C3 := hid (CI.out.keep hb3')
    obtain ⟨ua, uc, hue⟩ : ∃ ua uc, u = .slice ua (declL p s).length uc := by
      rcases hrow.2 with ⟨h1, h2⟩ | ⟨g, c, cur, h1, _⟩
      · exact ⟨none, 0, by rw [h1, h2]⟩
      · exact ⟨_, _, h1⟩
    subst hue
    have R3 := hid (TxR.of_own hrow)
    clear hrow hb3 hb3'
    go_wp2_with fail
    refine hK.out _ _ ?_ (fun hHeld1 => ?_)
    · exact C3.out.cells
    clear hK K
    have hal5 := (Below.refl w3.heap.size w3).alloc (Nat.le_refl _) (.cells #[.slice ua (declL p s).length uc] 24)
    have C5 := hid (C3.out.keep hal5)
    have L5 : Hid (LLs (w3.alloc (.cells #[.slice ua (declL p s).length uc] 24)) (.slice (some ⟨w3.heap.size, 0, none⟩) 1 1) [declL p s]) := hid (lls_one (R3.out.keep hal5) (heap_alloc_new w3 _))
    clear hal5
    refine wpAnyH_ready (rs := [5]) (by kernel_rfl) (by simp) ?_
    refine AllReadyH.cons (o := { dst := some 20, op := Go.Op.buildSlice 100 1 #[(0, Go.Operand.tmp 19)], type := 100, pos := _, after := #[{ on := 4, ground := Go.Ground.data }], guard := none }) rfl (fun K hK => ?_) AllReadyH.nil
    go_simp
    refine hK.out _ _ ?_ (fun hHeldB5 => ?_)
    · exact C5.out.cells
    clear hK K
    refine wpAnyH_ready (rs := [6]) (by kernel_rfl) (by simp) ?_
    refine AllReadyH.cons (o := { dst := some 21, op := Go.Op.call { callee := Go.Callee.value (Go.Operand.func 21), args := #[Go.Operand.tmp 16, Go.Operand.tmp 20], argTypes := #[74, 100] }, type := 24, pos := _, after := #[{ on := 1, ground := Go.Ground.data }, { on := 5, ground := Go.Ground.data }, { on := 4, ground := Go.Ground.chain }], guard := none }) rfl (fun K hK => ?_) AllReadyH.nil
    go_simp
    refine (gathered_sent p (.slice A0 p.ins.length A1) (.slice B0 p.flows.length B1) (.slice C0 p.outs.length C1) s mb (akAll p) (ak_len HE.out) [declL p s] _ _ L5.out (decl_few HE.out s) (by show (1 : Nat) ≤ _; omega) (decl_nmk1 HE.out s) C5.out.am).mono ?_
    rintro e w6 ⟨r, rfl, hrow6, hb6⟩
    have C6 := hid (C5.out.keep hb6)
    have R6 := hid hrow6
    have HS6 := hid C5.out.fv.below.size
    clear hrow6 hb6
    go_wp2_with fail
    refine hK.out _ _ ?_ (fun hHeld1 => ?_)
    · exact C6.out.cells
    clear hK K
    refine wpAnyH_take (i := 7) (oi := { dst := some 4, op := Go.Op.assign (Go.Operand.tmp 21), type := 24, pos := _, after := #[{ on := 6, ground := Go.Ground.data }, { on := 6, ground := Go.Ground.chain }, { on := 0, ground := Go.Ground.phase }, { on := 1, ground := Go.Ground.phase }, { on := 2, ground := Go.Ground.phase }, { on := 3, ground := Go.Ground.phase }, { on := 4, ground := Go.Ground.phase }, { on := 5, ground := Go.Ground.phase }, { on := 6, ground := Go.Ground.phase }], guard := none }) (v := ?_) rfl (by kernel_rfl) (by kernel_rfl) (by kernel_rfl) (fun _ _ _ h => h) (Or.inl ⟨by rfl, ?_⟩) (by assumption) ?_
    rotate_left
    · intro w hSw; (try dsimp only at hSw); go_simp <;> first | with_reducible rfl | (rw [if_neg (by first | omega | (simp only [ByteArray.size_append] at *; omega))])
    simp only [Act.put, List.setIfInBounds_toArray, List.set_cons_zero, List.set_cons_succ]
    refine wpAnyH_done (by kernel_rfl) ?_ _
    have hR6 := R6.out
    rw [HSA.out] at hR6
    have R7 := hid (ownsRow_mono hR6 HS6.out)
    clear hR6
    go_wp2_with (fail)
    go_ret
    exact ⟨_, rfl, R7.out, C6.out.fv.below⟩
set_option maxRecDepth 100000 in
set_option maxHeartbeats 4000000 in
theorem needsf_ (p : Pg) (s : Int) (w : World) (A B C : Value) (hP : PgAt w p A B C) (hR : TabR w) (hJ : TabJ w) : Calls Tryd.prog 9 #[pgV p A B C, .int .i64 s] w fun e w' => ∃ r, e = .returned r ∧ RowN w' w.heap.size r (needsA p s) ∧ Below w.heap.size w w' := by
  obtain ⟨A0, A1, rfl, _⟩ := hP.ins
  obtain ⟨B0, B1, _, rfl, _⟩ := hP.flows
  obtain ⟨C0, C1, rfl, _⟩ := hP.outs
  have X0 := hid (FV.new hP hR hJ)
  clear hP hR hJ
  have hmf : ∀ (fn : Fn) (first cap : Array Value) (w : World), (Instr.makeFunc fn first cap).run Tryd.prog w = .ok (.func fn first cap) w := fun _ _ _ _ => rfl
  go_enter Tryd.func9, Tryd.ntmps9
  obtain ⟨r0, r1, r2, r3⟩ := row4 X0.out.row
  go_wp2_with (fail)
  refine (cut_of p s _ _ _ _ X0.out.P X0.out.R X0.out.J).mono ?_
  rintro e w1 ⟨hO, hb1⟩
  have X1 := hid (X0.out.keep hb1)
  clear hb1 X0 r0 r1 r2 r3
  rcases hO with ⟨hst, rfl⟩ | ⟨mb, hst, rfl, hA⟩
  · have HV : Hid (∀ W, RowN W w.heap.size (.slice none 0 0) (needsA p s)) := hid (fun W => by unfold needsA; rw [hst]; exact ⟨rfl, .inl ⟨rfl, rfl⟩⟩)
    clear hst
    go_wp2_with (fail)
    go_ret
    exact ⟨_, rfl, HV.out _, X1.out.below.alloc X1.out.below.size _⟩
  · have HE := hid (st_nm hst)
    have HST := hid hst
    have hal := (Below.refl w1.heap.size w1).alloc (Nat.le_refl _) (.cells (cutC p (.slice A0 p.ins.length A1) (.slice B0 p.flows.length B1) (.slice C0 p.outs.length C1) s mb) 70)
    have XV0 := X1.out.keep hal
    have CV0 : CutAt (w1.alloc (.cells (cutC p (.slice A0 p.ins.length A1) (.slice B0 p.flows.length B1) (.slice C0 p.outs.length C1) s mb) 70)) w1.heap.size (cutC p (.slice A0 p.ins.length A1) (.slice B0 p.flows.length B1) (.slice C0 p.outs.length C1) s mb) := heap_alloc_new w1 _
    have MV0 := hA.keep hal
    obtain ⟨W2, hW2⟩ : ∃ W2, w1.alloc (.cells (cutC p (.slice A0 p.ins.length A1) (.slice B0 p.flows.length B1) (.slice C0 p.outs.length C1) s mb) 70) = W2 := ⟨_, rfl⟩
    rw [hW2] at XV0 CV0 MV0
    have CI := hid (PbI.mk XV0 CV0 MV0)
    have HW2 := hid hW2
    clear hal XV0 CV0 MV0 hW2 hA hst X1
    obtain ⟨cb, hcb⟩ : ∃ cb, cb = w1.heap.size := ⟨_, rfl⟩
    rw [← hcb] at CI
    have HCB := hid hcb
    clear hcb
    have HSA : Hid (needL p s = needsA p s) := hid (by unfold needsA; rw [HST.out]; rfl)
    obtain ⟨⟨_, _, _, _⟩, y0, y1, y2, y3, y4, y5⟩ := CI.out.cells
    go_wp2_with (rw [HW2.out, ← HCB.out])
    refine (needs_ p s mb _ _ _ _ CI.out.fv.P HE.out CI.out.am).mono ?_
    rintro e w6 ⟨r, rfl, hrow6, hb6⟩
    rw [HSA.out] at hrow6
    have R7 := hid (ownsRow_mono hrow6 CI.out.fv.below.size)
    have C6 := hid (CI.out.keep hb6)
    clear hrow6 hb6 y0 y1 y2 y3 y4 y5
    go_wp2_with (fail)
    go_ret
    exact ⟨_, rfl, R7.out, C6.out.fv.below⟩
end Go.Proofs.YtgkbbdenmgienaaDoor.Lex
namespace Go.Proofs.YtgkbbdenmgienaaDoor.Lex
open Go.ChangeShapes Go.WideShapes Go.ChangeAt Go.RowKit Go.Joins
attribute [local go_sem] Oper.semAt_some
theorem lls_two {W : World} {g : Nat} {u v : Value} {l m : List ByteArray} (h : TxR W u l) (h' : TxR W v m) (hg : W.heap[g]? = some (.cells #[u, v] 24 (0, 0))) : LLs W (.slice (some ⟨g, 0, none⟩) 2 2) [l, m] :=
  ⟨_, 2, rfl, .inr ⟨g, 0, rfl, fun i hi => by
    have hi2 : i < 2 := hi
    match i, hi2 with
    | 0, _ => exact ⟨u, (cell_of_row _ _ _ _ 24 (0, 0) hg).trans rfl, h⟩
    | 1, _ => exact ⟨v, (cell_of_row _ _ _ _ 24 (0, 0) hg).trans rfl, h'⟩⟩⟩
/-- All names that a station keeps. -/
def allN_ (p : Pg) (s : Int) : List ByteArray := declL p s ++ needL p s
theorem thing_found {l : List (Int × Hd)} {x : Int × Hd} (hx : x ∈ l) : ∃ y, findT l x.2.name = some y := by
  cases e : findT l x.2.name with
  | some y => exact ⟨y, rfl⟩
  | none =>
    unfold findT at e
    have := List.find?_eq_none.1 e x hx
    simp at this
theorem need_mem {p : Pg} {s : Int} {nm : ByteArray} (h : nm ∈ needL p s) : ∃ x ∈ thingsL p, x.2.name = nm := by
  obtain ⟨i, _, _, h3⟩ := oth_mem.1 (List.mem_filter.1 h).1
  obtain ⟨x, hx, e, _⟩ := declL_mem.1 h3
  exact ⟨x, hx, e⟩
theorem alln_mem {p : Pg} {s : Int} {nm : ByteArray} (h : nm ∈ allN_ p s) : ∃ x ∈ thingsL p, x.2.name = nm := by
  rcases List.mem_append.1 h with h | h
  · obtain ⟨x, hx, e, _⟩ := declL_mem.1 h
    exact ⟨x, hx, e⟩
  · exact need_mem h
theorem need_len {p : Pg} (hE : nmErr p = 0) (s : Int) : (needL p s).length ≤ 1600 := by
  have h1 := askedF_len s (akAll p) (othL p s p.st.toNat).flatten
  have h2 := (oth_len p s p.st.toNat).2
  have h3 := pgOk_few hE
  have h4 : p.st.toNat ≤ 8 := by
    have h := (nmErr_zero hE).1
    unfold pgOk inR at h
    simp only [Bool.and_eq_true, decide_eq_true_eq] at h
    omega
  have h5 : p.st.toNat * (p.ins.length + p.flows.length) ≤ 8 * 192 := Nat.mul_le_mul h4 (by omega)
  unfold needL
  omega
/-- What a station keeps. -/
def placesL (p : Pg) (l : List Int) (s : Int) : List Plc := (allN_ p s).map (plcF p l s)
def plsC (l : List Plc) : List Value := (l.map plcC).flatten
theorem plsC_len (l : List Plc) : (plsC l).length = l.length * 6 := by
  induction l with
  | nil => rfl
  | cons a l ih =>
    show (plcC a ++ plsC l).length = _
    rw [List.length_append, ih]
    simp
    omega
theorem plsC_at (l : List Plc) : ∀ i (h : i < l.length) j, j < 6 → (plsC l)[i * 6 + j]? = (plcC l[i])[j]? := by
  induction l with
  | nil => intro i h; cases h
  | cons a l ih =>
    intro i h j hj
    show (plcC a ++ plsC l)[i * 6 + j]? = _
    cases i with
    | zero => rw [List.getElem?_append_left (by simp; omega)]; simp
    | succ i =>
      rw [List.getElem?_append_right (by simp; omega)]
      have : (i + 1) * 6 + j - (plcC a).length = i * 6 + j := by simp; omega
      rw [this, ih i (by simpa using h) j hj]
      rfl
/-- A row of places of one's own. -/
def RowP (W : World) (B : Nat) (v : Value) (l : List Plc) : Prop := W.ownsRow B 42 6 v l.length (plsC l)
/-- What is answered. -/
def PlE (w : World) (p : Pg) (l : List Int) (s : Int) (e : Ending) (w' : World) : Prop :=
  (stOk p s = false ∧ e = .returned (.tuple #[.slice none 0 0, .int .i64 1])) ∨ (stOk p s = true ∧ lateOk p l = false ∧ e = .returned (.tuple #[.slice none 0 0, .int .i64 10])) ∨
    (stOk p s = true ∧ lateOk p l = true ∧ ∃ r, e = .returned (.tuple #[r, .int .i64 0]) ∧ RowP w' w.heap.size r (placesL p l s))
theorem late_fine {p : Pg} {l : List Int} (h : lateOk p l = true) : Fine l ∧ l.length = p.flows.length := by
  unfold lateOk at h
  simp only [Bool.and_eq_true, decide_eq_true_eq, Bool.not_eq_true'] at h
  refine ⟨fun a ha => ?_, h.2.1⟩
  have h2 := h.2.2.1
  unfold anyOut at h2
  rw [List.any_eq_false] at h2
  have := h2 a ha
  unfold outB at this
  simp at this
  omega
theorem infoP : (Tryd.prog.info? 42).map (fun i => (i.zero, i.size, i.bytes)) = some (some (.agg #[.string ByteArray.empty, .int .u8 0, .int .i64 0, .bool false, .int .i64 0, .int .i64 0]), 6, 56) := by kernel_rfl
/-- A row of places being made. -/
structure PsI (w : World) (v : Value) (l : List Plc) (W : World) : Prop where
  row : W.ownsRow w.heap.size 42 6 v l.length (plsC l)
  below : Below w.heap.size w W
theorem PsI.keep {w W W' : World} {v : Value} {l : List Plc} (h : PsI w v l W) (hb : Below W.heap.size W W') : PsI w v l W' := ⟨own_same h.row (fun b e => hb.block b (h.row.lt b e).2), h.below.trans (hb.mono h.below.size)⟩
theorem PsI.grown {w W W' : World} {v v' : Value} {l : List Plc} {x : Plc} (h : PsI w v l W) (hg : W.grownBy W' v.ownBlock) (ho : W'.ownsRow w.heap.size 42 6 v' (l.length + 1) (plsC l ++ plcC x)) : PsI w v' (l ++ [x]) W' :=
  ⟨by have e : (l ++ [x]).length = l.length + 1 := by simp
      have e2 : plsC (l ++ [x]) = plsC l ++ plcC x := by simp [plsC]
      rw [e, e2]; exact ho, h.below.grown hg h.below.size (fun b e => (h.row.lt b e).1)⟩
set_option maxRecDepth 100000 in
set_option maxHeartbeats 8000000 in
theorem places_ (p : Pg) (l : List Int) (lv : Value) (s : Int) (w : World) (A B C : Value) (hP : PgAt w p A B C) (hR : TabR w) (hJ : TabJ w) (hI : IAt w l lv) : Calls Tryd.prog 10 #[pgV p A B C, lv, .int .i64 s] w fun e w' => PlE w p l s e w' ∧ Below w.heap.size w w' := by
  have HI := hid hI
  obtain ⟨la, lc, rfl, _⟩ := hI
  have RT := @results_two Tryd.f10 6 7 rfl
  obtain ⟨A0, A1, rfl, _⟩ := hP.ins
  obtain ⟨B0, B1, _, rfl, _⟩ := hP.flows
  obtain ⟨C0, C1, rfl, _⟩ := hP.outs
  have X0 := hid (FV.new hP hR hJ)
  clear hP hR hJ
  have hmf : ∀ (fn : Fn) (first cap : Array Value) (w : World), (Instr.makeFunc fn first cap).run Tryd.prog w = .ok (.func fn first cap) w := fun _ _ _ _ => rfl
  go_enter Tryd.func10, Tryd.ntmps10
  obtain ⟨r0, r1, r2, r3⟩ := row4 X0.out.row
  go_wp2_with (fail)
  refine (cut_of p s _ _ _ _ X0.out.P X0.out.R X0.out.J).mono ?_
  rintro e w1 ⟨hO, hb1⟩
  have X1 := hid (X0.out.keep hb1)
  clear hb1 X0 r0 r1 r2 r3
  rcases hO with ⟨hst, rfl⟩ | ⟨mb, hst, rfl, hA⟩
  · have HV : Hid (∀ W, PlE w p l s (.returned (.tuple #[.slice none 0 0, .int .i64 1])) W) := hid (fun W => .inl ⟨hst, rfl⟩)
    clear hst
    go_wp2_with (fail)
    (try simp only [Exit.inBlock, Exit.then])
    refine bodyPost_ret (RT _ _ _) rfl ⟨HV.out _, X1.out.below.alloc X1.out.below.size _⟩
  · have HE := hid (st_nm hst)
    have HST := hid hst
    have hal := (Below.refl w1.heap.size w1).alloc (Nat.le_refl _) (.cells (cutC p (.slice A0 p.ins.length A1) (.slice B0 p.flows.length B1) (.slice C0 p.outs.length C1) s mb) 70)
    have XV0 := X1.out.keep hal
    have CV0 : CutAt (w1.alloc (.cells (cutC p (.slice A0 p.ins.length A1) (.slice B0 p.flows.length B1) (.slice C0 p.outs.length C1) s mb) 70)) w1.heap.size (cutC p (.slice A0 p.ins.length A1) (.slice B0 p.flows.length B1) (.slice C0 p.outs.length C1) s mb) := heap_alloc_new w1 _
    have MV0 := hA.keep hal
    obtain ⟨W2, hW2⟩ : ∃ W2, w1.alloc (.cells (cutC p (.slice A0 p.ins.length A1) (.slice B0 p.flows.length B1) (.slice C0 p.outs.length C1) s mb) 70) = W2 := ⟨_, rfl⟩
    rw [hW2] at XV0 CV0 MV0
    have CI := hid (PbI.mk XV0 CV0 MV0)
    have HW2 := hid hW2
    clear hal XV0 CV0 MV0 hW2 hA hst X1
    obtain ⟨cb, hcb⟩ : ∃ cb, cb = w1.heap.size := ⟨_, rfl⟩
    rw [← hcb] at CI
    have HCB := hid hcb
    clear hcb
    obtain ⟨⟨x0, x1, x2, x3⟩, _⟩ := CI.out.cells
    go_wp2_with (rw [HW2.out, ← HCB.out])
    clear x0 x1 x2 x3
    refine ((callsIn_wide (n := 20)).1 (check_ p l _ _ _ _ _ CI.out.fv.P (HI.out.keep CI.out.fv.below) CI.out.fv.R CI.out.fv.J)).mono ?_
    rintro e v2 ⟨rfl, hb2⟩
    have C2 := hid (CI.out.keep hb2)
    clear hb2 CI HW2
    cases hlt : lateOk p l with
    | false =>
      have HV : Hid (∀ W, PlE w p l s (.returned (.tuple #[.slice none 0 0, .int .i64 10])) W) := hid (fun W => .inr (.inl ⟨HST.out, hlt, rfl⟩))
      clear hlt
      go_wp2_with (fail)
      (try simp only [Exit.inBlock, Exit.then])
      refine bodyPost_ret (RT _ _ _) rfl ⟨HV.out _, C2.out.fv.below⟩
    | true =>
      have HLT := hid hlt
      have HFI := hid (late_fine hlt)
      clear hlt
      obtain ⟨i0, hi, hz0, hz1, hz2⟩ := info_parts infoP
      have HN2 : Hid ([declL p s, needL p s].flatten.length ≤ 10000000) := hid (by
        have h1 := decl_len p s
        have h2 := need_len HE.out s
        have h3 := pgOk_few HE.out
        have : [declL p s, needL p s].flatten = declL p s ++ needL p s := by simp
        rw [this, List.length_append]
        omega)
      have HFL : Hid ([declL p s, needL p s].flatten = allN_ p s) := hid (by simp [allN_])
      have HAN : Hid ((allN_ p s).length ≤ 2000) := hid (by
        have h1 := decl_len p s
        have h2 := need_len HE.out s
        have h3 := pgOk_few HE.out
        unfold allN_
        rw [List.length_append]
        omega)
      have HAM : Hid (∀ nm ∈ allN_ p s, NmK nm ∧ ∃ x, findT (thingsL p) nm = some x) := hid (fun nm h => by
        obtain ⟨x, hx, rfl⟩ := alln_mem h
        exact ⟨thing_nmk (nmErr_zero HE.out).1 hx, thing_found hx⟩)
      have HPL : Hid (placesL p l s = (allN_ p s).map (plcF p l s)) := hid rfl
      go_wp2_with (fail)
      refine wp_region_held_drew (S := fun W => (W.cell? ⟨w.heap.size, 0, none⟩ = some (.int .i64 p.st) ∧ W.cell? ⟨w.heap.size, 1, none⟩ = some (.slice A0 p.ins.length A1) ∧ W.cell? ⟨w.heap.size, 2, none⟩ = some (.slice B0 p.flows.length B1) ∧ W.cell? ⟨w.heap.size, 3, none⟩ = some (.slice C0 p.outs.length C1)) ∧ W.cell? ⟨cb, 0, none⟩ = some (.int .i64 p.st) ∧ W.cell? ⟨cb, 1, none⟩ = some (.slice A0 p.ins.length A1) ∧ W.cell? ⟨cb, 2, none⟩ = some (.slice B0 p.flows.length B1) ∧ W.cell? ⟨cb, 3, none⟩ = some (.slice C0 p.outs.length C1) ∧ W.cell? ⟨cb, 4, none⟩ = some (.int .i64 s) ∧ W.cell? ⟨cb, 5, none⟩ = some (.map (some mb))) (by kernel_rfl) ?_ (fun hHeld => ?_)
      · exact C2.out.cells
      refine wpAnyH_take (i := 0) (oi := { dst := some 25, op := Go.Op.load 26 (Go.Operand.tmp 3), type := 26, pos := _, after := #[], guard := none }) (v := ?_) rfl (by kernel_rfl) (by kernel_rfl) (by kernel_rfl) (fun _ _ _ h => h) (Or.inl ⟨by rfl, ?_⟩) (by assumption) ?_
      rotate_left
      · intro w hSw; (try dsimp only at hSw); go_simp <;> first | with_reducible rfl | (rw [if_neg (by first | omega | (simp only [ByteArray.size_append] at *; omega))])
      simp only [Act.put, List.setIfInBounds_toArray, List.set_cons_zero, List.set_cons_succ]
      refine wpAnyH_take (i := 1) (oi := { dst := some 26, op := Go.Op.move (Go.Operand.tmp 2), type := 3, pos := _, after := #[], guard := none }) (v := ?_) rfl (by kernel_rfl) (by kernel_rfl) (by kernel_rfl) (fun _ _ _ h => h) (Or.inl ⟨by rfl, ?_⟩) (by assumption) ?_
      rotate_left
      · intro w hSw; (try dsimp only at hSw); go_simp <;> first | with_reducible rfl | (rw [if_neg (by first | omega | (simp only [ByteArray.size_append] at *; omega))])
      simp only [Act.put, List.setIfInBounds_toArray, List.set_cons_zero, List.set_cons_succ]
      refine wpAnyH_take (i := 3) (oi := { dst := some 28, op := Go.Op.load 70 (Go.Operand.tmp 8), type := 70, pos := _, after := #[], guard := none }) (v := ?_) rfl (by kernel_rfl) (by kernel_rfl) (by kernel_rfl) (fun _ _ _ h => h) (Or.inl ⟨by rfl, ?_⟩) (by assumption) ?_
      rotate_left
      · intro w hSw; (try dsimp only at hSw); go_simp <;> first | with_reducible rfl | (rw [if_neg (by first | omega | (simp only [ByteArray.size_append] at *; omega))])
      simp only [Act.put, List.setIfInBounds_toArray, List.set_cons_zero, List.set_cons_succ]
      refine wpAnyH_take (i := 8) (oi := { dst := some 33, op := Go.Op.move (Go.Operand.const (Go.Value.int Go.IntKind.i64 0)), type := 3, pos := _, after := #[], guard := none }) (v := ?_) rfl (by kernel_rfl) (by kernel_rfl) (by kernel_rfl) (fun _ _ _ h => h) (Or.inl ⟨by rfl, ?_⟩) (by assumption) ?_
      rotate_left
      · intro w hSw; (try dsimp only at hSw); go_simp <;> first | with_reducible rfl | (rw [if_neg (by first | omega | (simp only [ByteArray.size_append] at *; omega))])
      simp only [Act.put, List.setIfInBounds_toArray, List.set_cons_zero, List.set_cons_succ]
      refine wpAnyH_ready (rs := [2]) (by kernel_rfl) (by simp) ?_
      refine AllReadyH.cons (o := { dst := some 27, op := Go.Op.call { callee := Go.Callee.value (Go.Operand.func 23), args := #[Go.Operand.tmp 25, Go.Operand.tmp 26], argTypes := #[26, 3] }, type := 24, pos := _, after := #[{ on := 0, ground := Go.Ground.data }, { on := 1, ground := Go.Ground.data }], guard := none }) rfl (fun K hK => ?_) AllReadyH.nil
      go_simp
      refine (declared p s _ _ _ _ (C2.out.fv.P.keep (Below.refl _ _).drew) (by have := pgOk_few HE.out; omega) (by have := pgOk_few HE.out; omega)).mono ?_
      rintro e w3 ⟨u, rfl, hrow, hb3⟩
      have hb3' := (Below.refl _ _).drew.trans hb3
      have C3 := hid (C2.out.keep hb3')
      obtain ⟨ua, uc, hue⟩ : ∃ ua uc, u = .slice ua (declL p s).length uc := by
        rcases hrow.2 with ⟨h1, h2⟩ | ⟨g, c, cur, h1, _⟩
        · exact ⟨none, 0, by rw [h1, h2]⟩
        · exact ⟨_, _, h1⟩
      subst hue
      have R3 := hid (TxR.of_own hrow)
      clear hrow hb3 hb3'
      go_wp2_with fail
      refine hK.out _ _ ?_ (fun hHeld1 => ?_)
      · exact C3.out.cells
      clear hK K
      refine wpAnyH_ready (rs := [4]) (by kernel_rfl) (by simp) ?_
      refine AllReadyH.cons (o := { dst := some 29, op := Go.Op.call { callee := Go.Callee.value (Go.Operand.func 24), args := #[Go.Operand.tmp 28], argTypes := #[70] }, type := 24, pos := _, after := #[{ on := 3, ground := Go.Ground.data }, { on := 2, ground := Go.Ground.chain }], guard := none }) rfl (fun K hK => ?_) AllReadyH.nil
      go_simp
      refine (needs_ p s mb _ _ _ _ C3.out.fv.P HE.out C3.out.am).mono ?_
      rintro e w4 ⟨n, rfl, hrow, hb4⟩
      have C4 := hid (C3.out.keep hb4)
      have R3' := hid (R3.out.keep hb4)
      obtain ⟨na, nc, hne⟩ : ∃ na nc, n = .slice na (needL p s).length nc := by
        rcases hrow.2 with ⟨h1, h2⟩ | ⟨g, c, cur, h1, _⟩
        · exact ⟨none, 0, by rw [h1, h2]⟩
        · exact ⟨_, _, h1⟩
      subst hne
      have R4 := hid (TxR.of_own hrow)
      clear hrow hb4
      go_wp2_with fail
      refine hK.out _ _ ?_ (fun hHeld2 => ?_)
      · exact C4.out.cells
      clear hK K
      have hal5 := (Below.refl w4.heap.size w4).alloc (Nat.le_refl _) (.cells #[.slice ua (declL p s).length uc, .slice na (needL p s).length nc] 24)
      have C5 := hid (C4.out.keep hal5)
      have L5 : Hid (LLs (w4.alloc (.cells #[.slice ua (declL p s).length uc, .slice na (needL p s).length nc] 24)) (.slice (some ⟨w4.heap.size, 0, none⟩) 2 2) [declL p s, needL p s]) := hid (lls_two (R3'.out.keep hal5) (R4.out.keep hal5) (heap_alloc_new w4 _))
      clear hal5
      refine wpAnyH_ready (rs := [5]) (by kernel_rfl) (by simp) ?_
      refine AllReadyH.cons (o := { dst := some 30, op := Go.Op.buildSlice 100 2 #[(0, Go.Operand.tmp 27), (1, Go.Operand.tmp 29)], type := 100, pos := _, after := #[{ on := 2, ground := Go.Ground.data }, { on := 4, ground := Go.Ground.data }], guard := none }) rfl (fun K hK => ?_) AllReadyH.nil
      go_simp
      refine hK.out _ _ ?_ (fun hHeldB5 => ?_)
      · exact C5.out.cells
      clear hK K
      refine wpAnyH_ready (rs := [6]) (by kernel_rfl) (by simp) ?_
      refine AllReadyH.cons (o := { dst := some 31, op := Go.Op.call { callee := Go.Callee.value (Go.Operand.func 26), args := #[Go.Operand.tmp 30], argTypes := #[100] }, type := 24, pos := _, after := #[{ on := 5, ground := Go.Ground.data }, { on := 4, ground := Go.Ground.chain }], guard := none }) rfl (fun K hK => ?_) AllReadyH.nil
      go_simp
      refine (concat_ [declL p s, needL p s] _ _ L5.out HN2.out (by show (2 : Nat) ≤ _; omega)).mono ?_
      rintro e w6 ⟨r, rfl, hrow6, hb6⟩
      have C6 := hid (C5.out.keep hb6)
      rw [HFL.out] at hrow6
      obtain ⟨ra, rc, hre⟩ : ∃ ra rc, r = .slice ra (allN_ p s).length rc := by
        rcases hrow6.2 with ⟨h1, h2⟩ | ⟨g, c, cur, h1, _⟩
        · exact ⟨none, 0, by rw [h1, h2]⟩
        · exact ⟨_, _, h1⟩
      subst hre
      have R6 := hid (TxR.of_own hrow6)
      clear hrow6 hb6
      go_wp2_with fail
      refine hK.out _ _ ?_ (fun hHeld1 => ?_)
      · exact C6.out.cells
      clear hK K
      refine wpAnyH_take (i := 7) (oi := { dst := some 32, op := Go.Op.call { callee := Go.Callee.builtin Go.Builtin.len, args := #[Go.Operand.tmp 31], argTypes := #[24] }, type := 3, pos := _, after := #[{ on := 6, ground := Go.Ground.data }], guard := none }) (v := ?_) rfl (by kernel_rfl) (by kernel_rfl) (by kernel_rfl) (fun _ _ _ h => h) (Or.inl ⟨by rfl, ?_⟩) (by assumption) ?_
      rotate_left
      · intro w hSw; (try dsimp only at hSw); go_simp <;> first | with_reducible rfl | (rw [if_neg (by first | omega | (simp only [ByteArray.size_append] at *; omega))])
      simp only [Act.put, List.setIfInBounds_toArray, List.set_cons_zero, List.set_cons_succ]
      refine wpAnyH_done (by kernel_rfl) ?_ _
      have HAN2 := HAN.out
      generalize allN_ p s = F at *
      go_wp2_with (fail)
      go_loopw [10, 33] (fun x i wr => ∃ k : Nat, k ≤ F.length ∧ i = .int .i64 (k : Int) ∧ Hid (PsI w6 x ((F.take k).map (plcF p l s)) wr)) (fun _ i _ => F.length - (intOf i).toNat)
      case atStart => exact ⟨0, Nat.zero_le _, rfl, hid ⟨⟨rfl, .inl ⟨rfl, rfl⟩⟩, Below.refl _ _⟩⟩
      case round =>
        obtain ⟨k, hk, rfl, HS⟩ := hrel
        by_cases hlt : k < F.length
        · have hlt' : (k : Int) < (F.length : Int) := by omega
          have hk0 : (0 : Int) ≤ (k : Int) := by omega
          obtain ⟨g, rfl, hcl⟩ : ∃ g, ra = some ⟨g, 0, none⟩ ∧ ∀ i u, (txC F)[i]? = some u → w6.cell? ⟨g, i, none⟩ = some u := by
            rcases R6.out with ⟨_, h2⟩ | ⟨g', c', h1, h2⟩
            · rw [h2] at hlt; cases hlt
            · injection h1 with h1 _ _
              exact ⟨g', h1, h2⟩
          have hx := cell_kept (hcl k (.string F[k]) (by simp [txC, hlt])) HS.out.below
          obtain ⟨hnk, xf, hxf⟩ := HAM.out _ (List.getElem_mem hlt)
          have HF : Hid ((F.take (k + 1)).map (plcF p l s) = (F.take k).map (plcF p l s) ++ [plcF p l s F[k]]) := hid (by rw [List.take_succ_eq_append_getElem hlt, List.map_append]; rfl)
          have hle : ((F.take k).map (plcF p l s)).length ≤ 2000 := by rw [List.length_map, List.length_take]; omega
          have CW := hid (C6.out.keep HS.out.below)
          have cp := place_ p s mb F[k] hnk l _ wr _ _ _ xf hxf CW.out.fv.P HE.out CW.out.am (HI.out.keep CW.out.fv.below) HFI.out.1 HFI.out.2
          clear hcl hnk hxf
          generalize (F.take k).map (plcF p l s) = L0 at *
          generalize F[k] = y at *
          generalize plcF p l s y = P0 at *
          obtain ⟨⟨_, _, _, _⟩, y0, y1, y2, y3, y4, y5⟩ := CW.out.cells
          go_wp2_with (fail)
          refine cp.mono ?_
          rintro e w7 ⟨rfl, hb7⟩
          have hal := (Below.refl w7.heap.size w7).alloc (Nat.le_refl _) (.cells (plcC P0).toArray 42)
          have S7 := hid (HS.out.keep (hb7.trans (hal.mono hb7.size)))
          have HNX := hid (next_cells w7 (plcC P0) 42)
          have hs7 := S7.out.below.size
          clear hb7 hal cp y0 y1 y2 y3 y4 y5
          go_wp2_with (at_builtin
                       refine wpList_append_own_at _ rfl _ _ 35 rfl w6.heap.size 42 i0 (.agg #[.string ByteArray.empty, .int .u8 0, .int .i64 0, .bool false, .int .i64 0, .int .i64 0]) 6 56 Tryd.underlying35 hi hz0 hz1 hz2 rfl (by decide) _ _ _ rfl S7.out.row ⟨w7.heap.size, 0, none⟩ 1 1 (plcC P0) rfl rfl HNX.out (by simp [Value.oneCell']) (by unfold maxLen; omega) (by omega) hs7 ?_
                       intro v' w8 hown' hgrow _ _
                       have S8 := hid (S7.out.grown hgrow hown')
                       clear hown' hgrow)
          go_roundw
          case rel => exact ⟨k + 1, by omega, by go_num, hid (by rw [HF.out]; exact S8.out)⟩
          case measure => simp [intOf]; omega
        · have hlt' : ¬ (k : Int) < (F.length : Int) := by omega
          have HE2 : Hid ((F.take k).map (plcF p l s) = placesL p l s) := hid (by rw [List.take_of_length_le (by omega), HPL.out])
          have hS := HS.out
          rw [HE2.out] at hS
          have S9 := hid hS
          have HV : Hid (∀ x, wr.ownsRow w6.heap.size 42 6 x (placesL p l s).length (plsC (placesL p l s)) → PlE w p l s (.returned (.tuple #[x, .int .i64 0])) wr) := hid (fun x hx => .inr (.inr ⟨HST.out, HLT.out, x, rfl, ownsRow_mono hx C6.out.fv.below.size⟩))
          clear hS HS HE2
          go_wp2_with (fail)
          (try simp only [Exit.inBlock, Exit.then])
          refine bodyPost_ret (RT _ _ _) rfl ⟨HV.out _ S9.out.row, C6.out.fv.below.trans (S9.out.below.mono C6.out.fv.below.size)⟩
end Go.Proofs.YtgkbbdenmgienaaDoor.Lex
namespace Go.Proofs.YtgkbbdenmgienaaDoor.Lex
open Go.ChangeShapes Go.WideShapes Go.ChangeAt Go.RowKit Go.Joins
abbrev N0 : Value := .slice none 0 0
theorem st_leaf (W : World) (x : Ex) (ha : x.args = []) (ho : x.op < 256) (hn : -9223372036854775808 ≤ x.n ∧ x.n ≤ 9223372036854775807) (hs : x.name.size ≤ 140737488355328) : St W x N0 := by
  obtain ⟨op, n, nm, args⟩ := x
  subst ha
  exact St.intro ⟨op, n, nm, []⟩ none 0 (fun _ => N0) ho hn hs (by simp) (by simp) (.inl rfl) (fun i hi => absurd hi (Nat.not_lt_zero i))
theorem st1 (W : World) (op : Nat) (x : Ex) (s : Value) (ho : op < 256) (hx : St W x s) : St (W.alloc (.cells #[.int .u8 (x.op : Int), .int .i64 x.n, .string x.name, s] 49)) ⟨op, 0, ⟨#[]⟩, [x]⟩ (.slice (some ⟨W.heap.size, 0, none⟩) 1 1) := by
  have hb := (Below.refl W.heap.size W).alloc (Nat.le_refl _) (.cells #[.int .u8 (x.op : Int), .int .i64 x.n, .string x.name, s] 49)
  have hr := heap_alloc_new W (.cells #[.int .u8 (x.op : Int), .int .i64 x.n, .string x.name, s] 49)
  refine St.intro ⟨op, 0, ⟨#[]⟩, [x]⟩ _ 1 (fun _ => s) ho ⟨by show (-9223372036854775808 : Int) ≤ 0; omega, by show (0 : Int) ≤ _; omega⟩ (by show (0 : Nat) ≤ _; omega) (by simp) (by simp) (.inr ⟨W.heap.size, 0, rfl, fun i hi => ?_⟩) (fun i hi => ?_)
  · have hi1 : i < 1 := hi
    obtain rfl : i = 0 := by omega
    refine ⟨?_, ?_, ?_, ?_⟩ <;> (rw [cell_of_row _ _ _ _ 49 (0, 0) hr]; rfl)
  · have hi1 : i < 1 := hi
    obtain rfl : i = 0 := by omega
    exact hx.keep hb
theorem st2 (W : World) (op : Nat) (x y : Ex) (s t : Value) (ho : op < 256) (hx : St W x s) (hy : St W y t) : St (W.alloc (.cells #[.int .u8 (x.op : Int), .int .i64 x.n, .string x.name, s, .int .u8 (y.op : Int), .int .i64 y.n, .string y.name, t] 49)) ⟨op, 0, ⟨#[]⟩, [x, y]⟩ (.slice (some ⟨W.heap.size, 0, none⟩) 2 2) := by
  have hb := (Below.refl W.heap.size W).alloc (Nat.le_refl _) (.cells #[.int .u8 (x.op : Int), .int .i64 x.n, .string x.name, s, .int .u8 (y.op : Int), .int .i64 y.n, .string y.name, t] 49)
  have hr := heap_alloc_new W (.cells #[.int .u8 (x.op : Int), .int .i64 x.n, .string x.name, s, .int .u8 (y.op : Int), .int .i64 y.n, .string y.name, t] 49)
  refine St.intro ⟨op, 0, ⟨#[]⟩, [x, y]⟩ _ 2 (fun i => if i = 0 then s else t) ho ⟨by show (-9223372036854775808 : Int) ≤ 0; omega, by show (0 : Int) ≤ _; omega⟩ (by show (0 : Nat) ≤ _; omega) (by simp) (by simp) (.inr ⟨W.heap.size, 0, rfl, fun i hi => ?_⟩) (fun i hi => ?_)
  · have hi1 : i < 2 := hi
    rcases (by omega : i = 0 ∨ i = 1) with rfl | rfl <;> refine ⟨?_, ?_, ?_, ?_⟩ <;> (rw [cell_of_row _ _ _ _ 49 (0, 0) hr]; rfl)
  · have hi1 : i < 2 := hi
    rcases (by omega : i = 0 ∨ i = 1) with rfl | rfl
    · exact hx.keep hb
    · exact hy.keep hb
/-- A row of flows that stands in a block. -/
theorem flows_row {W : World} {b : Nat} (l : List (Fl × Value)) (h : W.heap[b]? = some (.cells (l.map fun q => flL q.1 q.2).flatten.toArray 51 (0, 0))) (hok : ∀ q ∈ l, q.1.ok) (hS : ∀ q ∈ l, St W q.1.body q.2) (hl : l.length ≤ 1000000) :
    FlowsAt W (l.map (·.1)) (.slice (some ⟨b, 0, none⟩) l.length l.length) := by
  refine ⟨_, l.length, fun i => ((l[i]?).map (·.2)).getD N0, by rw [List.length_map], by rw [List.length_map]; omega, by rw [List.length_map]; omega, ?_, .inr ⟨b, 0, rfl, fun i hi => ?_⟩, fun i hi => ?_⟩
  · intro x hx
    obtain ⟨q, hq, rfl⟩ := List.mem_map.1 hx
    exact hok q hq
  · have hi' : i < l.length := by simpa using hi
    have q : ∀ j, j < 8 → W.cell? ⟨b, 0 + i * 8 + j, none⟩ = (flL l[i].1 l[i].2)[j]? := fun j hj => by
      rw [cell_of_row _ _ _ _ 51 (0, 0) h]
      have := flat_at (c := 8) (es := l.map fun q => flL q.1 q.2) (i := i) (e := flL l[i].1 l[i].2) (j := j) (rest := []) (fun e he => by obtain ⟨q, _, rfl⟩ := List.mem_map.1 he; rfl) (by simp [hi']) hj
      rw [List.append_nil] at this
      rw [Nat.zero_add, List.getElem?_toArray]
      exact this
    have e : ((l[i]?).map (·.2)).getD N0 = l[i].2 := by simp [hi']
    have e2 : (l.map (·.1))[i] = l[i].1 := by simp
    rw [e2]
    simp only [e]
    exact ⟨q 0 (by omega), q 1 (by omega), q 2 (by omega), q 3 (by omega), q 4 (by omega), q 5 (by omega), q 6 (by omega), q 7 (by omega)⟩
  · have hi' : i < l.length := by simpa using hi
    have e : ((l[i]?).map (·.2)).getD N0 = l[i].2 := by simp [hi']
    have e2 : (l.map (·.1))[i] = l[i].1 := by simp
    rw [e2]
    simp only [e]
    exact hS _ (List.getElem_mem hi')
/-- One thing from without, in a block. -/
theorem ins_one {W : World} {b : Nat} (x : Hd) (h : W.heap[b]? = some (.cells #[.string x.name, .int .u8 (x.ty : Int), .int .i64 x.st] 45 (0, 0))) (hok : x.ok) : InsAt W [x] (.slice (some ⟨b, 0, none⟩) 1 1) := by
  refine ⟨some ⟨b, 0, none⟩, 1, rfl, by simp, by simp, ?_, .inr ⟨b, 0, rfl, fun i hi => ?_⟩⟩
  · intro z hz
    obtain rfl := List.mem_singleton.1 hz
    exact hok
  · have hi2 : i < 1 := hi
    obtain rfl : i = 0 := by omega
    refine ⟨?_, ?_, ?_⟩ <;> (rw [cell_of_row _ _ _ _ 45 (0, 0) h]; rfl)
theorem ins_none (W : World) : InsAt W [] N0 := ⟨none, 0, rfl, by simp, by simp, fun x hx => (by cases hx), .inl rfl⟩
theorem texts_none (W : World) : TextsAt W [] N0 := ⟨none, 0, rfl, by simp, by simp, fun x hx => (by cases hx), .inl rfl⟩
theorem flows_none (W : World) : FlowsAt W [] N0 := ⟨none, 0, fun _ => N0, rfl, by simp, by simp, fun x hx => (by cases hx), .inl rfl, fun i hi => absurd hi (Nat.not_lt_zero i)⟩
theorem texts_one {W : World} {b : Nat} (x : ByteArray) (h : W.heap[b]? = some (.cells #[.string x] 9 (0, 0))) (hok : x.size ≤ 140737488355328) : TextsAt W [x] (.slice (some ⟨b, 0, none⟩) 1 1) := by
  refine ⟨some ⟨b, 0, none⟩, 1, rfl, by simp, by simp, ?_, .inr ⟨b, 0, rfl, fun i hi => ?_⟩⟩
  · intro z hz
    obtain rfl := List.mem_singleton.1 hz
    exact hok
  · have hi2 : i < 1 := hi
    obtain rfl : i = 0 := by omega
    rw [cell_of_row _ _ _ _ 9 (0, 0) h]; rfl
abbrev c53 : Array Value := #[.int .u8 0, .int .i64 0, .string ⟨#[]⟩, .slice none 0 0]
theorem info53 : (Tryd.prog.info? 49).map (·.size) = some 4 := by kernel_rfl
theorem name_at (s : ByteArray) (w : World) : Calls Tryd.prog 32 #[.string s] w fun e w' => e = .returned (exV ⟨3, 0, s, []⟩ (.slice none 0 0)) ∧ Below w.heap.size w w' := by
  have B0 := hid ((Below.refl w.heap.size w).alloc (Nat.le_refl _) (.cells c53 49))
  have X0 := heap_alloc_new w (.cells c53 49)
  go_enter Tryd.func32, Tryd.ntmps32
  go_wp2_with (refine wpList_store_row rfl 49 _ _ rfl w.heap.size #[.int .u8 3, .int .i64 0, .string s, .slice none 0 0] rfl rfl 49 _ X0 info53 rfl (by simp [Value.oneCell']) ?_)
  exact bodyPost_ret (results_cell_row rfl _ _ w.heap.size 49 #[.int .u8 3, .int .i64 0, .string s, .slice none 0 0] (0, 0) _ rfl (setRow_heap _ _ _ _ _ _ X0) Tryd.underlying49 rfl info53) rfl ⟨rfl, below_row B0.out B0.out.size (Nat.le_refl _) _⟩
/-- It holds, whatever becomes of some blocks. -/
def AtOn (B : Bl) (F : World → Prop) (W : World) : Prop := ∀ W', Buts B W W' → F W'
theorem AtOn.now {B : Bl} {F : World → Prop} {W : World} (h : AtOn B F W) : F W := h W (Buts.refl _ _)
theorem AtOn.step {B : Bl} {F : World → Prop} {W V : World} (h : AtOn B F W) (hb : Buts B W V) : AtOn B F V := fun W' hw => h W' (hb.trans hw)
theorem AtOn.grow {B C : Bl} {F : World → Prop} {W V : World} (h : AtOn B F W) (hb : Below W.heap.size W V) (hC : ∀ k, k < W.heap.size → C k → B k) : AtOn C F V := fun W' hw =>
  h W' ⟨hw.os.trans hb.os, hw.tape.trans hb.tape, hw.output.trans hb.output, Nat.le_trans hb.size hw.size, fun k hk hn => (hw.same k (Nat.lt_of_lt_of_le hk hb.size) (fun hc => hn (hC k hk hc))).trans (hb.block k hk)⟩
theorem AtOn.mono {B : Bl} {F G : World → Prop} {W : World} (h : AtOn B F W) (hf : ∀ V, F V → G V) : AtOn B G W := fun W' hw => hf _ (h W' hw)
theorem AtOn.all {B : Bl} {F : World → Prop} {W : World} (h : ∀ V, F V) : AtOn B F W := fun _ _ => h _
/-- What all that lay keeps, blocks that are new do not touch. -/
theorem AtOn.old {B : Bl} {F : World → Prop} {W : World} (hk : ∀ V, Below W.heap.size W V → F V) (hB : ∀ k, B k → W.heap.size ≤ k) : AtOn B F W := fun W' hw =>
  hk _ ⟨hw.os, hw.tape, hw.output, hw.size, fun k hlt => hw.same k hlt (fun hb => by have := hB k hb; omega)⟩
theorem AtOn.row {B : Bl} {W : World} {b : Nat} {o : Obj} (h : W.heap[b]? = some o) (hb : ¬ B b) : AtOn B (fun V => V.heap[b]? = some o) W := fun _ hw => hw.row h hb
abbrev StOn (B : Bl) (W : World) (x : Ex) (s : Value) : Prop := AtOn B (fun V => St V x s) W
theorem st_row1 {W : World} {g : Nat} (op : Nat) (x : Ex) (s : Value) (ho : op < 256) (hr : W.heap[g]? = some (.cells #[.int .u8 (x.op : Int), .int .i64 x.n, .string x.name, s] 49 (0, 0))) (hx : St W x s) : St W ⟨op, 0, ⟨#[]⟩, [x]⟩ (.slice (some ⟨g, 0, none⟩) 1 1) := by
  refine St.intro ⟨op, 0, ⟨#[]⟩, [x]⟩ _ 1 (fun _ => s) ho ⟨by show (-9223372036854775808 : Int) ≤ 0; omega, by show (0 : Int) ≤ _; omega⟩ (by show (0 : Nat) ≤ _; omega) (by simp) (by simp) (.inr ⟨g, 0, rfl, fun i hi => ?_⟩) (fun i hi => ?_)
  · have hi1 : i < 1 := hi
    obtain rfl : i = 0 := by omega
    refine ⟨?_, ?_, ?_, ?_⟩ <;> (rw [cell_of_row _ _ _ _ 49 (0, 0) hr]; rfl)
  · have hi1 : i < 1 := hi
    obtain rfl : i = 0 := by omega
    exact hx
theorem st_row2 {W : World} {g : Nat} (op : Nat) (x y : Ex) (s t : Value) (ho : op < 256) (hr : W.heap[g]? = some (.cells #[.int .u8 (x.op : Int), .int .i64 x.n, .string x.name, s, .int .u8 (y.op : Int), .int .i64 y.n, .string y.name, t] 49 (0, 0))) (hx : St W x s) (hy : St W y t) : St W ⟨op, 0, ⟨#[]⟩, [x, y]⟩ (.slice (some ⟨g, 0, none⟩) 2 2) := by
  refine St.intro ⟨op, 0, ⟨#[]⟩, [x, y]⟩ _ 2 (fun i => if i = 0 then s else t) ho ⟨by show (-9223372036854775808 : Int) ≤ 0; omega, by show (0 : Int) ≤ _; omega⟩ (by show (0 : Nat) ≤ _; omega) (by simp) (by simp) (.inr ⟨g, 0, rfl, fun i hi => ?_⟩) (fun i hi => ?_)
  · have hi1 : i < 2 := hi
    rcases (by omega : i = 0 ∨ i = 1) with rfl | rfl <;> refine ⟨?_, ?_, ?_, ?_⟩ <;> (rw [cell_of_row _ _ _ _ 49 (0, 0) hr]; rfl)
  · have hi1 : i < 2 := hi
    rcases (by omega : i = 0 ∨ i = 1) with rfl | rfl
    · exact hx
    · exact hy
abbrev twE (o : Nat) (x y : Ex) : Ex := ⟨o, 0, ⟨#[]⟩, [x, y]⟩
set_option maxRecDepth 100000 in
set_option maxHeartbeats 1000000 in
theorem two_at (B : Bl) (o : Nat) (ho : o < 256) (x y : Ex) (s t : Value) (w : World) (hx : StOn B w x s) (hy : StOn B w y t) (hB : ∀ k, B k → k < w.heap.size) : Calls Tryd.prog 33 #[.int .u8 (o : Int), exV x s, exV y t] w fun e w' => ∃ u, e = .returned (exV (twE o x y) u) ∧ StOn B w' (twE o x y) u ∧ Below w.heap.size w w' := by
  obtain ⟨ao, cp, _, rfl, _⟩ := hx.now.out
  obtain ⟨bo, dp, _, rfl, _⟩ := hy.now.out
  have HX := hid hx
  have HY := hid hy
  clear hx hy
  obtain ⟨w3, hw3⟩ : ∃ w3, w3 = ((w.alloc (.cells #[.int .u8 (x.op : Int), .int .i64 x.n, .string x.name, .slice ao x.args.length cp] 49)).alloc (.cells #[.int .u8 (y.op : Int), .int .i64 y.n, .string y.name, .slice bo y.args.length dp] 49)).alloc (.cells c53 49) := ⟨_, rfl⟩
  have r0 : w3.heap[w.heap.size]? = some (.cells #[.int .u8 (x.op : Int), .int .i64 x.n, .string x.name, .slice ao x.args.length cp] 49 (0, 0)) := by rw [hw3, Below.heap_alloc _ _ _ (by simp; omega), Below.heap_alloc _ _ _ (by simp)]; exact heap_alloc_new w _
  have r1 : w3.heap[w.heap.size + 1]? = some (.cells #[.int .u8 (y.op : Int), .int .i64 y.n, .string y.name, .slice bo y.args.length dp] 49 (0, 0)) := by
    rw [hw3, Below.heap_alloc _ _ _ (by simp)]
    have := heap_alloc_new (w.alloc (.cells #[.int .u8 (x.op : Int), .int .i64 x.n, .string x.name, .slice ao x.args.length cp] 49)) (.cells #[.int .u8 (y.op : Int), .int .i64 y.n, .string y.name, .slice bo y.args.length dp] 49)
    rwa [World.size_alloc] at this
  have x0 : w3.cell? ⟨w.heap.size, 0, none⟩ = some (.int .u8 (x.op : Int)) := by rw [cell_of_row _ _ _ _ 49 (0, 0) r0]; rfl
  have x1 : w3.cell? ⟨w.heap.size, 1, none⟩ = some (.int .i64 x.n) := by rw [cell_of_row _ _ _ _ 49 (0, 0) r0]; rfl
  have x2 : w3.cell? ⟨w.heap.size, 2, none⟩ = some (.string x.name) := by rw [cell_of_row _ _ _ _ 49 (0, 0) r0]; rfl
  have x3 : w3.cell? ⟨w.heap.size, 3, none⟩ = some (.slice ao x.args.length cp) := by rw [cell_of_row _ _ _ _ 49 (0, 0) r0]; rfl
  have y0 : w3.cell? ⟨w.heap.size + 1, 0, none⟩ = some (.int .u8 (y.op : Int)) := by rw [cell_of_row _ _ _ _ 49 (0, 0) r1]; rfl
  have y1 : w3.cell? ⟨w.heap.size + 1, 1, none⟩ = some (.int .i64 y.n) := by rw [cell_of_row _ _ _ _ 49 (0, 0) r1]; rfl
  have y2 : w3.cell? ⟨w.heap.size + 1, 2, none⟩ = some (.string y.name) := by rw [cell_of_row _ _ _ _ 49 (0, 0) r1]; rfl
  have y3 : w3.cell? ⟨w.heap.size + 1, 3, none⟩ = some (.slice bo y.args.length dp) := by rw [cell_of_row _ _ _ _ 49 (0, 0) r1]; rfl
  rw [hw3] at x0 x1 x2 x3 y0 y1 y2 y3
  clear r0 r1 hw3
  have HBK := hid hB
  clear hB
  go_enter Tryd.func33, Tryd.ntmps33
  go_wp2
  obtain ⟨V, hV⟩ : ∃ V, V = ((w.alloc (.cells #[.int .u8 (x.op : Int), .int .i64 x.n, .string x.name, .slice ao x.args.length cp] 49)).alloc (.cells #[.int .u8 (y.op : Int), .int .i64 y.n, .string y.name, .slice bo y.args.length dp] 49)).alloc (.cells #[.int .u8 (o : Int), .int .i64 0, .string ⟨#[]⟩, .slice (some ⟨w.heap.size + 1 + 1 + 1, 0, none⟩) 2 2] 49) := ⟨_, rfl⟩
  have bb : Below w.heap.size w V := by rw [hV]; exact (((Below.refl w.heap.size w).alloc (Nat.le_refl _) _).alloc (by simp) _).alloc (by simp; omega) _
  have hsz : V.heap.size = w.heap.size + 1 + 1 + 1 := by rw [hV]; simp
  have hrw := heap_alloc_new V (.cells #[.int .u8 (x.op : Int), .int .i64 x.n, .string x.name, .slice ao x.args.length cp, .int .u8 (y.op : Int), .int .i64 y.n, .string y.name, .slice bo y.args.length dp] 49)
  have bb2 := bb.alloc bb.size (.cells #[.int .u8 (x.op : Int), .int .i64 x.n, .string x.name, .slice ao x.args.length cp, .int .u8 (y.op : Int), .int .i64 y.n, .string y.name, .slice bo y.args.length dp] 49)
  rw [← hV]
  refine bodyPost_ret (v := exV (twE o x y) (.slice (some ⟨w.heap.size + 1 + 1 + 1, 0, none⟩) 2 2)) ?_ rfl ⟨_, rfl, ?_, bb2⟩
  · rw [hV]; simp [results, Tryd.f33, go_sem]
  · rw [hsz] at hrw
    intro W' hw'
    exact st_row2 o x y _ _ ho (hw'.row hrw (fun hb => by have := HBK.out _ hb; omega)) ((HX.out.grow bb2 (fun _ _ h => h)) W' hw') ((HY.out.grow bb2 (fun _ _ h => h)) W' hw')
abbrev exZ : Ex := ⟨1, 0, ⟨#[]⟩, []⟩
abbrev preE (x : Ex) : Ex := ⟨19, 0, ⟨#[]⟩, [x]⟩
theorem stZ (B : Bl) (W : World) : StOn B W exZ N0 := AtOn.all (fun V => st_leaf V exZ rfl (by decide) (by decide) (by show (0 : Nat) ≤ _; omega))
theorem stN (B : Bl) (W : World) (s : ByteArray) (hs : s.size ≤ 140737488355328) : StOn B W ⟨3, 0, s, []⟩ N0 := AtOn.all (fun V => st_leaf V ⟨3, 0, s, []⟩ rfl (by show (3 : Nat) < _; omega) ⟨by show (-9223372036854775808 : Int) ≤ 0; omega, by show (0 : Int) ≤ _; omega⟩ hs)
end Go.Proofs.YtgkbbdenmgienaaDoor.Lex
namespace Go.Proofs.YtgkbbdenmgienaaDoor.Rbs
open Go.ChangeShapes Go.WideShapes Go.ChangeAt Go.RowKit Go.Joins
def slotOf (ops : Array Oper) (j : Nat) : Option Nat := (ops[j]?).bind (·.dst)
def dstIn (ops : Array Oper) (t : Nat) : Bool := (List.range ops.size).any fun j => slotOf ops j == some t
/-- The slots that an operation waits for. -/
def slots (ops : Array Oper) (o : Oper) : List Nat := (o.after.toList.filter (Region.binds .any)).filterMap fun e => slotOf ops e.on
def acyc (ops : Array Oper) : Bool := (List.range ops.size).all fun i => match ops[i]? with | some o => o.after.toList.all (fun e => !Region.binds .any e || decide (e.on < i)) | none => true
def lone (ops : Array Oper) : Bool := (List.range ops.size).all fun i => (List.range ops.size).all fun j => decide (i = j) || (slotOf ops i).isNone || !(slotOf ops i == slotOf ops j)
def inside (ops : Array Oper) (n : Nat) : Bool := (List.range ops.size).all fun i => match slotOf ops i with | some d => decide (d < n) | none => true
/-- One operation, met once. -/
def Step (P : Program) (Q : Exit → Act → World → Prop) (J G : World → Prop) (R : World → World → Prop) (E : Nat → Value → World → Prop) (ops : Array Oper) (a0 : Act) (o : Oper) : Prop :=
  ∀ (a : Act) (w : World) (yl : Nat → Option Bool) (K : Act → World → Prop),
    (∀ t, dstIn ops t = false → a.tmps[t]? = a0.tmps[t]?) →
    (∀ d, (slots ops o).contains d = true → ∃ v, a.tmps[d]? = some v ∧ E d v w) →
    (∀ j d, slotOf ops j = some d → ∀ b, a.tmps[d]? = some (.bool b) → yl j = some b) →
    J w → Hid (∀ v w', (∀ d, o.dst = some d → E d v w') → J w' → (Below w.heap.size w w' ∧ o.dst.isSome = true ∨ R w w' ∧ o.dst = none ∧ G w') → K (a.put o.dst v) w') →
    if Region.wanted o yl = true then Oper.wp P o a w K Q else K (a.put o.dst undef) w
def AllL (p : Oper → Prop) : List Oper → Prop
  | [] => True
  | o :: l => p o ∧ AllL p l
theorem AllL.nil {p : Oper → Prop} : AllL p [] := trivial
theorem AllL.cons {p : Oper → Prop} {o : Oper} {l : List Oper} (h : p o) (h' : AllL p l) : AllL p (o :: l) := ⟨h, h'⟩
theorem AllL.mem {p : Oper → Prop} (l : List Oper) : AllL p l → ∀ o, o ∈ l → p o := by
  induction l with
  | nil => intro _ o hm; exact absurd hm List.not_mem_nil
  | cons x l ih =>
    intro h o hm
    rcases List.mem_cons.1 hm with e | hm
    · rw [e]; exact h.1
    · exact ih h.2 o hm
structure Inv (J G : World → Prop) (E : Nat → Value → World → Prop) (ops : Array Oper) (a0 : Act) (listed : Array Bool) (a : Act) (w : World) : Prop where
  defers : a.defers = a0.defers
  size : a.tmps.size = a0.tmps.size
  fixed : ∀ t, dstIn ops t = false → a.tmps[t]? = a0.tmps[t]?
  held : ∀ j d, slotOf ops j = some d → listed.getD j false = true → ∃ v, a.tmps[d]? = some v ∧ E d v w
  done : ∀ (j : Nat) (o : Oper), ops[j]? = some o → o.dst = none → listed.getD j false = true → G w
  J : J w
theorem dstIn_of {ops : Array Oper} {j t : Nat} (h : slotOf ops j = some t) : dstIn ops t = true := by
  unfold dstIn
  rw [List.any_eq_true]
  refine ⟨j, ?_, by rw [h]; simp⟩
  rw [List.mem_range]
  unfold slotOf at h
  by_cases hj : j < ops.size
  · exact hj
  · rw [Array.getElem?_eq_none (by omega)] at h; simp at h
theorem lt_of_slot {ops : Array Oper} {j t : Nat} (h : slotOf ops j = some t) : j < ops.size := by
  unfold slotOf at h
  by_cases hj : j < ops.size
  · exact hj
  · rw [Array.getElem?_eq_none (by omega)] at h; simp at h
theorem lone_ne {ops : Array Oper} (h : lone ops = true) {i j d : Nat} (hi : slotOf ops i = some d) (hj : slotOf ops j = some d) : i = j := by
  unfold lone at h
  rw [List.all_eq_true] at h
  have h1 := h i (List.mem_range.2 (lt_of_slot hi))
  rw [List.all_eq_true] at h1
  have h2 := h1 j (List.mem_range.2 (lt_of_slot hj))
  rw [hi, hj] at h2
  simpa using h2
/-- How many have not come up. -/
def left (listed : Array Bool) (n : Nat) : Nat := ((List.range n).filter fun i => !listed.getD i true).length
theorem left_set {listed : Array Bool} {n i : Nat} (hi : i < n) (hl : listed.getD i true = false) : left (listed.setIfInBounds i true) n + 1 ≤ left listed n := by
  unfold left
  have hsz : i < listed.size := by
    by_cases h : i < listed.size
    · exact h
    · simp [Array.getElem?_eq_none (Nat.le_of_not_lt h)] at hl
  have key : ∀ l : List Nat, l.Nodup → i ∈ l → (l.filter fun k => !(listed.setIfInBounds i true).getD k true).length + 1 ≤ (l.filter fun k => !listed.getD k true).length := by
    intro l
    induction l with
    | nil => intro _ h; cases h
    | cons x l ih =>
      intro hn hm
      have hx := (List.nodup_cons.1 hn).1
      have hl2 := (List.nodup_cons.1 hn).2
      by_cases hxi : x = i
      · subst hxi
        have e1 : (listed.setIfInBounds x true).getD x true = true := by simp [hsz]
        have e2 : (l.filter fun k => !(listed.setIfInBounds x true).getD k true) = l.filter fun k => !listed.getD k true := by
          apply List.filter_congr
          intro k hk
          rw [getD_set_ne true (fun h => hx (by rw [h]; exact hk))]
        rw [List.filter_cons, List.filter_cons, e1, hl, e2]
        simp
      · have hm2 : i ∈ l := (List.mem_cons.1 hm).resolve_left (fun h => hxi h.symm)
        have := ih hl2 hm2
        rw [List.filter_cons, List.filter_cons, getD_set_ne true (fun h => hxi h.symm)]
        split
        · simp only [List.length_cons]; omega
        · exact this
  exact key _ List.nodup_range (List.mem_range.2 hi)
theorem one_listed {ops : Array Oper} (hac : acyc ops = true) {listed : Array Bool} (hsz : listed.size = ops.size) (hr : Region.ready .any ops listed = []) (i : Nat) (h : ∀ j, j < i → j < ops.size → listed.getD j false = true) (hlt : i < ops.size) : listed.getD i false = true := by
  by_cases hl : listed.getD i false = true
  · exact hl
  · exfalso
    have hm : i ∈ Region.ready .any ops listed := by
      rw [mem_ready]
      refine ⟨?_, ops[i], Array.getElem?_eq_getElem hlt, fun e he hb => ?_⟩
      · have : i < listed.size := by omega
        simp [this] at hl ⊢
        exact hl
      · unfold acyc at hac
        rw [List.all_eq_true] at hac
        have h1 := hac i (List.mem_range.2 hlt)
        rw [Array.getElem?_eq_getElem hlt] at h1
        simp only [List.all_eq_true] at h1
        have h2 := h1 e (by simpa using he)
        rw [hb] at h2
        simp at h2
        exact h e.on h2 (by omega)
    rw [hr] at hm
    cases hm
theorem all_listed {ops : Array Oper} (hac : acyc ops = true) {listed : Array Bool} (hsz : listed.size = ops.size) (hr : Region.ready .any ops listed = []) : ∀ k i, i ≤ k → i < ops.size → listed.getD i false = true := by
  intro k
  induction k with
  | zero => exact fun i hi hlt => one_listed hac hsz hr i (fun j hj _ => absurd hj (by omega)) hlt
  | succ k ih => exact fun i hi hlt => one_listed hac hsz hr i (fun j hj h => ih j (by omega) h) hlt
theorem put_tmps (a : Act) (d : Nat) (v : Value) : (a.put (some d) v).tmps = a.tmps.setIfInBounds d v := rfl
section
variable {P : Program} {Q : Exit → Act → World → Prop} {J G : World → Prop} {R : World → World → Prop} {E : Nat → Value → World → Prop} {ops : Array Oper} {a0 : Act}
theorem Inv.put (hlo : lone ops = true) (hin : inside ops a0.tmps.size = true) (stable : ∀ d v w w', Below w.heap.size w w' ∨ R w w' → E d v w → E d v w') (stableG : ∀ w w', Below w.heap.size w w' → G w → G w') {listed : Array Bool} {a : Act} {w : World} (h : Inv J G E ops a0 listed a w) {i : Nat} {o : Oper} (ho : ops[i]? = some o) {v : Value} {w' : World}
    (hv : ∀ d, o.dst = some d → E d v w') (hJ : J w') (hb : Below w.heap.size w w' ∧ o.dst.isSome = true ∨ R w w' ∧ o.dst = none ∧ G w') : Inv J G E ops a0 (listed.setIfInBounds i true) (a.put o.dst v) w' := by
  have hs : slotOf ops i = o.dst := by unfold slotOf; rw [ho]; rfl
  have hb' : Below w.heap.size w w' ∨ R w w' := hb.imp And.left And.left
  have hdone : ∀ (j : Nat) (o' : Oper), ops[j]? = some o' → o'.dst = none → (listed.setIfInBounds i true).getD j false = true → G w' := fun j o' ho' hd' hl => by
    rcases hb with hb | hb
    · by_cases hij : i = j
      · subst hij
        rw [ho] at ho'
        obtain rfl := Option.some.inj ho'
        have := hb.2
        rw [hd'] at this
        cases this
      · rw [getD_set_ne false hij] at hl
        exact stableG _ _ hb.1 (h.done j o' ho' hd' hl)
    · exact hb.2.2
  cases hd : o.dst with
  | none =>
    refine ⟨h.defers, h.size, h.fixed, fun j d hj hl => ?_, hdone, hJ⟩
    by_cases hij : i = j
    · subst hij; rw [hs, hd] at hj; cases hj
    · rw [getD_set_ne false hij] at hl
      obtain ⟨u, h1, h2⟩ := h.held j d hj hl
      exact ⟨u, h1, stable _ _ _ _ hb' h2⟩
  | some t =>
    rw [hd] at hs hv
    have htlt : t < a.tmps.size := by
      rw [h.size]
      unfold inside at hin
      rw [List.all_eq_true] at hin
      have := hin i (List.mem_range.2 (lt_of_slot hs))
      rw [hs] at this
      simpa using this
    refine ⟨h.defers, ?_, fun u hu => ?_, fun j d hj hl => ?_, hdone, hJ⟩
    · rw [put_tmps, Array.size_setIfInBounds]; exact h.size
    · have hne : t ≠ u := fun e => by
        have := dstIn_of hs
        rw [e, hu] at this
        cases this
      rw [put_tmps, Array.getElem?_setIfInBounds_ne hne]
      exact h.fixed u hu
    · by_cases hij : i = j
      · subst hij
        obtain rfl : t = d := Option.some.inj (hs.symm.trans hj)
        exact ⟨v, by rw [put_tmps]; simp [htlt], hv t rfl⟩
      · rw [getD_set_ne false hij] at hl
        obtain ⟨u, h1, h2⟩ := h.held j d hj hl
        have hne : t ≠ d := fun e => hij (lone_ne hlo hs (e ▸ hj))
        exact ⟨u, by rw [put_tmps, Array.getElem?_setIfInBounds_ne hne]; exact h1, stable _ _ _ _ hb' h2⟩
theorem inv_any (hac : acyc ops = true) (hlo : lone ops = true) (hin : inside ops a0.tmps.size = true) (stable : ∀ d v w w', Below w.heap.size w w' ∨ R w w' → E d v w → E d v w') (stableG : ∀ w w', Below w.heap.size w w' → G w → G w')
    (step : AllL (Step P Q J G R E ops a0) ops.toList) (fin : ∀ a w, a.defers = a0.defers → a.tmps.size = a0.tmps.size → (∀ t, dstIn ops t = false → a.tmps[t]? = a0.tmps[t]?) → (∀ d, dstIn ops d = true → ∃ v, a.tmps[d]? = some v ∧ E d v w) → (∀ (j : Nat) (o : Oper), ops[j]? = some o → o.dst = none → G w) → J w → Q .normal a w) :
    ∀ (fuel : Nat) (listed : Array Bool) (a : Act) (w : World), listed.size = ops.size → left listed ops.size ≤ fuel → Inv J G E ops a0 listed a w → wpAny P .any ops Q fuel listed a w := by
  have done : ∀ (listed : Array Bool) (a : Act) (w : World), listed.size = ops.size → Inv J G E ops a0 listed a w → Region.ready .any ops listed = [] → Q .normal a w := by
    intro listed a w hsz h hr
    refine fin a w h.defers h.size h.fixed (fun d hd => ?_) (fun j o ho hd => h.done j o ho hd (all_listed hac hsz hr j j (Nat.le_refl _) (Array.getElem?_eq_some_iff.1 ho).1)) h.J
    unfold dstIn at hd
    rw [List.any_eq_true] at hd
    obtain ⟨j, hj, he⟩ := hd
    exact h.held j d (by simpa using he) (all_listed hac hsz hr j j (Nat.le_refl _) (List.mem_range.1 hj))
  intro fuel
  induction fuel with
  | zero =>
    intro listed a w hsz hl h
    have hr : Region.ready .any ops listed = [] := by
      rcases he : Region.ready .any ops listed with _ | ⟨i, r⟩
      · rfl
      · have hm : i ∈ Region.ready .any ops listed := by rw [he]; exact List.mem_cons_self
        obtain ⟨h1, o, ho, _⟩ := mem_ready.1 hm
        have := left_set (n := ops.size) (Array.getElem?_eq_some_iff.1 ho).1 h1
        omega
    exact ⟨hr, done listed a w hsz h hr⟩
  | succ fuel ih =>
    intro listed a w hsz hl h
    refine ⟨done listed a w hsz h, fun i hi => ?_⟩
    obtain ⟨h1, o, ho, hall⟩ := mem_ready.1 hi
    have hlt := (Array.getElem?_eq_some_iff.1 ho).1
    have st := AllL.mem _ step o (by have := (Array.getElem?_eq_some_iff.1 ho).2; rw [← this]; simp)
    refine wpOp_step ho fun K' hK' => st a w (yielded ops a.tmps) K' h.fixed (fun d hd => ?_) (fun j d hj b hb => ?_) h.J ?_
    · unfold slots at hd
      rw [List.contains_iff_mem, List.mem_filterMap] at hd
      obtain ⟨e, he, hs⟩ := hd
      rw [List.mem_filter] at he
      exact h.held e.on d hs (hall e (by simpa using he.1) he.2)
    · unfold slotOf at hj
      unfold yielded
      rw [hj, Option.bind_some, hb]
    · exact fun v w' hv hJ hb => hK' _ _ (ih _ _ _ (by rw [Array.size_setIfInBounds]; exact hsz) (by have := left_set (n := ops.size) hlt h1; omega) (h.put hlo hin stable stableG ho hv hJ hb))
/-- A drawn region. -/
theorem region_by {id : Nat} {w : World} (hm : P.follows .mixedOrders = true) (hac : acyc ops = true) (hlo : lone ops = true) (hin : inside ops a0.tmps.size = true) (stable : ∀ d v w w', Below w.heap.size w w' ∨ R w w' → E d v w → E d v w') (stableG : ∀ w w', Below w.heap.size w w' → G w → G w') (hJ : J w.drew)
    (step : AllL (Step P Q J G R E ops a0) ops.toList) (fin : ∀ a w, a.defers = a0.defers → a.tmps.size = a0.tmps.size → (∀ t, dstIn ops t = false → a.tmps[t]? = a0.tmps[t]?) → (∀ d, dstIn ops d = true → ∃ v, a.tmps[d]? = some v ∧ E d v w) → (∀ (j : Nat) (o : Oper), ops[j]? = some o → o.dst = none → G w) → J w → Q .normal a w) : (Code.region id ops true).wp P Q a0 w := by
  refine wp_region_any hm (inv_any hac hlo hin stable stableG step fin ops.size _ a0 _ (by simp) ?_ ⟨rfl, rfl, fun _ _ => rfl, fun j d _ hl => ?_, fun j o _ _ hl => ?_, hJ⟩)
  · unfold left
    exact Nat.le_trans (List.length_filter_le _ _) (by simp)
  · exfalso
    rw [Array.getD_eq_getD_getElem?, Array.getElem?_replicate] at hl
    split at hl <;> simp at hl
  · exfalso
    rw [Array.getD_eq_getD_getElem?, Array.getElem?_replicate] at hl
    split at hl <;> simp at hl
end
end Go.Proofs.YtgkbbdenmgienaaDoor.Rbs
namespace Go.Proofs.YtgkbbdenmgienaaDoor.Lex
open Go.ChangeShapes Go.WideShapes Go.ChangeAt Go.RowKit Go.Joins
theorem row4e {W : World} {k : Nat} {x : Ex} {D : Value} (h : W.heap[k]? = some (.cells #[.int .u8 (x.op : Int), .int .i64 x.n, .string x.name, D] 49 (0, 0))) : W.cell? ⟨k, 0, none⟩ = some (.int .u8 (x.op : Int)) ∧ W.cell? ⟨k, 1, none⟩ = some (.int .i64 x.n) ∧ W.cell? ⟨k, 2, none⟩ = some (.string x.name) ∧ W.cell? ⟨k, 3, none⟩ = some D :=
  ⟨(cell_of_row _ _ _ _ 49 (0, 0) h).trans rfl, (cell_of_row _ _ _ _ 49 (0, 0) h).trans rfl, (cell_of_row _ _ _ _ 49 (0, 0) h).trans rfl, (cell_of_row _ _ _ _ 49 (0, 0) h).trans rfl⟩
abbrev exS : Ex := ⟨3, 0, ⟨#[115]⟩, []⟩
abbrev exX : Ex := ⟨3, 0, ⟨#[120]⟩, []⟩
abbrev exT : Ex := ⟨3, 0, ⟨#[116]⟩, []⟩
abbrev hdX : Hd := ⟨⟨#[120]⟩, 1, 1⟩
abbrev flS : Fl := ⟨⟨#[115]⟩, 1, 1, 0, twE 18 exZ (twE 6 (preE exS) exX)⟩
abbrev flT : Fl := ⟨⟨#[116]⟩, 1, 2, 0, exS⟩
abbrev flU : Fl := ⟨⟨#[117]⟩, 1, 1, 0, twE 6 exT exX⟩
/-- The chapter's program. -/
def kn : Pg := ⟨2, [hdX], [flS, flT, flU], [⟨#[117]⟩]⟩
theorem hdX_ok : hdX.ok := ⟨by show (1 : Nat) ≤ _; omega, by show (1 : Nat) < _; omega, by show (-9223372036854775808 : Int) ≤ 1; omega, by show (1 : Int) ≤ _; omega⟩
theorem fl_ok (nm : ByteArray) (st : Int) (x : Ex) (h : nm.size ≤ 100) (h2 : 0 ≤ st ∧ st ≤ 100) : Fl.ok ⟨nm, 1, st, 0, x⟩ := ⟨by show nm.size ≤ _; omega, by show (1 : Nat) < _; omega, ⟨by show (-9223372036854775808 : Int) ≤ st; omega, by show st ≤ _; omega⟩, by show (-9223372036854775808 : Int) ≤ 0; omega, by show (0 : Int) ≤ _; omega⟩
theorem three_ok (a b c : Value) : ∀ q ∈ ([(flS, a), (flT, b), (flU, c)] : List (Fl × Value)), q.1.ok := by
  intro q hq
  rcases List.mem_cons.1 hq with rfl | hq
  · exact fl_ok _ _ _ (by show (1 : Nat) ≤ _; omega) (by omega)
  rcases List.mem_cons.1 hq with rfl | hq
  · exact fl_ok _ _ _ (by show (1 : Nat) ≤ _; omega) (by omega)
  rw [List.mem_singleton.1 hq]
  exact fl_ok _ _ _ (by show (1 : Nat) ≤ _; omega) (by omega)
theorem three_st {W : World} {a b c : Value} (h1 : St W flS.body a) (h2 : St W flT.body b) (h3 : St W flU.body c) : ∀ q ∈ ([(flS, a), (flT, b), (flU, c)] : List (Fl × Value)), St W q.1.body q.2 := by
  intro q hq
  rcases List.mem_cons.1 hq with rfl | hq
  · exact h1
  rcases List.mem_cons.1 hq with rfl | hq
  · exact h2
  rw [List.mem_singleton.1 hq]
  exact h3
def EE (b0 : Nat) (W : World) (x : Ex) (v : Value) : Prop := ∃ s, v = exV x s ∧ StOn (fun k => k = b0) W x s
def FF (b0 : Nat) (W : World) (x : Fl) (v : Value) : Prop := ∃ s, v = flV x s ∧ StOn (fun k => k = b0) W x.body s
/-- What a slot holds when its operation has come up. -/
def Ek (b0 : Nat) (d : Nat) (v : Value) (W : World) : Prop :=
  match d with
  | 5 => v = .agg #[.string ⟨#[120]⟩, .int .u8 1, .int .i64 1]
  | 6 => AtOn (fun k => k = b0) (fun V => InsAt V [hdX] v) W
  | 7 => EE b0 W (exZ) v
  | 8 => EE b0 W (preE exS) v
  | 9 => EE b0 W (exX) v
  | 10 => EE b0 W (twE 6 (preE exS) exX) v
  | 11 => EE b0 W (twE 18 exZ (twE 6 (preE exS) exX)) v
  | 12 => FF b0 W flS v
  | 13 => EE b0 W (exS) v
  | 14 => FF b0 W flT v
  | 15 => EE b0 W (exT) v
  | 16 => EE b0 W (exX) v
  | 17 => EE b0 W (twE 6 exT exX) v
  | 18 => FF b0 W flU v
  | 19 => AtOn (fun k => k = b0) (fun V => FlowsAt V [flS, flT, flU] v) W
  | 20 => AtOn (fun k => k = b0) (fun V => TextsAt V [⟨#[117]⟩] v) W
  | 21 => ∃ a b c, v = pgV kn a b c ∧ AtOn (fun k => k = b0) (fun V => PgAt V kn a b c) W
  | _ => True
theorem Ek.keep {b0 : Nat} (d : Nat) (v : Value) (w w' : World) (hb : Buts (fun k => k = b0) w w') (h : Ek b0 d v w) : Ek b0 d v w' := by
  revert h
  unfold Ek
  split <;> intro h <;> first | trivial | exact h | (obtain ⟨s, e, g⟩ := h; exact ⟨s, e, g.step hb⟩) | (obtain ⟨a, b, c, e, g⟩ := h; exact ⟨a, b, c, e, g.step hb⟩) | exact AtOn.step h hb
/-- What holds of every world on the way. -/
structure Jk (w : World) (kb : Nat) (sv : Value) (W : World) : Prop where
  box : ∃ cs : Array Value, W.heap[w.heap.size]? = some (.cells cs 26 (0, 0)) ∧ cs.size = 4
  var : W.heap[kb]? = some (.cells #[.int .u8 ((preE exS).op : Int), .int .i64 (preE exS).n, .string (preE exS).name, sv] 49 (0, 0))
  S : StOn (fun k => k = w.heap.size) W (preE exS) sv
  ne : kb ≠ w.heap.size
  below : Below w.heap.size w W
theorem Jk.lt {w W : World} {kb : Nat} {sv : Value} (h : Jk w kb sv W) : w.heap.size < W.heap.size := by
  obtain ⟨cs, hc, _⟩ := h.box
  exact (Array.getElem?_eq_some_iff.1 hc).1
theorem Jk.step {w W V : World} {kb : Nat} {sv : Value} (h : Jk w kb sv W) (hb : Below W.heap.size W V) : Jk w kb sv V := by
  obtain ⟨cs, hc, hs⟩ := h.box
  exact ⟨⟨cs, keep_row hc hb, hs⟩, keep_row h.var hb, h.S.step (Buts.below hb), h.ne, h.below.trans (hb.mono h.below.size)⟩
theorem Jk.alloc {w W : World} {kb : Nat} {sv : Value} (h : Jk w kb sv W) (o : Obj) : Jk w kb sv (W.alloc o) := h.step ((Below.refl _ _).alloc (Nat.le_refl _) o)
abbrev c26 : Array Value := #[.int .i64 0, .slice none 0 0, .slice none 0 0, .slice none 0 0]
theorem info26 : (Tryd.prog.info? 26).map (·.size) = some 4 := by kernel_rfl
set_option maxRecDepth 100000 in
set_option maxHeartbeats 4000000 in
theorem known_at (w : World) : Calls Tryd.prog 14 #[] w fun e w' => ∃ a b c, e = .returned (pgV kn a b c) ∧ PgAt w' kn a b c ∧ Below w.heap.size w w' := by
  have B0 := hid ((Below.refl w.heap.size w).alloc (Nat.le_refl _) (.cells c26 26))
  have X0 := hid (heap_alloc_new w (.cells c26 26))
  go_enter Tryd.func14, Tryd.ntmps14
  go_wp2_with (go_at_call 32; refine (name_at ⟨#[115]⟩ _).mono ?_; rintro e w1 ⟨rfl, hb1⟩; have HB1 := hid hb1; clear hb1)
  have hszc := HB1.out.size
  have hsz0 : (w.alloc (.cells c26 26)).heap.size = w.heap.size + 1 := by simp
  have hsv := st_leaf
  obtain ⟨W3, hW3⟩ : ∃ W3, W3 = (w1.alloc (.cells #[.int .u8 3, .int .i64 0, .string ⟨#[115]⟩, .slice none 0 0] 49)).alloc (.cells #[.int .u8 19, .int .i64 0, .string ⟨#[]⟩, .slice (some ⟨w1.heap.size, 0, none⟩) 1 1] 49) := ⟨_, rfl⟩
  rw [← hW3]
  have hb3 : Below w1.heap.size w1 W3 := by rw [hW3]; exact ((Below.refl _ w1).alloc (Nat.le_refl _) _).alloc (by simp) _
  have hr1 : W3.heap[w1.heap.size]? = some (.cells #[.int .u8 3, .int .i64 0, .string ⟨#[115]⟩, .slice none 0 0] 49 (0, 0)) := by rw [hW3, Below.heap_alloc _ _ _ (by simp)]; exact heap_alloc_new w1 _
  have hr2 : W3.heap[w1.heap.size + 1]? = some (.cells #[.int .u8 19, .int .i64 0, .string ⟨#[]⟩, .slice (some ⟨w1.heap.size, 0, none⟩) 1 1] 49 (0, 0)) := by rw [hW3]; exact push_new _ _ _ (by simp)
  rw [hsz0] at hszc
  have hJ3 : Jk w (w1.heap.size + 1) (.slice (some ⟨w1.heap.size, 0, none⟩) 1 1) W3 :=
    ⟨⟨c26, keep_row (keep_row X0.out HB1.out) hb3, rfl⟩, hr2, fun W' hw' => st_row1 19 exS N0 (by omega) (hw'.row hr1 (fun h => by omega)) (st_leaf W' exS rfl (by decide) (by decide) (by show (1 : Nat) ≤ _; omega)), by omega, (B0.out.trans (HB1.out.mono B0.out.size)).trans (hb3.mono (by omega))⟩
  have hb1s : w.heap.size < w1.heap.size := by omega
  obtain ⟨kb, hkb⟩ : ∃ kb, kb = w1.heap.size + 1 := ⟨_, rfl⟩
  rw [← hkb] at hJ3 ⊢
  clear hsv hW3 hb3 hr1 hr2 hkb hsz0
  rename_i hKK
  refine Rbs.region_by (J := Jk w kb (.slice (some ⟨w1.heap.size, 0, none⟩) 1 1)) (G := fun W => ∃ a b c, W.heap[w.heap.size]? = some (.cells (pgC kn a b c) 26 (0, 0)) ∧ AtOn (fun k => k = w.heap.size) (fun V => PgAt V kn a b c) W) (R := fun a b => Buts (fun k => k = w.heap.size) a b) (E := Ek w.heap.size) (by kernel_rfl) (by kernel_rfl) (by kernel_rfl) (by kernel_rfl) (fun d v w1 w2 hb h => Ek.keep d v w1 w2 (hb.elim (fun h => Buts.below h) id) h) (fun w1 w2 hb h => by obtain ⟨a, b, c, h1, h2⟩ := h; exact ⟨a, b, c, keep_row h1 hb, h2.step (Buts.below hb)⟩) (hJ3.step (Below.refl _ _).drew) ?step ?fin
  case step =>
    refine Rbs.AllL.cons ?_ <| Rbs.AllL.cons ?_ <| Rbs.AllL.cons ?_ <| Rbs.AllL.cons ?_ <| Rbs.AllL.cons ?_ <| Rbs.AllL.cons ?_ <| Rbs.AllL.cons ?_ <| Rbs.AllL.cons ?_ <| Rbs.AllL.cons ?_ <| Rbs.AllL.cons ?_ <| Rbs.AllL.cons ?_ <| Rbs.AllL.cons ?_ <| Rbs.AllL.cons ?_ <| Rbs.AllL.cons ?_ <| Rbs.AllL.cons ?_ <| Rbs.AllL.cons ?_ <| Rbs.AllL.cons ?_ <| Rbs.AllL.cons ?_ <| Rbs.AllL.nil
    · intro ac V yl K hf hs _ hJ hK
      have HJ := hid hJ
      clear hf hs hJ
      go_simp
      exact hK.out _ _ (fun d hd => by cases hd; exact rfl) HJ.out (.inl ⟨Below.refl _ _, rfl⟩)
    · intro ac V yl K hf hs _ hJ hK
      obtain ⟨v5, e5, h5⟩ := hs 5 (by kernel_rfl)
      have h5' : v5 = .agg #[.string ⟨#[120]⟩, .int .u8 1, .int .i64 1] := h5
      subst h5'
      clear h5
      have HJ := hid hJ
      clear hf hs hJ
      go_simp
      have hlt := HJ.out.lt
      exact hK.out _ _ (fun d hd => by cases hd; exact fun W' hw' => ins_one hdX (hw'.row (heap_alloc_new V _) (fun h => by omega)) hdX_ok) (HJ.out.alloc _) (.inl ⟨(Below.refl _ _).alloc (Nat.le_refl _) _, rfl⟩)
    · intro ac V yl K hf hs _ hJ hK
      have HJ := hid hJ
      clear hf hs hJ
      go_simp
      exact hK.out _ _ (fun d hd => by cases hd; exact ⟨_, rfl, stZ _ _⟩) HJ.out (.inl ⟨Below.refl _ _, rfl⟩)
    · intro ac V yl K hf hs _ hJ hK
      have e1 : ac.tmps[1]? = some (.pointer (some ⟨kb, 0, none⟩)) := (hf 1 (by kernel_rfl)).trans rfl
      have HJ := hid hJ
      clear hf hs hJ
      obtain ⟨q0, q1, q2, q3⟩ := row4e HJ.out.var
      go_simp
      exact hK.out _ _ (fun d hd => by cases hd; exact ⟨_, rfl, HJ.out.S⟩) HJ.out (.inl ⟨Below.refl _ _, rfl⟩)
    · intro ac V yl K hf hs _ hJ hK
      have HJ := hid hJ
      clear hf hs hJ
      go_simp
      refine (name_at ⟨#[120]⟩ V).mono ?_
      rintro e V2 ⟨rfl, hb⟩
      have HB := hid hb
      clear hb
      go_wp2_with fail
      exact hK.out _ _ (fun d hd => by cases hd; exact ⟨_, rfl, stN _ _ _ (by show (1 : Nat) ≤ _; omega)⟩) (HJ.out.step HB.out) (.inl ⟨HB.out, rfl⟩)
    · intro ac V yl K hf hs _ hJ hK
      obtain ⟨v8, e8, h8⟩ := hs 8 (by kernel_rfl)
      obtain ⟨s8, rfl, g8⟩ : EE w.heap.size V (preE exS) v8 := h8
      obtain ⟨a8, c8, _, rfl, _⟩ := g8.now.out
      have G8 := hid g8
      clear g8
      obtain ⟨v9, e9, h9⟩ := hs 9 (by kernel_rfl)
      obtain ⟨s9, rfl, g9⟩ : EE w.heap.size V (exX) v9 := h9
      obtain ⟨a9, c9, _, rfl, _⟩ := g9.now.out
      have G9 := hid g9
      clear g9
      have HJ := hid hJ
      clear hf hs hJ
      have hlt := HJ.out.lt
      have c48 := two_at (fun k => k = w.heap.size) 6 (by omega) _ _ _ _ V G8.out G9.out (fun k hk => by omega)
      go_simp
      refine c48.mono ?_
      rintro e V2 ⟨u, rfl, hu, hb⟩
      have HB := hid hb
      have HU := hid hu
      clear hb hu c48
      go_wp2_with fail
      exact hK.out _ _ (fun d hd => by cases hd; exact ⟨_, rfl, HU.out⟩) (HJ.out.step HB.out) (.inl ⟨HB.out, rfl⟩)
    · intro ac V yl K hf hs _ hJ hK
      obtain ⟨v7, e7, h7⟩ := hs 7 (by kernel_rfl)
      obtain ⟨s7, rfl, g7⟩ : EE w.heap.size V (exZ) v7 := h7
      obtain ⟨a7, c7, _, rfl, _⟩ := g7.now.out
      have G7 := hid g7
      clear g7
      obtain ⟨v10, e10, h10⟩ := hs 10 (by kernel_rfl)
      obtain ⟨s10, rfl, g10⟩ : EE w.heap.size V (twE 6 (preE exS) exX) v10 := h10
      obtain ⟨a10, c10, _, rfl, _⟩ := g10.now.out
      have G10 := hid g10
      clear g10
      have HJ := hid hJ
      clear hf hs hJ
      have hlt := HJ.out.lt
      have c48 := two_at (fun k => k = w.heap.size) 18 (by omega) _ _ _ _ V G7.out G10.out (fun k hk => by omega)
      go_simp
      refine c48.mono ?_
      rintro e V2 ⟨u, rfl, hu, hb⟩
      have HB := hid hb
      have HU := hid hu
      clear hb hu c48
      go_wp2_with fail
      exact hK.out _ _ (fun d hd => by cases hd; exact ⟨_, rfl, HU.out⟩) (HJ.out.step HB.out) (.inl ⟨HB.out, rfl⟩)
    · intro ac V yl K hf hs _ hJ hK
      obtain ⟨v11, e11, h11⟩ := hs 11 (by kernel_rfl)
      obtain ⟨s11, rfl, g11⟩ : EE w.heap.size V (twE 18 exZ (twE 6 (preE exS) exX)) v11 := h11
      obtain ⟨a11, c11, _, rfl, _⟩ := g11.now.out
      have G11 := hid g11
      clear g11
      have HJ := hid hJ
      clear hf hs hJ
      go_simp
      exact hK.out _ _ (fun d hd => by cases hd; exact ⟨_, rfl, G11.out⟩) HJ.out (.inl ⟨Below.refl _ _, rfl⟩)
    · intro ac V yl K hf hs _ hJ hK
      have HJ := hid hJ
      clear hf hs hJ
      go_simp
      refine (name_at ⟨#[115]⟩ V).mono ?_
      rintro e V2 ⟨rfl, hb⟩
      have HB := hid hb
      clear hb
      go_wp2_with fail
      exact hK.out _ _ (fun d hd => by cases hd; exact ⟨_, rfl, stN _ _ _ (by show (1 : Nat) ≤ _; omega)⟩) (HJ.out.step HB.out) (.inl ⟨HB.out, rfl⟩)
    · intro ac V yl K hf hs _ hJ hK
      obtain ⟨v13, e13, h13⟩ := hs 13 (by kernel_rfl)
      obtain ⟨s13, rfl, g13⟩ : EE w.heap.size V (exS) v13 := h13
      obtain ⟨a13, c13, _, rfl, _⟩ := g13.now.out
      have G13 := hid g13
      clear g13
      have HJ := hid hJ
      clear hf hs hJ
      go_simp
      exact hK.out _ _ (fun d hd => by cases hd; exact ⟨_, rfl, G13.out⟩) HJ.out (.inl ⟨Below.refl _ _, rfl⟩)
    · intro ac V yl K hf hs _ hJ hK
      have HJ := hid hJ
      clear hf hs hJ
      go_simp
      refine (name_at ⟨#[116]⟩ V).mono ?_
      rintro e V2 ⟨rfl, hb⟩
      have HB := hid hb
      clear hb
      go_wp2_with fail
      exact hK.out _ _ (fun d hd => by cases hd; exact ⟨_, rfl, stN _ _ _ (by show (1 : Nat) ≤ _; omega)⟩) (HJ.out.step HB.out) (.inl ⟨HB.out, rfl⟩)
    · intro ac V yl K hf hs _ hJ hK
      have HJ := hid hJ
      clear hf hs hJ
      go_simp
      refine (name_at ⟨#[120]⟩ V).mono ?_
      rintro e V2 ⟨rfl, hb⟩
      have HB := hid hb
      clear hb
      go_wp2_with fail
      exact hK.out _ _ (fun d hd => by cases hd; exact ⟨_, rfl, stN _ _ _ (by show (1 : Nat) ≤ _; omega)⟩) (HJ.out.step HB.out) (.inl ⟨HB.out, rfl⟩)
    · intro ac V yl K hf hs _ hJ hK
      obtain ⟨v15, e15, h15⟩ := hs 15 (by kernel_rfl)
      obtain ⟨s15, rfl, g15⟩ : EE w.heap.size V (exT) v15 := h15
      obtain ⟨a15, c15, _, rfl, _⟩ := g15.now.out
      have G15 := hid g15
      clear g15
      obtain ⟨v16, e16, h16⟩ := hs 16 (by kernel_rfl)
      obtain ⟨s16, rfl, g16⟩ : EE w.heap.size V (exX) v16 := h16
      obtain ⟨a16, c16, _, rfl, _⟩ := g16.now.out
      have G16 := hid g16
      clear g16
      have HJ := hid hJ
      clear hf hs hJ
      have hlt := HJ.out.lt
      have c48 := two_at (fun k => k = w.heap.size) 6 (by omega) _ _ _ _ V G15.out G16.out (fun k hk => by omega)
      go_simp
      refine c48.mono ?_
      rintro e V2 ⟨u, rfl, hu, hb⟩
      have HB := hid hb
      have HU := hid hu
      clear hb hu c48
      go_wp2_with fail
      exact hK.out _ _ (fun d hd => by cases hd; exact ⟨_, rfl, HU.out⟩) (HJ.out.step HB.out) (.inl ⟨HB.out, rfl⟩)
    · intro ac V yl K hf hs _ hJ hK
      obtain ⟨v17, e17, h17⟩ := hs 17 (by kernel_rfl)
      obtain ⟨s17, rfl, g17⟩ : EE w.heap.size V (twE 6 exT exX) v17 := h17
      obtain ⟨a17, c17, _, rfl, _⟩ := g17.now.out
      have G17 := hid g17
      clear g17
      have HJ := hid hJ
      clear hf hs hJ
      go_simp
      exact hK.out _ _ (fun d hd => by cases hd; exact ⟨_, rfl, G17.out⟩) HJ.out (.inl ⟨Below.refl _ _, rfl⟩)
    · intro ac V yl K hf hs _ hJ hK
      obtain ⟨v12, e12, h12⟩ := hs 12 (by kernel_rfl)
      obtain ⟨s12, rfl, g12⟩ : FF w.heap.size V flS v12 := h12
      obtain ⟨a12, c12, _, rfl, _⟩ := g12.now.out
      have G12 := hid g12
      clear g12
      obtain ⟨v14, e14, h14⟩ := hs 14 (by kernel_rfl)
      obtain ⟨s14, rfl, g14⟩ : FF w.heap.size V flT v14 := h14
      obtain ⟨a14, c14, _, rfl, _⟩ := g14.now.out
      have G14 := hid g14
      clear g14
      obtain ⟨v18, e18, h18⟩ := hs 18 (by kernel_rfl)
      obtain ⟨s18, rfl, g18⟩ : FF w.heap.size V flU v18 := h18
      obtain ⟨a18, c18, _, rfl, _⟩ := g18.now.out
      have G18 := hid g18
      clear g18
      have HJ := hid hJ
      clear hf hs hJ
      go_simp
      have hlt := HJ.out.lt
      have hba := (Below.refl V.heap.size V).alloc (Nat.le_refl _) (.cells (([(flS, Value.slice a12 flS.body.args.length c12), (flT, .slice a14 flT.body.args.length c14), (flU, .slice a18 flU.body.args.length c18)] : List (Fl × Value)).map fun q => flL q.1 q.2).flatten.toArray 51)
      exact hK.out _ _ (fun d hd => by cases hd; exact fun W' hw' => flows_row [(flS, .slice a12 flS.body.args.length c12), (flT, .slice a14 flT.body.args.length c14), (flU, .slice a18 flU.body.args.length c18)] (hw'.row (heap_alloc_new V _) (fun h => by omega)) (three_ok _ _ _) (three_st (G12.out.grow hba (fun _ _ h => h) W' hw') (G14.out.grow hba (fun _ _ h => h) W' hw') (G18.out.grow hba (fun _ _ h => h) W' hw')) (by show (3 : Nat) ≤ _; omega)) (HJ.out.alloc _) (.inl ⟨(Below.refl _ _).alloc (Nat.le_refl _) _, rfl⟩)
    · intro ac V yl K hf hs _ hJ hK
      have HJ := hid hJ
      clear hf hs hJ
      go_simp
      have hlt := HJ.out.lt
      exact hK.out _ _ (fun d hd => by cases hd; exact fun W' hw' => texts_one ⟨#[117]⟩ (hw'.row (heap_alloc_new V _) (fun h => by omega)) (by show (1 : Nat) ≤ _; omega)) (HJ.out.alloc _) (.inl ⟨(Below.refl _ _).alloc (Nat.le_refl _) _, rfl⟩)
    · intro ac V yl K hf hs _ hJ hK
      obtain ⟨v6, e6, h6⟩ := hs 6 (by kernel_rfl)
      have g6 : AtOn (fun k => k = w.heap.size) (fun V => InsAt V [hdX] v6) V := h6
      obtain ⟨a6, c6, rfl, _⟩ := g6.now
      have G6 := hid g6
      clear h6 g6
      obtain ⟨v19, e19, h19⟩ := hs 19 (by kernel_rfl)
      have g19 : AtOn (fun k => k = w.heap.size) (fun V => FlowsAt V [flS, flT, flU] v19) V := h19
      obtain ⟨a19, c19, _, rfl, _⟩ := g19.now
      have G19 := hid g19
      clear h19 g19
      obtain ⟨v20, e20, h20⟩ := hs 20 (by kernel_rfl)
      have g20 : AtOn (fun k => k = w.heap.size) (fun V => TextsAt V [⟨#[117]⟩] v20) V := h20
      obtain ⟨a20, c20, rfl, _⟩ := g20.now
      have G20 := hid g20
      clear h20 g20
      have HJ := hid hJ
      clear hf hs hJ
      go_simp
      exact hK.out _ _ (fun d hd => by cases hd; exact ⟨_, _, _, rfl, fun W' hw' => ⟨⟨by show (-9223372036854775808 : Int) ≤ 2; omega, by show (2 : Int) ≤ _; omega⟩, G6.out W' hw', G19.out W' hw', G20.out W' hw'⟩⟩) HJ.out (.inl ⟨Below.refl _ _, rfl⟩)
    · intro ac V yl K hf hs _ hJ hK
      have e0 : ac.tmps[0]? = some (.pointer (some ⟨w.heap.size, 0, none⟩)) := (hf 0 (by kernel_rfl)).trans rfl
      obtain ⟨v21, e21, h21⟩ := hs 21 (by kernel_rfl)
      obtain ⟨pa, pb, pc, rfl, g21⟩ : ∃ a b c, v21 = pgV kn a b c ∧ AtOn (fun k => k = w.heap.size) (fun V => PgAt V kn a b c) V := h21
      obtain ⟨qa, qb, rfl, _⟩ := g21.now.ins
      obtain ⟨ra, rb, _, rfl, _⟩ := g21.now.flows
      obtain ⟨sa, sb, rfl, _⟩ := g21.now.outs
      have G21 := hid g21
      clear g21
      have HJ := hid hJ
      clear hf hs hJ
      obtain ⟨cs, hcs, hcz⟩ := HJ.out.box
      refine if_take (by rfl) ?_
      refine wp_store_row 26 _ _ rfl w.heap.size (pgC kn (.slice qa kn.ins.length qb) (.slice ra kn.flows.length rb) (.slice sa kn.outs.length sb)) (by simp [Act.eval, e0]) (by simp [Act.eval, e21]) 26 cs hcs info26 (by rw [hcz]; rfl) (by simp [Value.oneCell']) ?_
      have hbu : Buts (fun k => k = w.heap.size) V (V.setRow w.heap.size (pgC kn (.slice qa kn.ins.length qb) (.slice ra kn.flows.length rb) (.slice sa kn.outs.length sb))) := ⟨rfl, rfl, rfl, by simp [World.setRow], fun k _ hn => setRow_other _ _ _ _ hn⟩
      exact hK.out _ _ (fun d hd => by cases hd) ⟨⟨_, setRow_heap _ _ _ _ _ _ hcs, rfl⟩, hbu.row HJ.out.var HJ.out.ne, HJ.out.S.step hbu, HJ.out.ne, below_row HJ.out.below HJ.out.below.size (Nat.le_refl _) _⟩ (.inr ⟨hbu, rfl, _, _, _, setRow_heap _ _ _ _ _ _ hcs, G21.out.step hbu⟩)
  case fin =>
    rintro a W hd hsz hf hs hG hJ
    obtain ⟨pa, pb, pc, hrow, hP⟩ := hG 17 _ (by rfl) (by rfl)
    have ha0 : a.tmps.getD 0 undef = .pointer (some ⟨w.heap.size, 0, none⟩) := by
      have h := hf 0 (by kernel_rfl)
      rw [Array.getD_eq_getD_getElem?, h]; rfl
    exact hKK a W (wp_ret (bodyPost_ret (results_cell_row rfl _ _ w.heap.size 26 (pgC kn pa pb pc) (0, 0) _ ha0 hrow Tryd.underlying26 rfl info26) hd ⟨pa, pb, pc, rfl, hP.now, hJ.below⟩))
end Go.Proofs.YtgkbbdenmgienaaDoor.Lex
namespace Go.Proofs.YtgkbbdenmgienaaDoor.Lex
open Go.ChangeShapes Go.WideShapes Go.ChangeAt Go.RowKit Go.Joins
def findD (l : List (Int × Hd)) (name : ByteArray) : Option (Int × Hd) := l.find? fun x => x.2.name.data.toList == name.data.toList
theorem findT_D (l : List (Int × Hd)) (name : ByteArray) : findT l name = findD l name := by
  unfold findT findD
  congr 1
  funext x
  rw [ByteArray.toList_eq, ByteArray.toList_eq]
def mkD (p : Pg) (k : Nat) (st : Int) (r : Rf) : Wi := ⟨k, r, plO (findD (thingsL p) r.1), if stO (findD (thingsL p) r.1) = st then 0 else 1⟩
theorem mkW_D (p : Pg) (k : Nat) (st : Int) : mkW p k st = mkD p k st := by funext r; unfold mkW mkD; rw [findT_D]
def wishD (p : Pg) (k : Nat) : List Wi := ((p.flows[k]?).map fun f => (gat 32 f.body 0 []).map (mkD p k f.st)).getD []
theorem wishL_D (p : Pg) (k : Nat) : wishL p k = wishD p k := by unfold wishL wishD; simp only [mkW_D]
def allD (p : Pg) : List Wi := (List.range p.flows.length).flatMap (wishD p)
theorem allL_D (p : Pg) : allL p = allD p := by unfold allL allN allD; congr 1; funext k; rw [wishL_D]
def ofD (p : Pg) : Option (List Int) := leaF (allD p) (p.flows.length + 1) (List.replicate p.flows.length 0)
theorem ofL_D (p : Pg) : ofL p = ofD p := by unfold ofL ofD; rw [allL_D]
def lateD (p : Pg) (l : List Int) : Bool := decide (nmErr p = 0) && (decide (l.length = p.flows.length) && (!anyOut l && (allD p).all (fun x => decide (0 ≤ ageV l x))))
theorem lateOk_D (p : Pg) (l : List Int) : lateOk p l = lateD p l := by unfold lateOk lateD agesOk; rw [allL_D]
theorem k0 : nmErr kn = 0 := by decide +kernel
theorem k1 : ofL kn = some [0, 1, 2] := by rw [ofL_D]; decide +kernel
theorem k6 : lateOk kn [0, 1, 2] = true := by rw [lateOk_D]; decide +kernel
theorem k7 : lateOk kn [0, 0, 2] = false := by rw [lateOk_D]; decide +kernel
end Go.Proofs.YtgkbbdenmgienaaDoor.Lex
namespace Go.Proofs.YtgkbbdenmgienaaDoor.Lex
def plcD (p : Pg) (l : List Int) (s : Int) (nm : ByteArray) : Plc :=
  let o := findD (thingsL p) nm
  ⟨nm, tyO o, oldF l s (sinF l o s) (akOf (akAll p) nm), !(stO o == s), if stO o = s then 0 else stO o, if stO o = s then 0 else insF p o⟩
theorem plcF_D (p : Pg) (l : List Int) (s : Int) : plcF p l s = plcD p l s := by funext nm; unfold plcF plcD; rw [findT_D]
def placesD (p : Pg) (l : List Int) (s : Int) : List Plc := (allN_ p s).map (plcD p l s)
theorem placesL_D (p : Pg) (l : List Int) (s : Int) : placesL p l s = placesD p l s := by unfold placesL placesD; rw [plcF_D]
abbrev PlT := ByteArray × Nat × Int × Bool × Int × Int
def plT (x : Plc) : PlT := (x.name, x.ty, x.keep, x.far, x.frm, x.df)
def ofT (x : PlT) : Plc := ⟨x.1, x.2.1, x.2.2.1, x.2.2.2.1, x.2.2.2.2.1, x.2.2.2.2.2⟩
theorem of_plT (l : List Plc) : (l.map plT).map ofT = l := by
  rw [List.map_map]
  exact List.map_id'' (fun _ => rfl) l
theorem c1 : sendsA kn 1 = [⟨#[115]⟩] := by decide +kernel
theorem c2 : sendsA kn 2 = [⟨#[116]⟩] := by decide +kernel
theorem c3 : needsA kn 3 = [] := by decide +kernel
theorem c4 : stOk kn 1 = true := by decide +kernel
theorem c5 : (placesD kn [0, 1, 2] 1).map plT = [(⟨#[120]⟩, 1, 2, false, 0, 0), (⟨#[115]⟩, 1, 1, false, 0, 0), (⟨#[117]⟩, 1, 0, false, 0, 0), (⟨#[116]⟩, 1, 0, true, 2, 0)] := by decide +kernel
theorem c6 : placesL kn [0, 1, 2] 1 = [⟨⟨#[120]⟩, 1, 2, false, 0, 0⟩, ⟨⟨#[115]⟩, 1, 1, false, 0, 0⟩, ⟨⟨#[117]⟩, 1, 0, false, 0, 0⟩, ⟨⟨#[116]⟩, 1, 0, true, 2, 0⟩] := by
  rw [placesL_D, ← of_plT (placesD kn [0, 1, 2] 1), c5]
  rfl
end Go.Proofs.YtgkbbdenmgienaaDoor.Lex
namespace Go.Proofs.YtgkbbdenmgienaaDoor.Lex
open Go.ChangeShapes Go.WideShapes Go.ChangeAt Go.RowKit Go.Joins
/-- The chapter's program in its variable, the tables. -/
structure KV (w : World) (pb : Nat) (A B C : Value) (W : World) : Prop where
  row : W.heap[pb]? = some (.cells (pgC kn A B C) 26 (0, 0))
  P : PgAt W kn A B C
  R : TabR W
  J : TabJ W
  below : Below w.heap.size w W
theorem KV.keep {w W W' : World} {pb : Nat} {A B C : Value} (h : KV w pb A B C W) (hb : Below W.heap.size W W') : KV w pb A B C W' := ⟨keep_row h.row hb, h.P.keep hb, h.R.below hb, h.J.below hb, h.below.trans (hb.mono h.below.size)⟩
theorem RowN.one {W : World} {B : Nat} {r : Value} {x : ByteArray} (h : RowN W B r [x]) : ∃ g c, r = .slice (some ⟨g, 0, none⟩) 1 c ∧ W.cell? ⟨g, 0, none⟩ = some (.string x) := by
  rcases h.2 with ⟨_, h0⟩ | ⟨g, c, cur, rfl, _⟩
  · cases h0
  · refine ⟨g, c, rfl, ?_⟩
    have := World.ownsRow.cellAt h 0 (by show 0 < 1 * 1; omega)
    simpa [txC] using this
/-- All that the chapter's calls answered. -/
structure KA (w : World) (pb ga gb gp : Nat) (A B C : Value) (W : World) : Prop where
  K : KV w pb A B C W
  a : W.cell? ⟨ga, 0, none⟩ = some (.string ⟨#[115]⟩)
  b : W.cell? ⟨gb, 0, none⟩ = some (.string ⟨#[116]⟩)
  p0 : W.cell? ⟨gp, 0, none⟩ = some (.string ⟨#[120]⟩)
  p1 : W.cell? ⟨gp, 1, none⟩ = some (.int .u8 1)
  p2 : W.cell? ⟨gp, 2, none⟩ = some (.int .i64 2)
  p3 : W.cell? ⟨gp, 3, none⟩ = some (.bool false)
  p4 : W.cell? ⟨gp, 4, none⟩ = some (.int .i64 0)
  p5 : W.cell? ⟨gp, 5, none⟩ = some (.int .i64 0)
  p6 : W.cell? ⟨gp, 6, none⟩ = some (.string ⟨#[115]⟩)
  p7 : W.cell? ⟨gp, 7, none⟩ = some (.int .u8 1)
  p8 : W.cell? ⟨gp, 8, none⟩ = some (.int .i64 1)
  p9 : W.cell? ⟨gp, 9, none⟩ = some (.bool false)
  p10 : W.cell? ⟨gp, 10, none⟩ = some (.int .i64 0)
  p11 : W.cell? ⟨gp, 11, none⟩ = some (.int .i64 0)
  p12 : W.cell? ⟨gp, 12, none⟩ = some (.string ⟨#[117]⟩)
  p13 : W.cell? ⟨gp, 13, none⟩ = some (.int .u8 1)
  p14 : W.cell? ⟨gp, 14, none⟩ = some (.int .i64 0)
  p15 : W.cell? ⟨gp, 15, none⟩ = some (.bool false)
  p16 : W.cell? ⟨gp, 16, none⟩ = some (.int .i64 0)
  p17 : W.cell? ⟨gp, 17, none⟩ = some (.int .i64 0)
  p18 : W.cell? ⟨gp, 18, none⟩ = some (.string ⟨#[116]⟩)
  p19 : W.cell? ⟨gp, 19, none⟩ = some (.int .u8 1)
  p20 : W.cell? ⟨gp, 20, none⟩ = some (.int .i64 0)
  p21 : W.cell? ⟨gp, 21, none⟩ = some (.bool true)
  p22 : W.cell? ⟨gp, 22, none⟩ = some (.int .i64 2)
  p23 : W.cell? ⟨gp, 23, none⟩ = some (.int .i64 0)
theorem KA.keep {w W W' : World} {pb ga gb gp : Nat} {A B C : Value} (h : KA w pb ga gb gp A B C W) (hb : Below W.heap.size W W') : KA w pb ga gb gp A B C W' := ⟨h.K.keep hb, cell_kept h.a hb, cell_kept h.b hb, cell_kept h.p0 hb, cell_kept h.p1 hb, cell_kept h.p2 hb, cell_kept h.p3 hb, cell_kept h.p4 hb, cell_kept h.p5 hb, cell_kept h.p6 hb, cell_kept h.p7 hb, cell_kept h.p8 hb, cell_kept h.p9 hb, cell_kept h.p10 hb, cell_kept h.p11 hb, cell_kept h.p12 hb, cell_kept h.p13 hb, cell_kept h.p14 hb, cell_kept h.p15 hb, cell_kept h.p16 hb, cell_kept h.p17 hb, cell_kept h.p18 hb, cell_kept h.p19 hb, cell_kept h.p20 hb, cell_kept h.p21 hb, cell_kept h.p22 hb, cell_kept h.p23 hb⟩
theorem KA.P {w W : World} {pb ga gb gp : Nat} {A B C : Value} (h : KA w pb ga gb gp A B C W) : PgAt W kn A B C := h.K.P
theorem KA.R {w W : World} {pb ga gb gp : Nat} {A B C : Value} (h : KA w pb ga gb gp A B C W) : TabR W := h.K.R
theorem KA.J {w W : World} {pb ga gb gp : Nat} {A B C : Value} (h : KA w pb ga gb gp A B C W) : TabJ W := h.K.J
theorem KA.cells {w W : World} {pb ga gb gp A1 B1 C1 : Nat} {A0 B0 C0 : Option Addr} (h : KA w pb ga gb gp (.slice A0 1 A1) (.slice B0 3 B1) (.slice C0 1 C1) W) : W.cell? ⟨pb, 0, none⟩ = some (.int .i64 2) ∧ W.cell? ⟨pb, 1, none⟩ = some (.slice A0 1 A1) ∧ W.cell? ⟨pb, 2, none⟩ = some (.slice B0 3 B1) ∧ W.cell? ⟨pb, 3, none⟩ = some (.slice C0 1 C1) ∧ W.cell? ⟨ga, 0, none⟩ = some (.string ⟨#[115]⟩) ∧ W.cell? ⟨gb, 0, none⟩ = some (.string ⟨#[116]⟩) ∧ W.cell? ⟨gp, 0, none⟩ = some (.string ⟨#[120]⟩) ∧ W.cell? ⟨gp, 1, none⟩ = some (.int .u8 1) ∧ W.cell? ⟨gp, 2, none⟩ = some (.int .i64 2) ∧ W.cell? ⟨gp, 3, none⟩ = some (.bool false) ∧ W.cell? ⟨gp, 4, none⟩ = some (.int .i64 0) ∧ W.cell? ⟨gp, 5, none⟩ = some (.int .i64 0) ∧ W.cell? ⟨gp, 6, none⟩ = some (.string ⟨#[115]⟩) ∧ W.cell? ⟨gp, 7, none⟩ = some (.int .u8 1) ∧ W.cell? ⟨gp, 8, none⟩ = some (.int .i64 1) ∧ W.cell? ⟨gp, 9, none⟩ = some (.bool false) ∧ W.cell? ⟨gp, 10, none⟩ = some (.int .i64 0) ∧ W.cell? ⟨gp, 11, none⟩ = some (.int .i64 0) ∧ W.cell? ⟨gp, 12, none⟩ = some (.string ⟨#[117]⟩) ∧ W.cell? ⟨gp, 13, none⟩ = some (.int .u8 1) ∧ W.cell? ⟨gp, 14, none⟩ = some (.int .i64 0) ∧ W.cell? ⟨gp, 15, none⟩ = some (.bool false) ∧ W.cell? ⟨gp, 16, none⟩ = some (.int .i64 0) ∧ W.cell? ⟨gp, 17, none⟩ = some (.int .i64 0) ∧ W.cell? ⟨gp, 18, none⟩ = some (.string ⟨#[116]⟩) ∧ W.cell? ⟨gp, 19, none⟩ = some (.int .u8 1) ∧ W.cell? ⟨gp, 20, none⟩ = some (.int .i64 0) ∧ W.cell? ⟨gp, 21, none⟩ = some (.bool true) ∧ W.cell? ⟨gp, 22, none⟩ = some (.int .i64 2) ∧ W.cell? ⟨gp, 23, none⟩ = some (.int .i64 0) := by
  obtain ⟨h0, h1, h2, h3⟩ := row4 h.K.row
  exact ⟨h0, h1, h2, h3, h.a, h.b, h.p0, h.p1, h.p2, h.p3, h.p4, h.p5, h.p6, h.p7, h.p8, h.p9, h.p10, h.p11, h.p12, h.p13, h.p14, h.p15, h.p16, h.p17, h.p18, h.p19, h.p20, h.p21, h.p22, h.p23⟩
theorem eq1 (w : World) : (binOp .eql 42 (.agg #[.string ⟨#[120]⟩, .int .u8 1, .int .i64 2, .bool false, .int .i64 0, .int .i64 0]) (.agg #[.string ⟨#[120]⟩, .int .u8 1, .int .i64 2, .bool false, .int .i64 0, .int .i64 0])).run Tryd.prog w = .ok (.bool true) w := by kernel_rfl
theorem eq2 (w : World) : (binOp .eql 42 (.agg #[.string ⟨#[116]⟩, .int .u8 1, .int .i64 0, .bool true, .int .i64 2, .int .i64 0]) (.agg #[.string ⟨#[116]⟩, .int .u8 1, .int .i64 0, .bool true, .int .i64 2, .int .i64 0])).run Tryd.prog w = .ok (.bool true) w := by kernel_rfl
set_option maxRecDepth 100000 in
set_option maxHeartbeats 16000000 in
theorem lives (w : World) (hR : TabR w) (hJ : TabJ w) : Calls Tryd.prog 6 #[] w fun e w' => e = .returned (.bool true) ∧ Below w.heap.size w w' := by
  have HT := hid (And.intro hR hJ)
  clear hR hJ
  have hq1 := eq1
  have hq2 := eq2
  go_enter Tryd.func6, Tryd.ntmps6
  go_wp2_with (fail)
  refine (known_at _).mono ?_
  rintro e w1 ⟨A, B, C, rfl, hP, hb1⟩
  obtain ⟨A0, A1, rfl, _⟩ := hP.ins
  obtain ⟨B0, B1, _, rfl, _⟩ := hP.flows
  obtain ⟨C0, C1, rfl, _⟩ := hP.outs
  have hal := (Below.refl w1.heap.size w1).alloc (Nat.le_refl _) (.cells (pgC kn (.slice A0 1 A1) (.slice B0 3 B1) (.slice C0 1 C1)) 26)
  have hr := heap_alloc_new w1 (.cells (pgC kn (.slice A0 1 A1) (.slice B0 3 B1) (.slice C0 1 C1)) 26)
  have hKV : KV w w1.heap.size (.slice A0 1 A1) (.slice B0 3 B1) (.slice C0 1 C1) (w1.alloc (.cells (pgC kn (.slice A0 1 A1) (.slice B0 3 B1) (.slice C0 1 C1)) 26)) := ⟨hr, hP.keep hal, HT.out.1.below (hb1.trans (hal.mono hb1.size)), HT.out.2.below (hb1.trans (hal.mono hb1.size)), hb1.trans (hal.mono hb1.size)⟩
  obtain ⟨pb, hpb⟩ : ∃ pb, pb = w1.heap.size := ⟨_, rfl⟩
  have HPB := hid hpb
  rw [← hpb] at hKV
  have K1 := hid hKV
  clear hal hr hP hb1 hpb hKV
  go_wp2_with (fail)
  rw [← HPB.out]
  refine (sends_ kn 1 _ _ _ _ K1.out.P K1.out.R K1.out.J).mono ?_
  rintro e w2 ⟨r, rfl, hrow, hb2⟩
  rw [c1] at hrow
  obtain ⟨ga, ca, rfl, hga⟩ := hrow.one
  have K2 := hid (K1.out.keep hb2)
  have GA2 := hid hga
  obtain ⟨x0, x1, x2, x3⟩ := row4 K2.out.row
  clear hrow hb2 hga K1
  go_wp2_with (fail)
  clear x0 x1 x2 x3
  refine (sends_ kn 2 _ _ _ _ K2.out.P K2.out.R K2.out.J).mono ?_
  rintro e w3 ⟨r, rfl, hrow, hb3⟩
  rw [c2] at hrow
  obtain ⟨gb, cb, rfl, hgb⟩ := hrow.one
  have K3 := hid (K2.out.keep hb3)
  have GA3 := hid (cell_kept GA2.out hb3)
  have GB3 := hid hgb
  obtain ⟨x0, x1, x2, x3⟩ := row4 K3.out.row
  clear hrow hb3 hgb K2 GA2
  go_wp2_with (fail)
  clear x0 x1 x2 x3
  have hal := (Below.refl w3.heap.size w3).alloc (Nat.le_refl _) (.cells #[.int .i64 0, .int .i64 1, .int .i64 2] 3)
  have hrl : Rowl (w3.alloc (.cells #[.int .i64 0, .int .i64 1, .int .i64 2] 3)) w3.heap.size [0, 1, 2] := heap_alloc_new w3 _
  have K4 := hid (K3.out.keep hal)
  refine (places_ kn [0, 1, 2] _ 1 _ _ _ _ K4.out.P K4.out.R K4.out.J (hrl.at (by show (3 : Nat) ≤ _; omega))).mono ?_
  rintro e w5 ⟨hE, hb5⟩
  obtain ⟨r, rfl, hrow⟩ : ∃ r, e = .returned (.tuple #[r, .int .i64 0]) ∧ RowP w5 (w3.alloc (.cells #[.int .i64 0, .int .i64 1, .int .i64 2] 3)).heap.size r (placesL kn [0, 1, 2] 1) := by
    rcases hE with ⟨h, _⟩ | ⟨_, h, _⟩ | ⟨_, _, h⟩
    · rw [c4] at h; cases h
    · rw [k6] at h; cases h
    · exact h
  rw [c6] at hrow
  obtain ⟨gp, cp, rfl, hgp⟩ : ∃ g c, r = .slice (some ⟨g, 0, none⟩) 4 c ∧ ∀ k, k < 24 → w5.cell? ⟨g, k, none⟩ = (plsC [⟨⟨#[120]⟩, 1, 2, false, 0, 0⟩, ⟨⟨#[115]⟩, 1, 1, false, 0, 0⟩, ⟨⟨#[117]⟩, 1, 0, false, 0, 0⟩, ⟨⟨#[116]⟩, 1, 0, true, 2, 0⟩])[k]? := by
    rcases hrow.2 with ⟨_, h0⟩ | ⟨g, c, cur, rfl, _⟩
    · cases h0
    · exact ⟨g, c, rfl, fun k hk => World.ownsRow.cellAt hrow k hk⟩
  have hb5' := hal.trans (hb5.mono hal.size)
  have K5 := hid (K3.out.keep hb5')
  have KA5 := hid (KA.mk (w := w) (pb := pb) (ga := ga) (gb := gb) (gp := gp) K5.out (cell_kept GA3.out hb5') (cell_kept GB3.out hb5') (hgp 0 (by omega)) (hgp 1 (by omega)) (hgp 2 (by omega)) (hgp 3 (by omega)) (hgp 4 (by omega)) (hgp 5 (by omega)) (hgp 6 (by omega)) (hgp 7 (by omega)) (hgp 8 (by omega)) (hgp 9 (by omega)) (hgp 10 (by omega)) (hgp 11 (by omega)) (hgp 12 (by omega)) (hgp 13 (by omega)) (hgp 14 (by omega)) (hgp 15 (by omega)) (hgp 16 (by omega)) (hgp 17 (by omega)) (hgp 18 (by omega)) (hgp 19 (by omega)) (hgp 20 (by omega)) (hgp 21 (by omega)) (hgp 22 (by omega)) (hgp 23 (by omega)))
  obtain ⟨x0, x1, x2, x3⟩ := row4 K5.out.row
  clear hrow hb5 hgp hal hrl hb5' hE K4 K5 K3 GA3 GB3
  go_wp2_with (fail)
  clear x0 x1 x2 x3
  have hal := (Below.refl w5.heap.size w5).alloc (Nat.le_refl _) (.cells #[.int .i64 0, .int .i64 0, .int .i64 2] 3)
  have hrl : Rowl (w5.alloc (.cells #[.int .i64 0, .int .i64 0, .int .i64 2] 3)) w5.heap.size [0, 0, 2] := heap_alloc_new w5 _
  have K6a := hid (KA5.out.keep hal)
  refine (places_ kn [0, 0, 2] _ 1 _ _ _ _ K6a.out.P K6a.out.R K6a.out.J (hrl.at (by show (3 : Nat) ≤ _; omega))).mono ?_
  rintro e w6 ⟨hE, hb6⟩
  obtain rfl : e = .returned (.tuple #[.slice none 0 0, .int .i64 10]) := by
    rcases hE with ⟨h, _⟩ | ⟨_, _, h⟩ | ⟨_, h, _⟩
    · rw [c4] at h; cases h
    · exact h
    · rw [k7] at h; cases h
  have K6 := hid (K6a.out.keep hb6)
  clear hE hb6 hal hrl K6a KA5
  obtain ⟨z0, z1, z2, z3, z4, z5, z6, z7, z8, z9, z10, z11, z12, z13, z14, z15, z16, z17, z18, z19, z20, z21, z22, z23, z24, z25, z26, z27, z28, z29⟩ := K6.out.cells
  go_wp2_with (fail)
  clear z0 z1 z2 z3 z4 z5 z6 z7 z8 z9 z10 z11 z12 z13 z14 z15 z16 z17 z18 z19 z20 z21 z22 z23 z24 z25 z26 z27 z28 z29
  refine (needsf_ kn 3 _ _ _ _ K6.out.P K6.out.R K6.out.J).mono ?_
  rintro e w7 ⟨r, rfl, hrow, hb7⟩
  rw [c3] at hrow
  obtain ⟨ra, rc, hre⟩ : ∃ ra rc, r = .slice ra 0 rc := by
    rcases hrow.2 with ⟨h1, _⟩ | ⟨g, c, cur, h1, _⟩
    · exact ⟨none, 0, h1⟩
    · exact ⟨_, _, h1⟩
  subst hre
  have K7 := hid (K6.out.keep hb7)
  clear hrow hb7
  obtain ⟨z0, z1, z2, z3, z4, z5, z6, z7, z8, z9, z10, z11, z12, z13, z14, z15, z16, z17, z18, z19, z20, z21, z22, z23, z24, z25, z26, z27, z28, z29⟩ := K7.out.cells
  go_wp2
  go_ret
  exact ⟨rfl, K7.out.K.below⟩
end Go.Proofs.YtgkbbdenmgienaaDoor.Lex
namespace Go.Proofs.YtgkbbdenmgienaaDoor.Lex
theorem flows_snd (p : Pg) : (flowsL p).map (·.2) = p.flows.map Fl.hd := by
  unfold flowsL
  apply List.ext_getElem
  · simp
  · intro i h1 h2
    simp only [List.length_map, List.length_range] at h1
    simp [h1]
theorem decl_things (p : Pg) (s : Int) : declL p s = ((thingsL p).filter fun x => x.2.st == s).map fun x => x.2.name := by
  have e1 : inN s p.ins = ((insL p).filter fun x => x.2.st == s).map fun x => x.2.name := by
    unfold inN insL
    rw [List.filter_map, List.map_map]
    rfl
  have e2 : flN s p.flows = ((flowsL p).filter fun x => x.2.st == s).map fun x => x.2.name := by
    have h : ((flowsL p).filter fun x => x.2.st == s).map (fun x => x.2.name) = (((flowsL p).map (·.2)).filter fun y => y.st == s).map (·.name) := by
      rw [List.filter_map, List.map_map]
      rfl
    rw [h, flows_snd]
    unfold flN
    rw [List.filter_map, List.map_map]
    rfl
  unfold declL thingsL
  rw [e1, e2, List.filter_append, List.map_append]
theorem nodup_of {α β : Type} [DecidableEq β] (f : α → β) : ∀ l : List α, (∀ x ∈ l, (l.filter fun y => decide (f x = f y)).length ≤ 1) → (l.map f).Nodup
  | [], _ => List.nodup_nil
  | a :: l, h => by
    rw [List.map_cons, List.nodup_cons]
    constructor
    · intro hm
      obtain ⟨b, hb, e⟩ := List.mem_map.1 hm
      have h1 := h a (by simp)
      rw [List.filter_cons, if_pos (by simp)] at h1
      have h2 : b ∈ l.filter fun y => decide (f a = f y) := List.mem_filter.2 ⟨hb, by simp [e]⟩
      have := List.length_pos_of_mem h2
      rw [List.length_cons] at h1
      omega
    · refine nodup_of f l (fun x hx => ?_)
      have h1 := h x (by simp [hx])
      rw [List.filter_cons] at h1
      split at h1
      · rw [List.length_cons] at h1
        omega
      · exact h1
theorem names_nodup {p : Pg} (hE : nmErr p = 0) : ((thingsL p).map fun x => x.2.name).Nodup := by
  have h := nodup_of (fun x : Int × Hd => x.2.name.data.toList) (thingsL p) (fun x hx => by
    have := once (nmErr_zero hE).2 hx
    unfold cntT at this
    omega)
  have e : ((thingsL p).map fun x => x.2.name.data.toList) = ((thingsL p).map fun x => x.2.name).map (fun s => s.data.toList) := by rw [List.map_map]; rfl
  rw [e] at h
  exact List.Pairwise.of_map (fun s : ByteArray => s.data.toList) (fun a b hab e2 => hab (by rw [e2])) h
theorem thing_eq {p : Pg} (hE : nmErr p = 0) {x y : Int × Hd} (hx : x ∈ thingsL p) (hy : y ∈ thingsL p) (e : x.2.name = y.2.name) : x = y := by
  have h := names_nodup hE
  obtain ⟨i, hi, rfl⟩ := List.getElem_of_mem hx
  obtain ⟨j, hj, rfl⟩ := List.getElem_of_mem hy
  have hp := List.pairwise_iff_getElem.1 h
  have hij : i = j := by
    rcases Nat.lt_trichotomy i j with h1 | h1 | h1
    · exact (hp i j (by simpa using hi) (by simpa using hj) h1 (by simpa using e)).elim
    · exact h1
    · exact (hp j i (by simpa using hj) (by simpa using hi) h1 (by simpa using e.symm)).elim
  subst hij
  rfl
/-- Others ask for it. -/
def uF (p : Pg) (x : Int × Hd) : Bool := anyL (farB x.2.st) (akOf (akAll p) x.2.name)
/-- All names that others ask for. -/
def uL (p : Pg) : List ByteArray := ((thingsL p).filter (uF p)).map fun x => x.2.name
theorem sent_eq (p : Pg) (s : Int) : sentF s (akAll p) (declL p s) = ((thingsL p).filter fun x => x.2.st == s && uF p x).map fun x => x.2.name := by
  rw [decl_things]
  unfold sentF
  rw [List.filter_map, List.filter_filter]
  congr 1
  apply List.filter_congr
  intro x _
  dsimp only [Function.comp]
  unfold uF
  by_cases e : x.2.st = s
  · subst e
    simp
  · have : (x.2.st == s) = false := by simpa using e
    rw [this]
    simp
/-- How many names the first stations send. -/
def sentN (p : Pg) : Nat → Nat
  | 0 => 0
  | k + 1 => sentN p k + (sendsA p ((k : Int) + 1)).length
theorem sent_sum {p : Pg} (hE : nmErr p = 0) : ∀ k : Nat, (k : Int) ≤ p.st → sentN p k = ((thingsL p).filter fun x => decide (x.2.st ≤ (k : Int)) && uF p x).length
  | 0, _ => by
    show 0 = _
    rw [eq_comm, List.length_eq_zero_iff, List.filter_eq_nil_iff]
    intro x hx
    have := (thing_st (nmErr_zero hE).1 hx).1
    simp
    intro h
    omega
  | k + 1, hk => by
    have ih := sent_sum hE k (by omega)
    have hst : stOk p ((k : Int) + 1) = true := by unfold stOk; simp [hE]; omega
    show sentN p k + (sendsA p ((k : Int) + 1)).length = _
    unfold sendsA
    rw [if_pos hst, sent_eq, List.length_map, ih]
    generalize thingsL p = l
    induction l with
    | nil => rfl
    | cons x l ih2 =>
      simp only [List.filter_cons]
      cases hu : uF p x
      · simp only [Bool.and_false, Bool.false_eq_true, if_false]
        exact ih2
      · simp only [Bool.and_true]
        by_cases h1 : x.2.st ≤ (k : Int)
        · have h2 : (x.2.st == (k : Int) + 1) = false := by simp; omega
          have h3 : x.2.st ≤ ((k + 1 : Nat) : Int) := by omega
          simp only [decide_eq_true h1, h2, decide_eq_true h3, if_true, Bool.false_eq_true, if_false, List.length_cons]
          omega
        · by_cases h2 : x.2.st = (k : Int) + 1
          · have h2' : (x.2.st == (k : Int) + 1) = true := by simpa using h2
            have h3 : x.2.st ≤ ((k + 1 : Nat) : Int) := by omega
            simp only [decide_eq_false h1, h2', decide_eq_true h3, if_true, Bool.false_eq_true, if_false, List.length_cons]
            omega
          · have h2' : (x.2.st == (k : Int) + 1) = false := by simpa using h2
            have h3 : ¬ x.2.st ≤ ((k + 1 : Nat) : Int) := by omega
            simp only [decide_eq_false h1, h2', decide_eq_false h3, Bool.false_eq_true, if_false]
            exact ih2
theorem sent_all {p : Pg} (hE : nmErr p = 0) (h0 : 0 ≤ p.st) : sentN p p.st.toNat = (uL p).length := by
  rw [sent_sum hE _ (by omega)]
  unfold uL
  rw [List.length_map]
  congr 1
  apply List.filter_congr
  intro x hx
  have := (thing_st (nmErr_zero hE).1 hx).2
  have h : x.2.st ≤ (p.st.toNat : Int) := by omega
  rw [decide_eq_true h, Bool.true_and]
theorem u_nodup {p : Pg} (hE : nmErr p = 0) : (uL p).Nodup := by
  have h := names_nodup hE
  unfold uL
  exact List.Nodup.sublist (List.Sublist.map _ List.filter_sublist) h
end Go.Proofs.YtgkbbdenmgienaaDoor.Lex
namespace Go.Proofs.YtgkbbdenmgienaaDoor.Lex
theorem anyL_iff {P : Ak → Bool} {l : List Ak} : anyL P l = true ↔ ∃ y ∈ l, P y = true := by unfold anyL; exact List.any_eq_true
theorem need_iff {p : Pg} (hE : nmErr p = 0) {s : Int} {nm : ByteArray} : nm ∈ needL p s ↔ ∃ x ∈ thingsL p, x.2.name = nm ∧ x.2.st ≠ s ∧ anyL (hereB s) (akOf (akAll p) nm) = true := by
  unfold needL askedF
  rw [List.mem_filter, oth_mem]
  constructor
  · rintro ⟨⟨i, hi, hne, hd⟩, ha⟩
    obtain ⟨x, hx, e, hs⟩ := declL_mem.1 hd
    exact ⟨x, hx, e, by rw [hs]; exact hne, ha⟩
  · rintro ⟨x, hx, e, hne, ha⟩
    have h := thing_st (nmErr_zero hE).1 hx
    refine ⟨⟨(x.2.st - 1).toNat, by omega, by omega, ?_⟩, ha⟩
    rw [declL_mem]
    exact ⟨x, hx, e, by omega⟩
theorem ak_st {p : Pg} (hE : nmErr p = 0) {nm : ByteArray} {y : Ak} (hy : y ∈ akOf (akAll p) nm) : 1 ≤ y.st ∧ y.st ≤ p.st := by
  obtain ⟨x, hx, rfl⟩ := List.mem_map.1 hy
  have hx := (List.mem_filter.1 hx).1
  obtain ⟨k, hk, hx⟩ := List.mem_flatMap.1 hx
  have hk := List.mem_range.1 hk
  rw [akL_at hk] at hx
  obtain ⟨r, hr, rfl⟩ := List.mem_map.1 hx
  have hm : ((k : Int), p.flows[k].hd) ∈ thingsL p := List.mem_append.2 (.inr (List.mem_map.2 ⟨k, List.mem_range.2 hk, by rw [List.getElem?_eq_getElem hk]; rfl⟩))
  exact thing_st (nmErr_zero hE).1 hm
theorem u_iff {p : Pg} (hE : nmErr p = 0) {nm : ByteArray} : nm ∈ uL p ↔ ∃ i : Nat, i < p.st.toNat ∧ nm ∈ needL p ((i : Int) + 1) := by
  unfold uL
  rw [List.mem_map]
  constructor
  · rintro ⟨x, hx, rfl⟩
    obtain ⟨hx, hu⟩ := List.mem_filter.1 hx
    unfold uF at hu
    obtain ⟨y, hy, hf⟩ := anyL_iff.1 hu
    have hs := ak_st hE hy
    refine ⟨(y.st - 1).toNat, by omega, ?_⟩
    have e : (((y.st - 1).toNat : Int) + 1) = y.st := by omega
    rw [e, need_iff hE]
    refine ⟨x, hx, rfl, ?_, anyL_iff.2 ⟨y, hy, by unfold hereB; simp⟩⟩
    unfold farB at hf
    intro h
    rw [h] at hf
    simp at hf
  · rintro ⟨i, hi, hn⟩
    obtain ⟨x, hx, rfl, hne, ha⟩ := (need_iff hE).1 hn
    refine ⟨x, List.mem_filter.2 ⟨hx, ?_⟩, rfl⟩
    unfold uF
    obtain ⟨y, hy, hh⟩ := anyL_iff.1 ha
    refine anyL_iff.2 ⟨y, hy, ?_⟩
    unfold hereB at hh
    unfold farB
    have : y.st = (i : Int) + 1 := by simpa using hh
    rw [this]
    simp
    exact fun h => hne h.symm
theorem count_eq {p : Pg} (hE : nmErr p = 0) {K : List ByteArray} (hK : K.Nodup) (h : ∀ nm, nm ∈ K ↔ ∃ i : Nat, i < p.st.toNat ∧ nm ∈ needL p ((i : Int) + 1)) : K.length = (uL p).length :=
  List.Perm.length_eq ((List.perm_ext_iff_of_nodup hK (u_nodup hE)).2 fun nm => (h nm).trans (u_iff hE).symm)
theorem decl_nodup {p : Pg} (hE : nmErr p = 0) (s : Int) : (declL p s).Nodup := by
  rw [decl_things]
  exact List.Nodup.sublist (List.Sublist.map _ List.filter_sublist) (names_nodup hE)
theorem decl_one {p : Pg} (hE : nmErr p = 0) {s t : Int} {nm : ByteArray} (h : nm ∈ declL p s) (h' : nm ∈ declL p t) : s = t := by
  obtain ⟨x, hx, e, hs⟩ := declL_mem.1 h
  obtain ⟨y, hy, e', ht⟩ := declL_mem.1 h'
  have := thing_eq hE hx hy (e.trans e'.symm)
  subst this
  exact hs.symm.trans ht
theorem oth_nodup {p : Pg} (hE : nmErr p = 0) (s : Int) : ∀ k, (othL p s k).flatten.Nodup
  | 0 => List.nodup_nil
  | k + 1 => by
    rw [othL_succ]
    cases (((k : Int) + 1) == s)
    · rw [if_neg (by simp), List.flatten_append]
      have e : [declL p ((k : Int) + 1)].flatten = declL p ((k : Int) + 1) := by simp
      rw [e, List.nodup_append]
      refine ⟨oth_nodup hE s k, decl_nodup hE _, fun a ha b hb e2 => ?_⟩
      subst e2
      obtain ⟨i, hi, _, hd⟩ := oth_mem.1 ha
      have := decl_one hE hd hb
      omega
    · rw [if_pos rfl, List.append_nil]
      exact oth_nodup hE s k
theorem need_nodup {p : Pg} (hE : nmErr p = 0) (s : Int) : (needL p s).Nodup := List.Nodup.sublist List.filter_sublist (oth_nodup hE s _)
theorem all_nodup {p : Pg} (hE : nmErr p = 0) (s : Int) : (allN_ p s).Nodup := by
  unfold allN_
  rw [List.nodup_append]
  refine ⟨decl_nodup hE s, need_nodup hE s, fun a ha b hb e => ?_⟩
  subst e
  obtain ⟨x, hx, e1, hs⟩ := declL_mem.1 ha
  obtain ⟨y, hy, e2, hne, _⟩ := (need_iff hE).1 hb
  have := thing_eq hE hx hy (e1.trans e2.symm)
  subst this
  exact hne hs
theorem far_iff {p : Pg} (hE : nmErr p = 0) {s : Int} {nm : ByteArray} {x : Int × Hd} (h : nm ∈ allN_ p s) (hx : findT (thingsL p) nm = some x) : nm ∈ needL p s ↔ x.2.st ≠ s := by
  obtain ⟨hm, e⟩ := findT_mem hx
  constructor
  · intro hn
    obtain ⟨y, hy, e2, hne, _⟩ := (need_iff hE).1 hn
    have := thing_eq hE hm hy (e.trans e2.symm)
    subst this
    exact hne
  · intro hne
    rcases List.mem_append.1 h with h | h
    · obtain ⟨y, hy, e2, hs⟩ := declL_mem.1 h
      have := thing_eq hE hm hy (e.trans e2.symm)
      subst this
      exact (hne hs).elim
    · exact h
theorem sends_mem {p : Pg} (hE : nmErr p = 0) {s : Int} {nm : ByteArray} {x : Int × Hd} (h : nm ∈ needL p s) (hx : findT (thingsL p) nm = some x) : nm ∈ sendsA p x.2.st := by
  obtain ⟨hm, e⟩ := findT_mem hx
  obtain ⟨y, hy, e2, hne, ha⟩ := (need_iff hE).1 h
  have := thing_eq hE hm hy (e.trans e2.symm)
  subst this
  have hst := thing_st (nmErr_zero hE).1 hm
  have hs : stOk p x.2.st = true := by unfold stOk; simp [hE]; omega
  unfold sendsA
  rw [if_pos hs]
  unfold sentF
  refine List.mem_filter.2 ⟨declL_mem.2 ⟨x, hm, e, rfl⟩, ?_⟩
  obtain ⟨z, hz, hh⟩ := anyL_iff.1 ha
  refine anyL_iff.2 ⟨z, hz, ?_⟩
  unfold hereB at hh
  unfold farB
  have : z.st = s := by simpa using hh
  rw [this]
  simp
  exact fun h => hne h.symm
end Go.Proofs.YtgkbbdenmgienaaDoor.Lex
namespace Go.Proofs.YtgkbbdenmgienaaDoor.Lex
open Go.ChangeShapes Go.WideShapes Go.ChangeAt Go.RowKit Go.Joins
/-- Where it says no, the rows are short. -/
def GreatC (p : Pg) (e : Ending) : Prop := ∃ g : Bool, e = .returned (.bool g) ∧ (g = false → p.ins.length ≤ 24 ∧ p.flows.length ≤ 24 ∧ p.outs.length ≤ 100)
set_option maxRecDepth 100000 in
set_option maxHeartbeats 1000000 in
theorem great (p : Pg) (w : World) (a b c : Value) (hP : PgAt w p a b c) :
    Calls Tryd.prog 5 #[pgV p a b c] w fun e w' => GreatC p e ∧ Below w.heap.size w w' := by
  obtain ⟨a0, a1, rfl, _⟩ := hP.ins
  obtain ⟨b0, b1, _, rfl, _⟩ := hP.flows
  obtain ⟨c0, c1, rfl, _⟩ := hP.outs
  have B0 := hid ((Below.refl w.heap.size w).alloc (Nat.le_refl _) (.cells (pgC p (.slice a0 p.ins.length a1) (.slice b0 p.flows.length b1) (.slice c0 p.outs.length c1)) 26))
  have P0 := hid (hP.keep B0.out)
  have bx := fun j v => box_at w (pgC p (.slice a0 p.ins.length a1) (.slice b0 p.flows.length b1) (.slice c0 p.outs.length c1)) 26 j v
  have x0 := bx 0 _ rfl
  have x1 := bx 1 _ rfl
  have x2 := bx 2 _ rfl
  have x3 := bx 3 _ rfl
  clear hP bx
  go_enter Tryd.func5, Tryd.ntmps5
  go_wp2_with (go_at_call 13; refine (prog_size _ _ _ _ _ P0.out).mono ?_; rintro e w1 ⟨⟨m1, rfl⟩, hb1⟩; have B1 := hid (bstep B0.out hb1); have y1 := cell_kept x1 hb1; have y2 := cell_kept x2 hb1; have y3 := cell_kept x3 hb1; clear P0 hb1)
  all_goals (go_ret; first | exact ⟨⟨_, rfl, fun h => by simp at *; try omega⟩, B1.out⟩ | exact ⟨⟨_, rfl, fun h => by simp at *; try omega⟩, B0.out⟩)
end Go.Proofs.YtgkbbdenmgienaaDoor.Lex
