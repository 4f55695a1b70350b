/-
  cutOf: a program as one of its stations has it.
  Whether some of those that ask are of the station, or of others: isHere, IndexFunc, ContainsFunc.
  Whether others ask for a name, whether the station does.
  The names that a station has: declared.
  Rows of names, one behind the other: slices.Grow, slices.Concat.
  Names that are wanted: gathered.
  What a station needs of others: needs.
  A list that is made greater until it stays: plain mathematics of the function least.
  The list that least tells: it is one that may be, none is less, and each is as late as it must be: plain mathematics.
  How old what is asked for is, by definition.
  All wishes in a row: the contract of slices.Collect over them, and of the function that goes through such a row.
  The function least: its contract.
  How late flows are: the contract of late.Of.
  How late flows of a program are: what the law asks of it, as plain mathematics.
  The greatest age of what is kept: oldest.
-/
import Derived.Test.YtdenddknbmiboaaDoorG6
import Derived.Lib.AppendZerosOnto
import Derived.Laws.AppendOwnNone
import Derived.Test.YtdenddknbmiboaaDoorG4
import Derived.Scope
import Derived.Deep.OwnRows
namespace Go.Proofs.YtdenddknbmiboaaDoor.Lex
open Go.ChangeShapes Go.WideShapes Go.ChangeAt Go.RowKit Go.Joins
attribute [local go_sem] Oper.semAt_some
/-- The cells of a cut. -/
abbrev cutC (p : Pg) (A B C : Value) (s : Int) (mb : Nat) : Array Value := #[.int .i64 p.st, A, B, C, .int .i64 s, .map (some mb)]
abbrev cutV (p : Pg) (A B C : Value) (s : Int) (mb : Nat) : Value := .agg (cutC p A B C s mb)
abbrev cut0 : Array Value := #[.int .i64 0, .slice none 0 0, .slice none 0 0, .slice none 0 0, .int .i64 0, .map none]
/-- There is such a station. -/
def stOk (p : Pg) (s : Int) : Bool := decide (nmErr p = 0) && (decide (1 ≤ s) && decide (s ≤ p.st))
theorem info70 : (Tryd.prog.info? 79).map (·.size) = some 6 := by kernel_rfl
theorem results_cell_tmp {fn : Func} {q u : Tmp} (h : fn.results = #[.cell q 79, .tmp u]) (tmps : Array Value) (w : World) (g : Nat) (t : TypeId) (cs : Array Value) (fr : Nat × Nat)
    (hp : tmps.getD q undef = .pointer (some ⟨g, 0, none⟩)) (hg : w.heap[g]? = some (.cells cs t fr)) (hi : (Tryd.prog.info? 79).map (·.size) = some cs.size) :
    (results fn tmps).run Tryd.prog w = .ok (.tuple #[.agg cs, tmps.getD u undef]) w := by
  have hp' : tmps[q]?.getD undef = .pointer (some ⟨g, 0, none⟩) := by simpa using hp
  simp [results, h, hp', asAddr, run_loadVar_row w g t 79 cs fr _ hg Tryd.underlying79 rfl hi]
theorem chk_few {p : Pg} (h : nmErr p = 0) : p.flows.length ≤ 128 := (pgOk_few h).2
/-- Two variables: a program, a cut. -/
theorem FV.two {w : World} {p : Pg} {A B C : Value} (hP : PgAt w p A B C) (hR : TabR w) (hJ : TabJ w) (cs : Array Value) (T : TypeId) : FV w p A B C ((w.alloc (.cells (pgC p A B C) 46)).alloc (.cells cs T)) := (FV.new hP hR hJ).keep ((Below.refl _ _).alloc (Nat.le_refl _) _)
set_option maxRecDepth 100000 in
set_option maxHeartbeats 4000000 in
theorem cut_of (p : Pg) (s : Int) (w : World) (A B C : Value) (hP : PgAt w p A B C) (hR : TabR w) (hJ : TabJ w) : Calls Tryd.prog 26 #[pgV p A B C, .int .i64 s] w fun e w' =>
    ((stOk p s = false ∧ e = .returned (.tuple #[.agg cut0, .bool false])) ∨ ∃ mb, stOk p s = true ∧ e = .returned (.tuple #[cutV p A B C s mb, .bool true]) ∧ AMr w' mb (akAll p)) ∧ Below w.heap.size w w' := by
  obtain ⟨A0, A1, rfl, _⟩ := hP.ins
  obtain ⟨B0, B1, _, rfl, _⟩ := hP.flows
  obtain ⟨C0, C1, rfl, _⟩ := hP.outs
  have X0 := hid (FV.two hP hR hJ cut0 79)
  have R0 : Hid (((w.alloc (.cells (pgC p (.slice A0 p.ins.length A1) (.slice B0 p.flows.length B1) (.slice C0 p.outs.length C1)) 46)).alloc (.cells cut0 79)).heap[w.heap.size + 1]? = some (.cells cut0 79 (0, 0))) := hid (by
    have h := heap_alloc_new (w.alloc (.cells (pgC p (.slice A0 p.ins.length A1) (.slice B0 p.flows.length B1) (.slice C0 p.outs.length C1)) 46)) (.cells cut0 79)
    rwa [World.size_alloc] at h)
  clear hP hR hJ
  have RT := @results_cell_tmp Tryd.f26 4 5 rfl
  go_enter Tryd.func26, Tryd.ntmps26
  obtain ⟨r0, r1, r2, r3⟩ := row4 X0.out.row
  go_wp2_with (fail)
  refine ((callsIn_wide (n := 20)).1 (names_check p _ _ _ _ X0.out.P X0.out.R X0.out.J)).mono ?_
  rintro e w1 ⟨rfl, hb1⟩
  have X1 := hid (X0.out.keep hb1)
  have R1 := hid (keep_row R0.out hb1)
  clear hb1 X0 R0 r0 r1 r2 r3
  obtain ⟨s0, s1, s2, s3⟩ := row4 X1.out.row
  have HS1 : Hid (setRow_heap w1 (w.heap.size + 1) cut0 cut0 79 (0, 0) R1.out = setRow_heap w1 (w.heap.size + 1) cut0 cut0 79 (0, 0) R1.out) := hid rfl
  clear HS1
  have fin0 : Hid (∀ (t : Array Value), t.getD 4 undef = .pointer (some ⟨w.heap.size + 1, 0, none⟩) → t.getD 5 undef = .bool false → stOk p s = false → bodyPost Tryd.prog Tryd.f26 (fun e w' => ((stOk p s = false ∧ e = .returned (.tuple #[.agg cut0, .bool false])) ∨ ∃ mb, stOk p s = true ∧ e = .returned (.tuple #[cutV p (.slice A0 p.ins.length A1) (.slice B0 p.flows.length B1) (.slice C0 p.outs.length C1) s mb, .bool true]) ∧ AMr w' mb (akAll p)) ∧ Below w.heap.size w w') .ret { tmps := t, defers := [] } (w1.setRow (w.heap.size + 1) cut0)) := hid (fun t h4 h5 hs => by
    have hr := RT t (w1.setRow (w.heap.size + 1) cut0) (w.heap.size + 1) 79 cut0 (0, 0) h4 (setRow_heap _ _ _ _ _ _ R1.out) info70
    rw [h5] at hr
    exact bodyPost_ret hr rfl ⟨.inl ⟨hs, rfl⟩, below_row X1.out.below X1.out.below.size (by omega) _⟩)
  by_cases hE : nmErr p = 0
  · have HE := hid hE
    rw [hE]
    clear hE
    by_cases h1 : s < 1
    · have HST : Hid (stOk p s = false) := hid (by unfold stOk; simp; omega)
      have hd1 : decide (s < 1) = true := by simpa using h1
      clear h1
      go_wp2_with (refine wpList_store_row rfl 79 _ _ rfl (w.heap.size + 1) cut0 rfl rfl 79 _ R1.out info70 rfl (by simp [Value.oneCell']) ?_)
      refine fin0.out _ ?_ ?_ HST.out <;> rfl
    · by_cases h2 : p.st < s
      · have HST : Hid (stOk p s = false) := hid (by unfold stOk; simp; omega)
        have hd1 : decide (s < 1) = false := by simpa using h1
        clear h1
        go_wp2_with (refine wpList_store_row rfl 79 _ _ rfl (w.heap.size + 1) cut0 rfl rfl 79 _ R1.out info70 rfl (by simp [Value.oneCell']) ?_)
        refine fin0.out _ ?_ ?_ HST.out <;> rfl
      · have HST : Hid (stOk p s = true) := hid (by unfold stOk; simp; exact ⟨HE.out, by omega, by omega⟩)
        have hd1 : decide (s < 1) = false := by simpa using h1
        have hd2 : decide (p.st < s) = false := by simpa using h2
        have hdw : Below w1.heap.size w1 w1.drew := (Below.refl _ w1).drew
        have c43 : Calls Tryd.prog 44 #[pgV p (.slice A0 p.ins.length A1) (.slice B0 p.flows.length B1) (.slice C0 p.outs.length C1)] w1.drew fun e w' => e = .returned (.map (some (w1.heap.size + 1))) ∧ AMr w' (w1.heap.size + 1) (akAll p) ∧ Below w1.heap.size w1.drew w' := askers_of p w1.drew _ _ _ (X1.out.P.keep hdw) (nm_chk HE.out) (fun i hi r hr => by obtain ⟨x, hx, e, _⟩ := ref_nmk HE.out hi hr; rw [← e]; exact thing_nmk (nmErr_zero HE.out).1 hx) (chk_few HE.out)
        clear h1 h2
        go_wp2_with (fail)
        refine wp_region_held_drew (S := fun W => W.cell? ⟨w.heap.size, 0, none⟩ = some (.int .i64 p.st) ∧ W.cell? ⟨w.heap.size, 1, none⟩ = some (.slice A0 p.ins.length A1) ∧ W.cell? ⟨w.heap.size, 2, none⟩ = some (.slice B0 p.flows.length B1) ∧ W.cell? ⟨w.heap.size, 3, none⟩ = some (.slice C0 p.outs.length C1)) (by kernel_rfl) ?_ (fun hHeld => ?_)
        · exact ⟨s0, s1, s2, s3⟩
        refine wpAnyH_take (i := 0) (oi := { dst := some 20, op := Go.Op.load 46 (Go.Operand.tmp 2), type := 46, pos := _, after := #[], guard := none }) (v := ?_) rfl (by kernel_rfl) (by kernel_rfl) (by kernel_rfl) (fun _ _ _ h => h) (Or.inl ⟨by rfl, ?_⟩) (by assumption) ?_
        rotate_left
        · intro w hSw; (try dsimp only at hSw); go_simp <;> first | with_reducible rfl | (rw [if_neg (by first | omega | (simp only [ByteArray.size_append] at *; omega))])
        simp only [Act.put, List.setIfInBounds_toArray, List.set_cons_zero, List.set_cons_succ]
        refine wpAnyH_take (i := 1) (oi := { dst := some 21, op := Go.Op.move (Go.Operand.tmp 1), type := 3, pos := _, after := #[], guard := none }) (v := ?_) rfl (by kernel_rfl) (by kernel_rfl) (by kernel_rfl) (fun _ _ _ h => h) (Or.inl ⟨by rfl, ?_⟩) (by assumption) ?_
        rotate_left
        · intro w hSw; (try dsimp only at hSw); go_simp <;> first | with_reducible rfl | (rw [if_neg (by first | omega | (simp only [ByteArray.size_append] at *; omega))])
        simp only [Act.put, List.setIfInBounds_toArray, List.set_cons_zero, List.set_cons_succ]
        refine wpAnyH_take (i := 2) (oi := { dst := some 22, op := Go.Op.load 46 (Go.Operand.tmp 2), type := 46, pos := _, after := #[], guard := none }) (v := ?_) rfl (by kernel_rfl) (by kernel_rfl) (by kernel_rfl) (fun _ _ _ h => h) (Or.inl ⟨by rfl, ?_⟩) (by assumption) ?_
        rotate_left
        · intro w hSw; (try dsimp only at hSw); go_simp <;> first | with_reducible rfl | (rw [if_neg (by first | omega | (simp only [ByteArray.size_append] at *; omega))])
        simp only [Act.put, List.setIfInBounds_toArray, List.set_cons_zero, List.set_cons_succ]
        refine wpAnyH_ready (rs := [3]) (by kernel_rfl) (by simp) ?_
        refine AllReadyH.cons (o := { dst := some 23, op := Go.Op.call { callee := Go.Callee.value (Go.Operand.func 44), args := #[Go.Operand.tmp 22], argTypes := #[46] }, type := 77, pos := _, after := #[{ on := 2, ground := Go.Ground.data }], guard := none }) rfl (fun K hK => ?_) AllReadyH.nil
        go_simp
        refine c43.mono ?_
        rintro e w2 ⟨rfl, hA, hb2⟩
        have HA := hid hA
        have HB2 := hid (hdw.trans hb2)
        obtain ⟨n0, n1, n2, n3⟩ := row4 (keep_row X1.out.row HB2.out)
        clear hA hb2 c43 hdw
        go_wp2_with fail
        refine hK.out _ _ ?_ (fun hHeld1 => ?_)
        · exact ⟨n0, n1, n2, n3⟩
        clear hK K
        refine wpAnyH_take (i := 4) (oi := { dst := some 24, op := Go.Op.build 79 #[(0, Go.Operand.tmp 20), (1, Go.Operand.tmp 21), (2, Go.Operand.tmp 23)], type := 79, pos := _, after := #[{ on := 0, ground := Go.Ground.data }, { on := 1, ground := Go.Ground.data }, { on := 3, ground := Go.Ground.data }], guard := none }) (v := ?_) rfl (by kernel_rfl) (by kernel_rfl) (by kernel_rfl) (fun _ _ _ h => h) (Or.inl ⟨by rfl, ?_⟩) (by assumption) ?_
        rotate_left
        · intro w hSw; (try dsimp only at hSw); go_simp <;> first | with_reducible rfl | (rw [if_neg (by first | omega | (simp only [ByteArray.size_append] at *; omega))])
        simp only [Act.put, List.setIfInBounds_toArray, List.set_cons_zero, List.set_cons_succ]
        refine wpAnyH_ready (rs := [5]) (by kernel_rfl) (by simp) ?_
        refine AllReadyH.cons (o := { dst := none, op := Go.Op.store 79 (Go.Operand.tmp 4) (Go.Operand.tmp 24), type := 0, pos := _, after := #[{ on := 4, ground := Go.Ground.data }, { on := 3, ground := Go.Ground.chain }, { on := 0, ground := Go.Ground.phase }, { on := 1, ground := Go.Ground.phase }, { on := 2, ground := Go.Ground.phase }, { on := 3, ground := Go.Ground.phase }, { on := 4, ground := Go.Ground.phase }], guard := none }) rfl (fun K hK => ?_) AllReadyH.nil
        have hrw := keep_row R1.out HB2.out
        refine if_take (by rfl) ?_
        refine wp_store_row 79 _ _ rfl (w.heap.size + 1) (cutC p (.slice A0 p.ins.length A1) (.slice B0 p.flows.length B1) (.slice C0 p.outs.length C1) s (w1.heap.size + 1)) rfl rfl 79 _ hrw info70 rfl (by simp [Value.oneCell']) ?_
        refine hK.out _ _ ?_ (fun hHeld9 => ?_)
        · exact row4 ((setRow_other _ _ _ _ (by omega)).trans (keep_row X1.out.row HB2.out))
        clear hK K
        refine wpAnyH_take (i := 6) (oi := { dst := some 5, op := Go.Op.assign (Go.Operand.const (Go.Value.bool true)), type := 4, pos := _, after := #[{ on := 5, ground := Go.Ground.chain }, { on := 0, ground := Go.Ground.phase }, { on := 1, ground := Go.Ground.phase }, { on := 2, ground := Go.Ground.phase }, { on := 3, ground := Go.Ground.phase }, { on := 4, ground := Go.Ground.phase }, { on := 5, ground := Go.Ground.phase }], guard := none }) (v := ?_) rfl (by kernel_rfl) (by kernel_rfl) (by kernel_rfl) (fun _ _ _ h => h) (Or.inl ⟨by rfl, ?_⟩) (by assumption) ?_
        rotate_left
        · intro w hSw; (try dsimp only at hSw); go_simp <;> first | with_reducible rfl | (rw [if_neg (by first | omega | (simp only [ByteArray.size_append] at *; omega))])
        simp only [Act.put, List.setIfInBounds_toArray, List.set_cons_zero, List.set_cons_succ]
        refine wpAnyH_done (by kernel_rfl) ?_ _
        go_wp2_with (fail)
        (try simp only [Exit.inBlock, Exit.then])
        have hb3 : Below w.heap.size w (w2.setRow (w.heap.size + 1) (cutC p (.slice A0 p.ins.length A1) (.slice B0 p.flows.length B1) (.slice C0 p.outs.length C1) s (w1.heap.size + 1))) := below_row (X1.out.below.trans (HB2.out.mono X1.out.below.size)) (by have := X1.out.below.size; have := HB2.out.size; omega) (by omega) _
        have hA : AMr (w2.setRow (w.heap.size + 1) (cutC p (.slice A0 p.ins.length A1) (.slice B0 p.flows.length B1) (.slice C0 p.outs.length C1) s (w1.heap.size + 1))) (w1.heap.size + 1) (akAll p) := HA.out.far (fun b hb _ => setRow_other _ _ _ _ (by have := X1.out.below.size; have hl := (Array.getElem?_eq_some_iff.1 R1.out).1; omega)) (by simp [World.setRow])
        refine bodyPost_ret (RT _ _ (w.heap.size + 1) 79 (cutC p (.slice A0 p.ins.length A1) (.slice B0 p.flows.length B1) (.slice C0 p.outs.length C1) s (w1.heap.size + 1)) (0, 0) rfl (setRow_heap _ _ _ _ _ _ hrw) info70) rfl ⟨.inr ⟨_, HST.out, rfl, hA⟩, hb3⟩
  · have HE := hid hE
    have HST : Hid (stOk p s = false) := hid (by unfold stOk; simp [hE])
    have hne : (nmErr p != 0) = true := by simpa using hE
    clear hE
    generalize nmErr p = E at *
    go_wp2_with (refine wpList_store_row rfl 79 _ _ rfl (w.heap.size + 1) cut0 rfl rfl 79 _ R1.out info70 rfl (by simp [Value.oneCell']) ?_)
    refine fin0.out _ ?_ ?_ HST.out <;> rfl
end Go.Proofs.YtdenddknbmiboaaDoor.Lex
namespace Go.Proofs.YtdenddknbmiboaaDoor.Lex
open Go.ChangeShapes Go.WideShapes Go.ChangeAt Go.RowKit Go.Joins
/-- A cut in its variable. -/
def CutAt (W : World) (cb : Nat) (cs : Array Value) : Prop := W.heap[cb]? = some (.cells cs 79 (0, 0))
theorem CutAt.keep {W W' : World} {cb : Nat} {cs : Array Value} (h : CutAt W cb cs) (hb : Below W.heap.size W W') : CutAt W' cb cs := keep_row h hb
theorem CutAt.cells {W : World} {cb : Nat} {p : Pg} {A B C : Value} {s : Int} {mb : Nat} (h : CutAt W cb (cutC p A B C s mb)) : W.cell? ⟨cb, 0, none⟩ = some (.int .i64 p.st) ∧ W.cell? ⟨cb, 1, none⟩ = some A ∧ W.cell? ⟨cb, 2, none⟩ = some B ∧ W.cell? ⟨cb, 3, none⟩ = some C ∧ W.cell? ⟨cb, 4, none⟩ = some (.int .i64 s) ∧ W.cell? ⟨cb, 5, none⟩ = some (.map (some mb)) :=
  ⟨(cell_of_row _ _ _ _ 79 (0, 0) h).trans rfl, (cell_of_row _ _ _ _ 79 (0, 0) h).trans rfl, (cell_of_row _ _ _ _ 79 (0, 0) h).trans rfl, (cell_of_row _ _ _ _ 79 (0, 0) h).trans rfl, (cell_of_row _ _ _ _ 79 (0, 0) h).trans rfl, (cell_of_row _ _ _ _ 79 (0, 0) h).trans rfl⟩
/-- Some of them. -/
def anyL (P : Ak → Bool) (l : List Ak) : Bool := l.any P
def hereB (s : Int) (x : Ak) : Bool := x.st == s
def farB (s : Int) (x : Ak) : Bool := !(x.st == s)
set_option maxRecDepth 100000 in
set_option maxHeartbeats 1000000 in
theorem is_here (p : Pg) (A B C : Value) (s : Int) (mb : Nat) (x : Ak) (w : World) : Calls Tryd.prog 71 #[cutV p A B C s mb, akV x] w fun e w' => e = .returned (.bool (hereB s x)) ∧ Below w.heap.size w w' := by
  have hb : Below w.heap.size w ((w.alloc (.cells (cutC p A B C s mb) 79)).alloc (.cells #[.int .i64 (x.fl : Int), .int .i64 x.st, .int .i64 (x.ago : Int)] 148)) := ((Below.refl _ w).alloc (Nat.le_refl _) _).alloc (by simp) _
  have h0 : ((w.alloc (.cells (cutC p A B C s mb) 79)).alloc (.cells #[.int .i64 (x.fl : Int), .int .i64 x.st, .int .i64 (x.ago : Int)] 148)).heap[w.heap.size]? = some (.cells (cutC p A B C s mb) 79 (0, 0)) := push_old (heap_alloc_new _ _)
  have h1 : ((w.alloc (.cells (cutC p A B C s mb) 79)).alloc (.cells #[.int .i64 (x.fl : Int), .int .i64 x.st, .int .i64 (x.ago : Int)] 148)).heap[w.heap.size + 1]? = some (.cells #[.int .i64 (x.fl : Int), .int .i64 x.st, .int .i64 (x.ago : Int)] 148 (0, 0)) := by
    have h := heap_alloc_new (w.alloc (.cells (cutC p A B C s mb) 79)) (.cells #[.int .i64 (x.fl : Int), .int .i64 x.st, .int .i64 (x.ago : Int)] 148)
    rwa [World.size_alloc] at h
  have y := (CutAt.cells h0).2.2.2.2.1
  have z : ((w.alloc (.cells (cutC p A B C s mb) 79)).alloc (.cells #[.int .i64 (x.fl : Int), .int .i64 x.st, .int .i64 (x.ago : Int)] 148)).cell? ⟨w.heap.size + 1, 1, none⟩ = some (.int .i64 x.st) := (cell_of_row _ _ _ _ 148 (0, 0) h1).trans rfl
  have HB := hid hb
  clear h0 h1 hb
  go_enter Tryd.func71, Tryd.ntmps71
  go_wp2
  go_ret
  exact ⟨rfl, HB.out⟩
set_option maxRecDepth 100000 in
set_option maxHeartbeats 1000000 in
theorem index_here (p : Pg) (A B C : Value) (s : Int) (mb : Nat) (l : List Ak) (v : Value) (lo : Nat) (w : World) (hI : AkAt w lo v l) (hl : l.length ≤ 1000000) : Calls Tryd.prog 88 #[v, .func (.func 71) #[cutV p A B C s mb] #[]] w fun e w' => (∃ i : Int, e = .returned (.int .i64 i) ∧ (anyL (hereB s) l = true → 0 ≤ i) ∧ (anyL (hereB s) l = false → i = -1)) ∧ Below w.heap.size w w' := by
  obtain ⟨ao, cap, rfl, hc0⟩ := hI
  have HC := hid hc0

  clear hc0
  go_enter Tryd.func88, Tryd.ntmps88
  go_wp2
  go_loopw [8] (fun i wr => ∃ k : Nat, k ≤ l.length ∧ i = .int .i64 (k : Int) ∧ Hid (anyL (hereB s) (l.take k) = false) ∧ Hid (Below w.heap.size w wr)) (fun i _ => l.length - (intOf i).toNat)
  case atStart => exact ⟨0, Nat.zero_le _, rfl, hid rfl, hid (Below.refl _ _)⟩
  case round =>
    obtain ⟨k, hk, rfl, hF, HB⟩ := hrel
    by_cases hkl : k < l.length
    · have hkl' : (k : Int) < (l.length : Int) := by omega
      have hk0 : (0 : Int) ≤ (k : Int) := by omega
      obtain ⟨g, rfl, _, hcc⟩ := HC.out.resolve_left (by omega)
      obtain ⟨z0, z1, z2⟩ := hcc k hkl
      have x0 := cell_kept z0 HB.out
      have x1 := cell_kept z1 HB.out
      have x2 := cell_kept z2 HB.out
      clear hcc z0 z1 z2
      have HT : Hid (anyL (hereB s) (l.take (k + 1)) = hereB s l[k]) := hid (by have := hF.out; unfold anyL at this ⊢; rw [List.take_succ_eq_append_getElem hkl, List.any_append, this]; simp)
      have HA : Hid (hereB s l[k] = true → anyL (hereB s) l = true) := hid (fun h => List.any_eq_true.2 ⟨_, List.getElem_mem hkl, h⟩)
      generalize l[k] = y at *
      have co := is_here p A B C s mb y wr
      cases hy : hereB s y with
      | true =>
        have hY := hid (HA.out hy)
        rw [hy] at co
        clear hy
        go_wp2_with (go_at_call 71; refine co.mono ?_; rintro e w2 ⟨rfl, hb2⟩; have HB2 := hid hb2; clear hb2)
        go_ret
        exact ⟨⟨(k : Int), rfl, fun _ => by omega, fun h => by rw [hY.out] at h; cases h⟩, HB.out.trans (HB2.out.mono HB.out.size)⟩
      | false =>
        rw [hy] at co
        have hY := hid hy
        clear hy
        go_wp2_with (go_at_call 71; refine co.mono ?_; rintro e w2 ⟨rfl, hb2⟩; have HB2 := hid hb2; clear hb2)
        go_roundw
        case rel => exact ⟨k + 1, by omega, by go_num, hid (by rw [HT.out]; exact hY.out), hid (HB.out.trans (HB2.out.mono HB.out.size))⟩
        case measure => simp [intOf]; omega
    · have hkl' : ¬ (k : Int) < (l.length : Int) := by omega
      have hA : Hid (anyL (hereB s) l = false) := hid (by have := hF.out; rw [List.take_of_length_le (by omega)] at this; exact this)
      go_wp2
      go_ret
      exact ⟨⟨-1, rfl, (fun h => by rw [hA.out] at h; cases h), (fun _ => rfl)⟩, HB.out⟩
theorem contains_here (p : Pg) (A B C : Value) (s : Int) (mb : Nat) (l : List Ak) (v : Value) (lo : Nat) (w : World) (hI : AkAt w lo v l) (hl : l.length ≤ 1000000) : Calls Tryd.prog 70 #[v, .func (.func 71) #[cutV p A B C s mb] #[]] w fun e w' => e = .returned (.bool (anyL (hereB s) l)) ∧ Below w.heap.size w w' := by
  have c := index_here p A B C s mb l v lo w hI hl
  obtain ⟨ao, cap, rfl, _⟩ := hI
  cases hA : anyL (hereB s) l with
  | true =>
    have HA := hid hA
    clear hA
    go_enter Tryd.func70, Tryd.ntmps70
    go_wp2_with (go_at_call 88; refine c.mono ?_; rintro e w2 ⟨⟨i, rfl, h1, h2⟩, hb2⟩; have HB2 := hid hb2; have h3 := h1 HA.out; clear h1 h2 c hb2)
    go_ret
    exact ⟨rfl, HB2.out⟩
  | false =>
    have HA := hid hA
    clear hA
    go_enter Tryd.func70, Tryd.ntmps70
    go_wp2_with (go_at_call 88; refine c.mono ?_; rintro e w2 ⟨⟨i, rfl, h1, h2⟩, hb2⟩; have HB2 := hid hb2; have h3 := h2 HA.out; subst h3; clear h1 h2 c hb2)
    go_ret
    exact ⟨rfl, HB2.out⟩
end Go.Proofs.YtdenddknbmiboaaDoor.Lex
namespace Go.Proofs.YtdenddknbmiboaaDoor.Lex
open Go.ChangeShapes Go.WideShapes Go.ChangeAt Go.RowKit Go.Joins
theorem wp_look {P : Program} {w : World} {o : Oper} {a : Act} {K : Act → World → Prop} {Q : Exit → Act → World → Prop} (m x : Operand) (t : TypeId) (hop : o.op = Op.lookup t m x false) {M X V : Value} (hm : a.eval m = M) (hx : a.eval x = X)
    (hrun : (Instr.lookup t M X false).run P w = .ok V w) (h : K (a.put o.dst V) w) : o.wp P a w K Q := by
  unfold Oper.wp
  simp [execOp, hop, hm, hx, hrun, Result.andThen]
  exact h
set_option maxRecDepth 100000 in
set_option maxHeartbeats 2000000 in
theorem is_asked (p : Pg) (A B C : Value) (s : Int) (mb : Nat) (L : List (ByteArray × Ak)) (hL : L.length ≤ 1000000) (nm : ByteArray) (hN : NmK nm) (w : World) (hM : AMr w mb L) : Calls Tryd.prog 51 #[cutV p A B C s mb, .string nm] w fun e w' => e = .returned (.bool (anyL (hereB s) (akOf L nm))) ∧ Below w.heap.size w w' := by
  have hal := (Below.refl w.heap.size w).alloc (Nat.le_refl _) (.cells (cutC p A B C s mb) 79)
  have XC : Hid (CutAt (w.alloc (.cells (cutC p A B C s mb) 79)) w.heap.size (cutC p A B C s mb)) := hid (heap_alloc_new _ _)
  have XM := hid (hM.keep hal)
  have XB := hid hal
  have hlen := akOf_len L nm
  have hmf : ∀ (fn : Fn) (first cap : Array Value) (w : World), (Instr.makeFunc fn first cap).run Tryd.prog w = .ok (.func fn first cap) w := fun _ _ _ _ => rfl
  obtain ⟨lo, hlo⟩ : ∃ lo, lo = mb := ⟨_, rfl⟩
  clear hal hM
  go_enter Tryd.func51, Tryd.ntmps51
  go_wp2_with (fail)
  refine wp_region_held_drew (S := fun W => W.cell? ⟨w.heap.size, 0, none⟩ = some (.int .i64 p.st) ∧ W.cell? ⟨w.heap.size, 1, none⟩ = some A ∧ W.cell? ⟨w.heap.size, 2, none⟩ = some B ∧ W.cell? ⟨w.heap.size, 3, none⟩ = some C ∧ W.cell? ⟨w.heap.size, 4, none⟩ = some (.int .i64 s) ∧ W.cell? ⟨w.heap.size, 5, none⟩ = some (.map (some mb))) (by kernel_rfl) ?_ (fun hHeld => ?_)
  · exact XC.out.cells
  refine wpAnyH_take (i := 0) (oi := { dst := some 5, op := Go.Op.fieldAddr 79 (Go.Operand.tmp 2) 2, type := 0, pos := _, after := #[], guard := none }) (v := ?_) rfl (by kernel_rfl) (by kernel_rfl) (by kernel_rfl) (fun _ _ _ h => h) (Or.inl ⟨by rfl, ?_⟩) (by assumption) ?_
  rotate_left
  · intro w hSw; (try dsimp only at hSw); go_simp <;> first | with_reducible rfl | (rw [if_neg (by first | omega | (simp only [ByteArray.size_append] at *; omega))])
  simp only [Act.put, List.setIfInBounds_toArray, List.set_cons_zero, List.set_cons_succ]
  refine wpAnyH_take (i := 1) (oi := { dst := some 6, op := Go.Op.load 77 (Go.Operand.tmp 5), type := 77, pos := _, after := #[{ on := 0, ground := Go.Ground.data }], guard := none }) (v := ?_) rfl (by kernel_rfl) (by kernel_rfl) (by kernel_rfl) (fun _ _ _ h => h) (Or.inl ⟨by rfl, ?_⟩) (by assumption) ?_
  rotate_left
  · intro w hSw; (try dsimp only at hSw); go_simp <;> first | with_reducible rfl | (rw [if_neg (by first | omega | (simp only [ByteArray.size_append] at *; omega))])
  simp only [Act.put, List.setIfInBounds_toArray, List.set_cons_zero, List.set_cons_succ]
  refine wpAnyH_take (i := 2) (oi := { dst := some 7, op := Go.Op.move (Go.Operand.tmp 1), type := 9, pos := _, after := #[], guard := none }) (v := ?_) rfl (by kernel_rfl) (by kernel_rfl) (by kernel_rfl) (fun _ _ _ h => h) (Or.inl ⟨by rfl, ?_⟩) (by assumption) ?_
  rotate_left
  · intro w hSw; (try dsimp only at hSw); go_simp <;> first | with_reducible rfl | (rw [if_neg (by first | omega | (simp only [ByteArray.size_append] at *; omega))])
  simp only [Act.put, List.setIfInBounds_toArray, List.set_cons_zero, List.set_cons_succ]
  refine wpAnyH_take (i := 5) (oi := { dst := some 10, op := Go.Op.load 79 (Go.Operand.tmp 2), type := 79, pos := _, after := #[], guard := none }) (v := ?_) rfl (by kernel_rfl) (by kernel_rfl) (by kernel_rfl) (fun _ _ _ h => h) (Or.inl ⟨by rfl, ?_⟩) (by assumption) ?_
  rotate_left
  · intro w hSw; (try dsimp only at hSw); go_simp <;> first | with_reducible rfl | (rw [if_neg (by first | omega | (simp only [ByteArray.size_append] at *; omega))])
  simp only [Act.put, List.setIfInBounds_toArray, List.set_cons_zero, List.set_cons_succ]
  refine wpAnyH_take (i := 6) (oi := { dst := some 11, op := Go.Op.makeFunc (Go.Fn.func 71) #[Go.Operand.tmp 10] #[], type := 153, pos := _, after := #[{ on := 5, ground := Go.Ground.data }], guard := none }) (v := ?_) rfl (by kernel_rfl) (by kernel_rfl) (by kernel_rfl) (fun _ _ _ h => h) (Or.inl ⟨by rfl, ?_⟩) (by assumption) ?_
  rotate_left
  · intro w hSw; (try dsimp only at hSw); go_simp <;> first | with_reducible rfl | (rw [if_neg (by first | omega | (simp only [ByteArray.size_append] at *; omega))])
  simp only [Act.put, List.setIfInBounds_toArray, List.set_cons_zero, List.set_cons_succ]
  refine wpAnyH_ready (rs := [3]) (by kernel_rfl) (by simp) ?_
  refine AllReadyH.cons (o := { dst := some 8, op := Go.Op.call { callee := Go.Callee.value (Go.Operand.func 66), args := #[Go.Operand.tmp 7], argTypes := #[9] }, type := 144, pos := _, after := #[{ on := 2, ground := Go.Ground.data }], guard := none }) rfl (fun K hK => ?_) AllReadyH.nil
  go_simp
  refine (key_of nm _ hN.1).mono ?_
  rintro e w2 ⟨rfl, hb2⟩
  have hb2' := (Below.refl _ _).drew.trans hb2
  have C2 := hid (XC.out.keep hb2')
  have M2 := hid (XM.out.keep hb2')
  have B2 := hid (XB.out.trans (hb2'.mono XB.out.size))
  clear hb2 hb2'
  go_wp2_with fail
  refine hK.out _ _ ?_ (fun hHeld1 => ?_)
  · exact C2.out.cells
  clear hK K
  obtain ⟨v, hv, hlk⟩ := M2.out.look hN
  obtain ⟨va, vc, hve, hvr⟩ := hv
  subst hve
  have HVA : Hid (AkAt w2 mb (.slice va (akOf L nm).length vc) (akOf L nm)) := hid ⟨va, vc, rfl, hvr⟩
  clear hvr
  refine wpAnyH_ready (rs := [4]) (by kernel_rfl) (by simp) ?_
  refine AllReadyH.cons (o := { dst := some 9, op := Go.Op.lookup 77 (Go.Operand.tmp 6) (Go.Operand.tmp 8) false, type := 146, pos := _, after := #[{ on := 1, ground := Go.Ground.data }, { on := 3, ground := Go.Ground.data }], guard := none }) rfl (fun K hK => ?_) AllReadyH.nil
  refine if_take (by rfl) ?_
  refine wp_look (.tmp 6) (.tmp 8) 77 rfl rfl rfl (hlk _ rfl) ?_
  refine hK.out _ _ ?_ (fun hHeldL4 => ?_)
  · exact C2.out.cells
  clear hK K
  clear hlk
  refine wpAnyH_ready (rs := [7]) (by kernel_rfl) (by simp) ?_
  refine AllReadyH.cons (o := { dst := some 12, op := Go.Op.call { callee := Go.Callee.value (Go.Operand.func 70), args := #[Go.Operand.tmp 9, Go.Operand.tmp 11], argTypes := #[146, 153] }, type := 4, pos := _, after := #[{ on := 4, ground := Go.Ground.data }, { on := 6, ground := Go.Ground.data }, { on := 3, ground := Go.Ground.chain }], guard := none }) rfl (fun K hK => ?_) AllReadyH.nil
  go_simp
  refine (contains_here p A B C s mb _ _ mb _ HVA.out (by omega)).mono ?_
  rintro e w3 ⟨rfl, hb3⟩
  have C3 := hid (C2.out.keep hb3)
  have B3 := hid (B2.out.trans (hb3.mono B2.out.size))
  clear hb3
  go_wp2_with fail
  refine hK.out _ _ ?_ (fun hHeld1 => ?_)
  · exact C3.out.cells
  clear hK K
  refine wpAnyH_take (i := 8) (oi := { dst := some 4, op := Go.Op.assign (Go.Operand.tmp 12), type := 4, pos := _, after := #[{ on := 7, ground := Go.Ground.data }, { on := 7, ground := Go.Ground.chain }, { on := 0, ground := Go.Ground.phase }, { on := 1, ground := Go.Ground.phase }, { on := 2, ground := Go.Ground.phase }, { on := 3, ground := Go.Ground.phase }, { on := 4, ground := Go.Ground.phase }, { on := 5, ground := Go.Ground.phase }, { on := 6, ground := Go.Ground.phase }, { on := 7, ground := Go.Ground.phase }], guard := none }) (v := ?_) rfl (by kernel_rfl) (by kernel_rfl) (by kernel_rfl) (fun _ _ _ h => h) (Or.inl ⟨by rfl, ?_⟩) (by assumption) ?_
  rotate_left
  · intro w hSw; (try dsimp only at hSw); go_simp <;> first | with_reducible rfl | (rw [if_neg (by first | omega | (simp only [ByteArray.size_append] at *; omega))])
  simp only [Act.put, List.setIfInBounds_toArray, List.set_cons_zero, List.set_cons_succ]
  refine wpAnyH_done (by kernel_rfl) ?_ _
  go_wp2
  go_ret
  exact ⟨rfl, B3.out⟩
end Go.Proofs.YtdenddknbmiboaaDoor.Lex
namespace Go.Proofs.YtdenddknbmiboaaDoor.Lex
open Go.ChangeShapes Go.WideShapes Go.ChangeAt Go.RowKit Go.Joins
abbrev txC (l : List ByteArray) : List Value := l.map Value.string
def inN (s : Int) (l : List Hd) : List ByteArray := (l.filter fun x => x.st == s).map (·.name)
def flN (s : Int) (l : List Fl) : List ByteArray := (l.filter fun x => x.st == s).map (·.name)
/-- The names that a station has, as they are declared. -/
def declL (p : Pg) (s : Int) : List ByteArray := inN s p.ins ++ flN s p.flows
theorem inN_succ (s : Int) (l : List Hd) {k : Nat} (h : k < l.length) : inN s (l.take (k + 1)) = inN s (l.take k) ++ (if l[k].st == s then [l[k].name] else []) := by
  unfold inN
  rw [List.take_succ_eq_append_getElem h, List.filter_append, List.map_append, List.filter_cons]
  split <;> rfl
theorem flN_succ (s : Int) (l : List Fl) {k : Nat} (h : k < l.length) : flN s (l.take (k + 1)) = flN s (l.take k) ++ (if l[k].st == s then [l[k].name] else []) := by
  unfold flN
  rw [List.take_succ_eq_append_getElem h, List.filter_append, List.map_append, List.filter_cons]
  split <;> rfl
theorem inN_len (s : Int) (l : List Hd) : (inN s l).length ≤ l.length := by unfold inN; rw [List.length_map]; exact List.length_filter_le _ _
theorem flN_len (s : Int) (l : List Fl) : (flN s l).length ≤ l.length := by unfold flN; rw [List.length_map]; exact List.length_filter_le _ _
/-- Between two names. -/
structure DI (w : World) (p : Pg) (A B C v : Value) (l : List ByteArray) (W : World) : Prop where
  box : W.heap[w.heap.size]? = some (.cells (pgC p A B C) 46 (0, 0))
  row : W.ownsRow (w.heap.size + 1) 9 1 v l.length (txC l)
  below : Below w.heap.size w W
theorem DI.keep {w W W' : World} {p : Pg} {A B C v : Value} {l : List ByteArray} (h : DI w p A B C v l W) (hb : Below W.heap.size W W') : DI w p A B C v l W' := ⟨keep_row h.box hb, own_same h.row (fun b e => hb.block b (h.row.lt b e).2), h.below.trans (hb.mono h.below.size)⟩
theorem DI.size {w W : World} {p : Pg} {A B C v : Value} {l : List ByteArray} (h : DI w p A B C v l W) : w.heap.size + 1 ≤ W.heap.size := (Array.getElem?_eq_some_iff.1 h.box).1
theorem DI.app {w W W' : World} {p : Pg} {A B C v v' : Value} {l : List ByteArray} {x : ByteArray} (h : DI w p A B C v l W) (hg : W.grownBy W' v.ownBlock) (ho : W'.ownsRow (w.heap.size + 1) 9 1 v' (l.length + 1) (txC l ++ [.string x])) : DI w p A B C v' (l ++ [x]) W' := by
  refine ⟨(hg.block _ (Array.getElem?_eq_some_iff.1 h.box).1 (fun e => ?_)).trans h.box, ?_, h.below.grown hg h.below.size (fun b e => by have := (h.row.lt b e).1; omega)⟩
  · have := (h.row.lt _ e.symm).1; omega
  · simpa [txC] using ho
theorem infoS : (Tryd.prog.info? 9).map (fun i => (i.zero, i.size, i.bytes)) = some (some (.string ByteArray.empty), 1, 16) := by kernel_rfl
set_option maxRecDepth 100000 in
set_option maxHeartbeats 4000000 in
theorem declared (p : Pg) (s : Int) (w : World) (A B C : Value) (hP : PgAt w p A B C) (hi1 : p.ins.length ≤ 1000000) (hf1 : p.flows.length ≤ 1000000) : Calls Tryd.prog 29 #[pgV p A B C, .int .i64 s] w fun e w' => ∃ v, e = .returned v ∧ w'.ownsRow (w.heap.size + 1) 9 1 v (declL p s).length (txC (declL p s)) ∧ Below w.heap.size w w' := by
  obtain ⟨A0, A1, rfl, _, _, _, hic⟩ := hP.ins
  obtain ⟨B0, B1, sl, rfl, _, _, _, hfc, hsx⟩ := hP.flows
  obtain ⟨C0, C1, rfl, _⟩ := hP.outs
  have HIC := hid hic
  have HFC := hid hfc
  have HSX := hid hsx
  obtain ⟨i0, hi, hz0, hz1, hz2⟩ := info_parts infoS
  have D0 : Hid (DI w p (.slice A0 p.ins.length A1) (.slice B0 p.flows.length B1) (.slice C0 p.outs.length C1) (.slice none 0 0) [] (w.alloc (.cells (pgC p (.slice A0 p.ins.length A1) (.slice B0 p.flows.length B1) (.slice C0 p.outs.length C1)) 46))) := hid ⟨heap_alloc_new w _, ⟨rfl, .inl ⟨rfl, rfl⟩⟩, (Below.refl _ w).alloc (Nat.le_refl _) _⟩
  clear hP hic hfc hsx
  go_enter Tryd.func29, Tryd.ntmps29
  obtain ⟨r0, r1, r2, r3⟩ := row4 D0.out.box
  go_wp2_with (fail)
  clear r0 r1 r2 r3
  generalize (w.alloc (.cells (pgC p (.slice A0 p.ins.length A1) (.slice B0 p.flows.length B1) (.slice C0 p.outs.length C1)) 46)) = W0 at *
  go_loopw [5, 13] (fun v i wr => ∃ k : Nat, k ≤ p.ins.length ∧ i = .int .i64 (k : Int) ∧ Hid (DI w p (.slice A0 p.ins.length A1) (.slice B0 p.flows.length B1) (.slice C0 p.outs.length C1) v (inN s (p.ins.take k)) wr)) (fun _ i _ => p.ins.length - (intOf i).toNat)
  case atStart => exact ⟨0, Nat.zero_le _, rfl, D0⟩
  case round =>
    obtain ⟨k, hk, rfl, HD⟩ := hrel
    by_cases hlt : k < p.ins.length
    · have hlt' : (k : Int) < (p.ins.length : Int) := by omega
      have hk0 : (0 : Int) ≤ (k : Int) := by omega
      obtain ⟨fb, fo, rfl, hcc⟩ := HIC.out.resolve_left (by omega)
      obtain ⟨v0, v1, v2⟩ := (hcc k hlt).keep HD.out.below
      have HL : Hid (inN s (p.ins.take (k + 1)) = inN s (p.ins.take k) ++ (if p.ins[k].st == s then [p.ins[k].name] else [])) := hid (inN_succ s _ hlt)
      have hle := inN_len s (p.ins.take k)
      rw [List.length_take] at hle
      clear hcc
      generalize p.ins[k] = y at *
      have hal := (Below.refl wr.heap.size wr).alloc (Nat.le_refl _) (.cells #[.string y.name, .int .u8 (y.ty : Int), .int .i64 y.st] 73)
      have HD2 := hid (HD.out.keep hal)
      have hr : (wr.alloc (.cells #[.string y.name, .int .u8 (y.ty : Int), .int .i64 y.st] 73)).heap[wr.heap.size]? = some (.cells #[.string y.name, .int .u8 (y.ty : Int), .int .i64 y.st] 73 (0, 0)) := heap_alloc_new wr _
      have g0 : (wr.alloc (.cells #[.string y.name, .int .u8 (y.ty : Int), .int .i64 y.st] 73)).cell? ⟨wr.heap.size, 0, none⟩ = some (.string y.name) := (cell_of_row _ _ _ _ 73 (0, 0) hr).trans rfl
      have g2 : (wr.alloc (.cells #[.string y.name, .int .u8 (y.ty : Int), .int .i64 y.st] 73)).cell? ⟨wr.heap.size, 2, none⟩ = some (.int .i64 y.st) := (cell_of_row _ _ _ _ 73 (0, 0) hr).trans rfl
      clear hal hr
      generalize inN s (p.ins.take k) = l at *
      by_cases hst : y.st = s
      · have hst' : (y.st == s) = true := by simpa using hst
        have HL2 : Hid (inN s (p.ins.take (k + 1)) = l ++ [y.name]) := hid (by rw [HL.out, hst']; rfl)
        have hsz := HD2.out.size
        have HD3 := hid (HD2.out.keep ((Below.refl _ _).alloc (Nat.le_refl _) (.cells #[.string y.name] 9)))
        have HN3 := hid (next_cells (wr.alloc (.cells #[.string y.name, .int .u8 (y.ty : Int), .int .i64 y.st] 73)) [.string y.name] 9)
        have HS3 := hid HD3.out.size
        clear hst
        go_wp2_with (at_builtin
                     refine wpList_append_own_at _ rfl _ _ 44 rfl (w.heap.size + 1) 9 i0 (.string ByteArray.empty) 1 16 Tryd.underlying44 hi hz0 hz1 hz2 rfl (by decide) _ _ _ rfl HD3.out.row ⟨wr.heap.size + 1, 0, none⟩ 1 1 [.string y.name] rfl rfl ?hnews (by simp [Value.oneCell']) (by unfold maxLen; omega) (by omega) HS3.out ?_
                     case hnews => simpa using HN3.out
                     intro v' w4 hown' hgrow _ _
                     have HD4 := hid (HD3.out.app hgrow hown')
                     clear hown' hgrow)
        go_roundw
        case rel => exact ⟨k + 1, by omega, by go_num, hid (by rw [HL2.out]; exact HD4.out)⟩
        case measure => simp [intOf]; omega
      · have hst' : (y.st == s) = false := by simpa using hst
        have HL2 : Hid (inN s (p.ins.take (k + 1)) = l) := hid (by rw [HL.out, hst']; simp)
        clear hst
        go_wp2
        go_roundw
        case rel => exact ⟨k + 1, by omega, by go_num, hid (by rw [HL2.out]; exact HD2.out)⟩
        case measure => simp [intOf]; omega
    · have hlt' : ¬ (k : Int) < (p.ins.length : Int) := by omega
      have HE : Hid (inN s (p.ins.take k) = inN s p.ins) := hid (by rw [List.take_of_length_le (by omega)])
      have D1 := HD.out
      rw [HE.out] at D1
      have E0 := hid D1
      obtain ⟨s0, s1, s2, s3⟩ := row4 D1.box
      clear D1 HD HE HIC
      go_wp2_with (fail)
      clear s0 s1 s2 s3 hlt hlt'
      obtain ⟨wo, hwo⟩ : ∃ wo, wo = wr := ⟨_, rfl⟩
      subst wr
      have HL0 := hid (inN_len s p.ins)
      obtain ⟨l0, hx0⟩ : ∃ l0, l0 = inN s p.ins := ⟨_, rfl⟩
      rw [← hx0] at HL0 E0
      have HX0 := hid hx0
      clear hx0
      go_loopw [5, 30] (fun v i wr => ∃ k : Nat, k ≤ p.flows.length ∧ i = .int .i64 (k : Int) ∧ Hid (DI w p (.slice A0 p.ins.length A1) (.slice B0 p.flows.length B1) (.slice C0 p.outs.length C1) v (l0 ++ flN s (p.flows.take k)) wr)) (fun _ i _ => p.flows.length - (intOf i).toNat)
      case atStart => exact ⟨0, Nat.zero_le _, rfl, hid (by simpa [flN] using E0.out)⟩
      case round =>
        obtain ⟨k, hk, rfl, HD⟩ := hrel
        by_cases hlt : k < p.flows.length
        · have hlt' : (k : Int) < (p.flows.length : Int) := by omega
          have hk0 : (0 : Int) ≤ (k : Int) := by omega
          obtain ⟨fb, fo, rfl, hcc⟩ := HFC.out.resolve_left (by omega)
          obtain ⟨v0, v1, v2, v3, v4, v5, v6, v7⟩ := (hcc k hlt).keep HD.out.below
          have HL : Hid (flN s (p.flows.take (k + 1)) = flN s (p.flows.take k) ++ (if p.flows[k].st == s then [p.flows[k].name] else [])) := hid (flN_succ s _ hlt)
          have hle := flN_len s (p.flows.take k)
          rw [List.length_take] at hle
          clear hcc
          obtain ⟨fa, fc, _, fe, _⟩ := (HSX.out k hlt).out
          rw [fe] at v7
          clear fe
          generalize p.flows[k] = y at *
          have hal := (Below.refl wr.heap.size wr).alloc (Nat.le_refl _) (.cells #[.string y.name, .int .u8 (y.ty : Int), .int .i64 y.st, .int .i64 y.df, .int .u8 (y.body.op : Int), .int .i64 y.body.n, .string y.body.name, .slice fa y.body.args.length fc] 76)
          have HD2 := hid (HD.out.keep hal)
          have hr : (wr.alloc (.cells #[.string y.name, .int .u8 (y.ty : Int), .int .i64 y.st, .int .i64 y.df, .int .u8 (y.body.op : Int), .int .i64 y.body.n, .string y.body.name, .slice fa y.body.args.length fc] 76)).heap[wr.heap.size]? = some (.cells #[.string y.name, .int .u8 (y.ty : Int), .int .i64 y.st, .int .i64 y.df, .int .u8 (y.body.op : Int), .int .i64 y.body.n, .string y.body.name, .slice fa y.body.args.length fc] 76 (0, 0)) := heap_alloc_new wr _
          have g0 : (wr.alloc (.cells #[.string y.name, .int .u8 (y.ty : Int), .int .i64 y.st, .int .i64 y.df, .int .u8 (y.body.op : Int), .int .i64 y.body.n, .string y.body.name, .slice fa y.body.args.length fc] 76)).cell? ⟨wr.heap.size, 0, none⟩ = some (.string y.name) := (cell_of_row _ _ _ _ 76 (0, 0) hr).trans rfl
          have g2 : (wr.alloc (.cells #[.string y.name, .int .u8 (y.ty : Int), .int .i64 y.st, .int .i64 y.df, .int .u8 (y.body.op : Int), .int .i64 y.body.n, .string y.body.name, .slice fa y.body.args.length fc] 76)).cell? ⟨wr.heap.size, 2, none⟩ = some (.int .i64 y.st) := (cell_of_row _ _ _ _ 76 (0, 0) hr).trans rfl
          clear hal hr
          have hle0 := HL0.out
          have HL3 : Hid (l0 ++ flN s (p.flows.take (k + 1)) = (l0 ++ flN s (p.flows.take k)) ++ (if y.st == s then [y.name] else [])) := hid (by rw [HL.out, List.append_assoc])
          have hll : (l0 ++ flN s (p.flows.take k)).length ≤ 2000000 := by rw [List.length_append]; omega
          clear hle hle0 HL
          generalize l0 ++ flN s (p.flows.take k) = l at *
          by_cases hst : y.st = s
          · have hst' : (y.st == s) = true := by simpa using hst
            have HL2 : Hid (l0 ++ flN s (p.flows.take (k + 1)) = l ++ [y.name]) := hid (by rw [HL3.out, hst']; rfl)
            have hsz := HD2.out.size
            have HD3 := hid (HD2.out.keep ((Below.refl _ _).alloc (Nat.le_refl _) (.cells #[.string y.name] 9)))
            have HN3 := hid (next_cells (wr.alloc (.cells #[.string y.name, .int .u8 (y.ty : Int), .int .i64 y.st, .int .i64 y.df, .int .u8 (y.body.op : Int), .int .i64 y.body.n, .string y.body.name, .slice fa y.body.args.length fc] 76)) [.string y.name] 9)
            have HS3 := hid HD3.out.size
            clear hst
            go_wp2_with (at_builtin
                         refine wpList_append_own_at _ rfl _ _ 44 rfl (w.heap.size + 1) 9 i0 (.string ByteArray.empty) 1 16 Tryd.underlying44 hi hz0 hz1 hz2 rfl (by decide) _ _ _ rfl HD3.out.row ⟨wr.heap.size + 1, 0, none⟩ 1 1 [.string y.name] rfl rfl ?hnews (by simp [Value.oneCell']) (by unfold maxLen; omega) (by omega) HS3.out ?_
                         case hnews => simpa using HN3.out
                         intro v' w4 hown' hgrow _ _
                         have HD4 := hid (HD3.out.app hgrow hown')
                         clear hown' hgrow)
            go_roundw
            case rel => exact ⟨k + 1, by omega, by go_num, hid (by rw [HL2.out]; exact HD4.out)⟩
            case measure => simp [intOf]; omega
          · have hst' : (y.st == s) = false := by simpa using hst
            have HL2 : Hid (l0 ++ flN s (p.flows.take (k + 1)) = l) := hid (by rw [HL3.out, hst']; simp)
            clear hst
            go_wp2
            go_roundw
            case rel => exact ⟨k + 1, by omega, by go_num, hid (by rw [HL2.out]; exact HD2.out)⟩
            case measure => simp [intOf]; omega
        · have hlt' : ¬ (k : Int) < (p.flows.length : Int) := by omega
          have HE : Hid (l0 ++ flN s (p.flows.take k) = declL p s) := hid (by rw [List.take_of_length_le (by omega), HX0.out]; rfl)
          have D1 := HD.out
          rw [HE.out] at D1
          have E1 := hid D1
          clear D1 HD HE
          go_wp2
          go_ret
          exact ⟨_, rfl, E1.out.row, E1.out.below⟩
end Go.Proofs.YtdenddknbmiboaaDoor.Lex
namespace Go.Proofs.YtdenddknbmiboaaDoor.Lex
open Go.ChangeShapes Go.WideShapes Go.ChangeAt Go.RowKit Go.Joins
set_option maxRecDepth 100000 in
set_option maxHeartbeats 2000000 in
theorem grow_ (n : Nat) (hn : n ≤ 10000000) (w : World) : Calls Tryd.prog 49 #[.slice none 0 0, .int .i64 (n : Int)] w fun e w' => ∃ v, e = .returned v ∧ w'.ownsRow w.heap.size 9 1 v 0 [] ∧ Below w.heap.size w w' := by
  have h1 : decide ((n : Int) < 0) = false := by simp
  by_cases h0 : n = 0
  · subst h0
    go_enter Tryd.func49, Tryd.ntmps49
    go_wp2
    go_ret
    exact ⟨_, rfl, ⟨rfl, .inl ⟨rfl, rfl⟩⟩, Below.refl _ _⟩
  · obtain ⟨i0, hi, hz0, hz1, hz2⟩ := info_parts infoS
    have hold : (Builtin.firstCells i0.size 0 (.slice none 0 0)).run Tryd.prog w.drew = .ok ([] : List Value).toArray w.drew := run_firstCells_none w.drew i0.size 0 0 0
    have hfit : Builtin.nextslicecap (0 + n) 0 * i0.bytes ≤ 281474976710656 := growslice_fits (by omega) (by rw [hz2]; omega)
    have hr : ∀ ty, (Builtin.append_ #[44, 3] ty #[.slice none 0 0, .int .i64 (n : Int)]).run Tryd.prog w = .ok (.slice (some ⟨w.heap.size, 0, none⟩) n (grownCap w n 0 9)) (w.drew.alloc (.cells ((([] : List Value).toArray ++ Builtin.zeroCells (Value.string ByteArray.empty).cells n) ++ Builtin.zeroCells (Value.string ByteArray.empty).cells (grownCap w n 0 9 - n)) 9)) := fun ty => by
      have h := Lib.run_append_grow_zeros w 44 3 ty 9 i0 (.string ByteArray.empty) .i64 .i64 Tryd.underlying44 Tryd.underlying3 hi hz0 none 0 0 [] hold n (by omega) (by omega) (by omega) (by omega) (by rw [hz2]; omega) hfit
      simpa using h
    have hge : n ≤ grownCap w n 0 9 := grownCap_ge w _ _ _
    have hgm : grownCap w n 0 9 ≤ maxLen := grownCap_le_maxLen w n 0 9 (by unfold maxLen; omega)
    obtain ⟨G, hG⟩ : ∃ G, G = grownCap w n 0 9 := ⟨_, rfl⟩
    rw [← hG] at hr hge hgm
    have hcz : ∀ k, (Builtin.zeroCells (Value.string ByteArray.empty).cells k).size = k := fun k => by simp [Builtin.zeroCells, Value.cells]
    obtain ⟨cs, hcs⟩ : ∃ cs, cs = ((([] : List Value).toArray ++ Builtin.zeroCells (Value.string ByteArray.empty).cells n) ++ Builtin.zeroCells (Value.string ByteArray.empty).cells (G - n)) := ⟨_, rfl⟩
    have hsz : cs.size = G := by rw [hcs, Array.size_append, Array.size_append, hcz, hcz]; simp; omega
    rw [← hcs] at hr
    have HSZ := hid hsz
    have HGM := hid hgm
    have hG63 : G ≤ 9223372036854775807 := by unfold maxLen at hgm; omega
    have hz : ((n : Int) == 0) = false := by simp; omega
    have h4 : (0 : Int) < (n : Int) := by omega
    clear hcs hold hfit hG hsz hcz hgm h0
    go_enter Tryd.func49, Tryd.ntmps49
    go_wp2_with (at_builtin; refine Lib.wpList_append_run _ rfl _ _ _ _ rfl _ _ rfl rfl _ _ (hr _) ?_)
    go_ret
    refine ⟨_, rfl, ⟨rfl, .inr ⟨w.heap.size, G, cs, rfl, Nat.le_refl _, ?_, Nat.zero_le _, HGM.out, by rw [HSZ.out, Nat.mul_one], rfl⟩⟩, ?_⟩
    · exact heap_alloc_new w.drew _
    · exact (Below.refl w.heap.size w).drew.alloc (Nat.le_refl _) _
/-- A row of names that is read. -/
def TxR (W : World) (v : Value) (l : List ByteArray) : Prop := (v = .slice none 0 0 ∧ l = []) ∨ ∃ g c, v = .slice (some ⟨g, 0, none⟩) l.length c ∧ ∀ i u, (txC l)[i]? = some u → W.cell? ⟨g, i, none⟩ = some u
theorem TxR.keep {W W' : World} {v : Value} {l : List ByteArray} (h : TxR W v l) (hb : Below W.heap.size W W') : TxR W' v l := by
  rcases h with h | ⟨g, c, h1, h2⟩
  · exact .inl h
  · exact .inr ⟨g, c, h1, fun i u hu => cell_kept (h2 i u hu) hb⟩
/-- A row of names of one's own. -/
def RowN (W : World) (B : Nat) (v : Value) (l : List ByteArray) : Prop := W.ownsRow B 9 1 v l.length (txC l)
theorem TxR.of_own {W : World} {B : Nat} {v : Value} {l : List ByteArray} (h : RowN W B v l) : TxR W v l := by
  unfold RowN at h
  rcases h.2 with ⟨rfl, h0⟩ | ⟨g, cap, cur, rfl, _⟩
  · exact .inl ⟨rfl, List.eq_nil_of_length_eq_zero h0⟩
  · refine .inr ⟨g, cap, rfl, fun i u hu => ?_⟩
    have hi : i < l.length := by have := (List.getElem?_eq_some_iff.1 hu).1; simpa [txC] using this
    rw [h.cellAt _ (by omega)]
    exact hu
/-- Rows of names in a row. -/
def LLs (W : World) (v : Value) (L : List (List ByteArray)) : Prop := ∃ ao cap, v = .slice ao L.length cap ∧ (L.length = 0 ∨ ∃ g o, ao = some ⟨g, o, none⟩ ∧ ∀ i (h : i < L.length), ∃ u, W.cell? ⟨g, o + i, none⟩ = some u ∧ TxR W u L[i])
theorem LLs.keep {W W' : World} {v : Value} {L : List (List ByteArray)} (h : LLs W v L) (hb : Below W.heap.size W W') : LLs W' v L := by
  obtain ⟨ao, cap, rfl, h⟩ := h
  refine ⟨ao, cap, rfl, h.imp id ?_⟩
  rintro ⟨g, o, e, h⟩
  exact ⟨g, o, e, fun i hi => by obtain ⟨u, h1, h2⟩ := h i hi; exact ⟨u, cell_kept h1 hb, h2.keep hb⟩⟩
/-- A row of names being made. -/
structure CcI (w : World) (v : Value) (l : List ByteArray) (W : World) : Prop where
  row : W.ownsRow w.heap.size 9 1 v l.length (txC l)
  below : Below w.heap.size w W
theorem CcI.grown {w W W' : World} {v v' : Value} {l m : List ByteArray} (h : CcI w v l W) (hg : W.grownBy W' v.ownBlock) (ho : W'.ownsRow w.heap.size 9 1 v' (l.length + m.length) (txC l ++ txC m)) : CcI w v' (l ++ m) W' :=
  ⟨by have e : (l ++ m).length = l.length + m.length := List.length_append; rw [e, show txC (l ++ m) = txC l ++ txC m from List.map_append]; exact ho, h.below.grown hg h.below.size (fun b e => (h.row.lt b e).1)⟩
theorem flat_succ (L : List (List ByteArray)) {k : Nat} (h : k < L.length) : (L.take (k + 1)).flatten = (L.take k).flatten ++ L[k] := by
  rw [List.take_succ_eq_append_getElem h, List.flatten_append]; simp
theorem flat_le (L : List (List ByteArray)) (k : Nat) : (L.take k).flatten.length ≤ L.flatten.length := by
  conv => rhs; rw [← List.take_append_drop k L, List.flatten_append, List.length_append]
  omega
/-- How many names they have. -/
def totL (L : List (List ByteArray)) : Nat := L.flatten.length
set_option maxRecDepth 100000 in
set_option maxHeartbeats 4000000 in
theorem concat_ (L : List (List ByteArray)) (v : Value) (w : World) (h : LLs w v L) (hl : L.flatten.length ≤ 10000000) (hn : L.length ≤ 1000000) : Calls Tryd.prog 28 #[v] w fun e w' => ∃ r, e = .returned r ∧ RowN w' w.heap.size r L.flatten ∧ Below w.heap.size w w' := by
  obtain ⟨ao, cap, rfl, hc⟩ := h
  have HC := hid hc
  obtain ⟨i0, hi, hz0, hz1, hz2⟩ := info_parts infoS
  clear hc
  go_enter Tryd.func28, Tryd.ntmps28
  go_wp2_with (fail)
  go_loopw [3, 11] (fun n i wr => ∃ k : Nat, k ≤ L.length ∧ n = .int .i64 (totL (L.take k) : Int) ∧ i = .int .i64 (k : Int) ∧ wr = w) (fun _ i _ => L.length - (intOf i).toNat)
  case atStart => exact ⟨0, Nat.zero_le _, rfl, rfl, rfl⟩
  case round =>
    obtain ⟨k, hk, rfl, rfl, rfl⟩ := hrel
    by_cases hlt : k < L.length
    · have hlt' : (k : Int) < (L.length : Int) := by omega
      have hk0 : (0 : Int) ≤ (k : Int) := by omega
      obtain ⟨g, o, rfl, hcc⟩ := HC.out.resolve_left (by omega)
      obtain ⟨u, hu, hr⟩ := hcc k hlt
      have HF : Hid (totL (L.take (k + 1)) = totL (L.take k) + L[k].length) := hid (by unfold totL; rw [flat_succ L hlt, List.length_append])
      have hle : totL (L.take k) + L[k].length ≤ 10000000 := by have := flat_le L (k + 1); have h2 := HF.out; unfold totL at h2 ⊢; omega
      obtain ⟨ua, uc, rfl⟩ : ∃ ua uc, u = .slice ua L[k].length uc := by
        rcases hr with ⟨h1, h2⟩ | ⟨g', c', h1, _⟩
        · exact ⟨none, 0, by rw [h1, h2]; rfl⟩
        · exact ⟨_, _, h1⟩
      clear hcc hr
      generalize L[k].length = m at *
      generalize totL (L.take k) = n at *
      have hneg : decide ((n : Int) + (m : Int) < 0) = false := by simp; omega
      go_wp2
      go_roundw
      case rel => exact ⟨k + 1, by omega, by rw [HF.out]; go_num, by go_num, trivial⟩
      case measure => simp [intOf]; omega
    · have hlt' : ¬ (k : Int) < (L.length : Int) := by omega
      have HE : Hid (totL (L.take k) ≤ 10000000) := hid (by rw [List.take_of_length_le (by omega)]; exact hl)
      have cg := grow_ (totL (L.take k)) HE.out wr
      generalize totL (L.take k) = tt at *
      clear HE
      go_wp2_with (fail)
      refine cg.mono ?_
      rintro e w2 ⟨v2, rfl, hrow, hb2⟩
      have I0 : Hid (CcI wr v2 [] w2) := hid ⟨hrow, hb2⟩
      clear hrow hb2 cg hlt hlt'
      obtain ⟨w0, hw0⟩ : ∃ w0, w0 = wr := ⟨_, rfl⟩
      subst wr
      go_wp2_with (fail)
      go_loopw [6, 27] (fun x i wr => ∃ k : Nat, k ≤ L.length ∧ i = .int .i64 (k : Int) ∧ Hid (CcI w0 x (L.take k).flatten wr)) (fun _ i _ => L.length - (intOf i).toNat)
      case atStart => exact ⟨0, Nat.zero_le _, rfl, I0⟩
      case round =>
        obtain ⟨k, hk, rfl, HI⟩ := hrel
        by_cases hlt : k < L.length
        · have hlt' : (k : Int) < (L.length : Int) := by omega
          have hk0 : (0 : Int) ≤ (k : Int) := by omega
          obtain ⟨g, o, rfl, hcc⟩ := HC.out.resolve_left (by omega)
          obtain ⟨u, hu0, hr⟩ := hcc k hlt
          have hu := cell_kept hu0 HI.out.below
          have HF := hid (flat_succ L hlt)
          have hle : (L.take k).flatten.length + L[k].length ≤ 10000000 := by have := flat_le L (k + 1); rw [HF.out, List.length_append] at this; omega
          have hsz := HI.out.below.size
          have HRR := hid (hr.keep HI.out.below)
          clear hcc hu0 hr
          generalize L[k] = m at *
          generalize (L.take k).flatten = l at *
          rcases HRR.out with ⟨rfl, rfl⟩ | ⟨g', c', rfl, hcl⟩
          · have HF2 : Hid ((L.take (k + 1)).flatten = l) := hid (by rw [HF.out, List.append_nil])
            go_wp2_with (at_builtin
                         refine wpList_append_own_none rfl _ _ 44 rfl w0.heap.size 9 i0 1 Tryd.underlying44 hi _ _ _ rfl HI.out.row rfl ?_)
            go_roundw
            case rel => exact ⟨k + 1, by omega, by go_num, hid (by rw [HF2.out]; exact HI.out)⟩
            case measure => simp [intOf]; omega
          · have HCL := hid hcl
            clear hcl
            go_wp2_with (at_builtin
                         refine wpList_append_own_at _ rfl _ _ 44 rfl w0.heap.size 9 i0 (.string ByteArray.empty) 1 16 Tryd.underlying44 hi hz0 hz1 hz2 rfl (by decide) _ _ _ rfl HI.out.row ⟨g', 0, none⟩ m.length c' (txC m) rfl (by simp [txC]) ?hnews ?hone (by unfold maxLen; omega) (by omega) hsz ?_
                         case hnews => exact fun j u hj => by rw [addN]; exact HCL.out j u hj
                         case hone => exact fun u hu => by obtain ⟨b, _, rfl⟩ := List.mem_map.1 hu; rfl
                         intro v' w4 hown' hgrow _ _
                         have HI4 := hid (HI.out.grown hgrow hown')
                         clear hown' hgrow)
            go_roundw
            case rel => exact ⟨k + 1, by omega, by go_num, hid (by rw [HF.out]; exact HI4.out)⟩
            case measure => simp [intOf]; omega
        · have hlt' : ¬ (k : Int) < (L.length : Int) := by omega
          have HE : Hid ((L.take k).flatten = L.flatten) := hid (by rw [List.take_of_length_le (by omega)])
          have D1 := HI.out
          rw [HE.out] at D1
          have E1 := hid D1
          clear D1 HI HE
          go_wp2
          go_ret
          exact ⟨_, rfl, E1.out.row, E1.out.below⟩
end Go.Proofs.YtdenddknbmiboaaDoor.Lex
namespace Go.Proofs.YtdenddknbmiboaaDoor.Lex
open Go.ChangeShapes Go.WideShapes Go.ChangeAt Go.RowKit Go.Joins
theorem clone_ (s : ByteArray) (w : World) (h : s.size ≤ 1000000) : Calls Tryd.prog 53 #[.string s] w fun e w' => e = .returned (.string s) ∧ Below w.heap.size w w' := by
  have c := Tryd.stringslite_Clone s w (by omega)
  go_enter Tryd.func53, Tryd.ntmps53
  go_wp2_with (go_at_call 72; refine c.mono ?_; rintro e w2 ⟨rfl, hb2⟩; have HB := hid hb2; clear hb2)
  go_ret
  exact ⟨rfl, HB.out⟩
/-- Those that are wanted. -/
def sentF (s : Int) (M : List (ByteArray × Ak)) (l : List ByteArray) : List ByteArray := l.filter fun nm => anyL (farB s) (akOf M nm)
theorem sentF_succ (s : Int) (M : List (ByteArray × Ak)) (l : List ByteArray) {k : Nat} (h : k < l.length) : sentF s M (l.take (k + 1)) = sentF s M (l.take k) ++ (if anyL (farB s) (akOf M l[k]) then [l[k]] else []) := by
  unfold sentF
  rw [List.take_succ_eq_append_getElem h, List.filter_append, List.filter_cons]
  split <;> rfl
theorem sentF_len (s : Int) (M : List (ByteArray × Ak)) (l : List ByteArray) : (sentF s M l).length ≤ l.length := List.length_filter_le _ _
/-- Those that are wanted. -/
def askedF (s : Int) (M : List (ByteArray × Ak)) (l : List ByteArray) : List ByteArray := l.filter fun nm => anyL (hereB s) (akOf M nm)
theorem askedF_succ (s : Int) (M : List (ByteArray × Ak)) (l : List ByteArray) {k : Nat} (h : k < l.length) : askedF s M (l.take (k + 1)) = askedF s M (l.take k) ++ (if anyL (hereB s) (akOf M l[k]) then [l[k]] else []) := by
  unfold askedF
  rw [List.take_succ_eq_append_getElem h, List.filter_append, List.filter_cons]
  split <;> rfl
theorem askedF_len (s : Int) (M : List (ByteArray × Ak)) (l : List ByteArray) : (askedF s M l).length ≤ l.length := List.length_filter_le _ _
set_option maxRecDepth 100000 in
set_option maxHeartbeats 2000000 in
theorem gathered_asked (p : Pg) (A B C : Value) (s : Int) (mb : Nat) (M : List (ByteArray × Ak)) (hM : M.length ≤ 1000000) (L : List (List ByteArray)) (v : Value) (w : World) (h : LLs w v L) (hl : L.flatten.length ≤ 1000000) (hn : L.length ≤ 1000000) (hN : ∀ nm ∈ L.flatten, NmK nm) (hA : AMr w mb M) :
    Calls Tryd.prog 50 #[.func (.func 51) #[cutV p A B C s mb] #[], v] w fun e w' => ∃ r, e = .returned r ∧ RowN w' w.heap.size r (askedF s M L.flatten) ∧ Below w.heap.size w w' := by
  have cc := concat_ L v w h (by omega) hn
  obtain ⟨ao, cap, rfl, _⟩ := h
  obtain ⟨i0, hi, hz0, hz1, hz2⟩ := info_parts infoS
  have HN := hid hN
  have HA := hid hA
  clear hN hA
  generalize L.flatten = F at *
  go_enter Tryd.func50, Tryd.ntmps50
  go_wp2_with (fail)
  refine cc.mono ?_
  rintro e w1 ⟨r, rfl, hrow, hb1⟩
  have HR := hid (TxR.of_own hrow)
  have HB1 := hid hb1
  have HA1 := hid (HA.out.keep hb1)
  obtain ⟨ra, rc, rfl⟩ : ∃ ra rc, r = .slice ra F.length rc := by
    rcases HR.out with ⟨h1, h2⟩ | ⟨g', c', h1, _⟩
    · exact ⟨none, 0, by rw [h1, h2]; rfl⟩
    · exact ⟨_, _, h1⟩
  clear hrow hb1 cc
  go_wp2_with (fail)
  go_loopw [5, 11] (fun x i wr => ∃ k : Nat, k ≤ F.length ∧ i = .int .i64 (k : Int) ∧ Hid (CcI w1 x (askedF s M (F.take k)) wr)) (fun _ i _ => F.length - (intOf i).toNat)
  case atStart => exact ⟨0, Nat.zero_le _, rfl, hid ⟨⟨rfl, .inl ⟨rfl, rfl⟩⟩, Below.refl _ _⟩⟩
  case round =>
    obtain ⟨k, hk, rfl, HI⟩ := hrel
    by_cases hlt : k < F.length
    · have hlt' : (k : Int) < (F.length : Int) := by omega
      have hk0 : (0 : Int) ≤ (k : Int) := by omega
      obtain ⟨g, rfl, hcl⟩ : ∃ g, ra = some ⟨g, 0, none⟩ ∧ ∀ i u, (txC F)[i]? = some u → w1.cell? ⟨g, i, none⟩ = some u := by
        rcases HR.out with ⟨_, h2⟩ | ⟨g', c', h1, h2⟩
        · rw [h2] at hlt; cases hlt
        · injection h1 with h1 _ _
          exact ⟨g', h1, h2⟩
      have hx := cell_kept (hcl k (.string F[k]) (by simp [txC, hlt])) HI.out.below
      have HNM := hid (HN.out _ (List.getElem_mem hlt))
      have HF := hid (askedF_succ s M F hlt)
      have hle := askedF_len s M (F.take k)
      rw [List.length_take] at hle
      clear hcl
      generalize F[k] = y at *
      have co := is_asked p A B C s mb M hM y HNM.out wr (HA1.out.keep HI.out.below)
      generalize askedF s M (F.take k) = l at *
      cases hy : anyL (hereB s) (akOf M y) with
      | true =>
        have HF2 : Hid (askedF s M (F.take (k + 1)) = l ++ [y]) := hid (by rw [HF.out, hy]; rfl)
        rw [hy] at co
        clear hy HF
        go_wp2_with (fail)
        refine co.mono ?_
        rintro e w2 ⟨rfl, hb2⟩
        have I2 : Hid (CcI w1 _ l w2) := hid ⟨own_same HI.out.row (fun b e => hb2.block b (HI.out.row.lt b e).2), HI.out.below.trans (hb2.mono HI.out.below.size)⟩
        clear hb2 co
        go_wp2_with (fail)
        refine (clone_ y _ (by have := HNM.out.1; omega)).mono ?_
        rintro e w3 ⟨rfl, hb3⟩
        have hal := (Below.refl w3.heap.size w3).alloc (Nat.le_refl _) (.cells #[.string y] 9)
        have hb4 := hb3.trans (hal.mono hb3.size)
        have I3 : Hid (CcI w1 _ l (w3.alloc (.cells #[.string y] 9))) := hid ⟨own_same I2.out.row (fun b e => hb4.block b (I2.out.row.lt b e).2), I2.out.below.trans (hb4.mono I2.out.below.size)⟩
        have HNX := hid (next_cells w3 [.string y] 9)
        have hsz := I3.out.below.size
        clear hb3 hal hb4
        go_wp2_with (at_builtin
                     refine wpList_append_own_at _ rfl _ _ 44 rfl w1.heap.size 9 i0 (.string ByteArray.empty) 1 16 Tryd.underlying44 hi hz0 hz1 hz2 rfl (by decide) _ _ _ rfl I3.out.row ⟨w3.heap.size, 0, none⟩ 1 1 [.string y] rfl rfl HNX.out (by simp [Value.oneCell']) (by unfold maxLen; omega) (by omega) hsz ?_
                     intro v' w4 hown' hgrow _ _
                     have HI4 := hid (I3.out.grown (m := [y]) hgrow hown')
                     clear hown' hgrow)
        go_roundw
        case rel => exact ⟨k + 1, by omega, by go_num, hid (by rw [HF2.out]; exact HI4.out)⟩
        case measure => simp [intOf]; omega
      | false =>
        have HF2 : Hid (askedF s M (F.take (k + 1)) = l) := hid (by rw [HF.out, hy]; simp)
        rw [hy] at co
        clear hy HF
        go_wp2_with (fail)
        refine co.mono ?_
        rintro e w2 ⟨rfl, hb2⟩
        have I2 : Hid (CcI w1 _ l w2) := hid ⟨own_same HI.out.row (fun b e => hb2.block b (HI.out.row.lt b e).2), HI.out.below.trans (hb2.mono HI.out.below.size)⟩
        clear hb2 co
        go_wp2
        go_roundw
        case rel => exact ⟨k + 1, by omega, by go_num, hid (by rw [HF2.out]; exact I2.out)⟩
        case measure => simp [intOf]; omega
    · have hlt' : ¬ (k : Int) < (F.length : Int) := by omega
      have HE : Hid (askedF s M (F.take k) = askedF s M F) := hid (by rw [List.take_of_length_le (by omega)])
      have D1 := HI.out
      rw [HE.out] at D1
      have E1 := hid D1
      clear D1 HI HE
      go_wp2
      go_ret
      exact ⟨_, rfl, ownsRow_mono E1.out.row HB1.out.size, HB1.out.trans (E1.out.below.mono HB1.out.size)⟩
end Go.Proofs.YtdenddknbmiboaaDoor.Lex
namespace Go.Proofs.YtdenddknbmiboaaDoor.Lex
open Go.ChangeShapes Go.WideShapes Go.ChangeAt Go.RowKit Go.Joins
/-- The names that other stations have, station by station. -/
def othL (p : Pg) (s : Int) (k : Nat) : List (List ByteArray) := ((List.range k).filter fun i : Nat => !(((i : Int) + 1) == s)).map fun i : Nat => declL p ((i : Int) + 1)
theorem othL_succ (p : Pg) (s : Int) (k : Nat) : othL p s (k + 1) = othL p s k ++ (if ((k : Int) + 1) == s then [] else [declL p ((k : Int) + 1)]) := by
  unfold othL
  rw [List.range_succ, List.filter_append, List.map_append, List.filter_cons]
  cases (((k : Int) + 1) == s) <;> rfl
/-- What a station needs of others. -/
def needL (p : Pg) (s : Int) : List ByteArray := askedF s (akAll p) (othL p s p.st.toNat).flatten
theorem declL_mem {p : Pg} {s : Int} {nm : ByteArray} : nm ∈ declL p s ↔ ∃ x ∈ thingsL p, x.2.name = nm ∧ x.2.st = s := by
  unfold declL inN flN thingsL insL flowsL
  simp only [List.mem_append, List.mem_map, List.mem_filter, beq_iff_eq, List.mem_range]
  constructor
  · rintro (⟨x, ⟨h1, h2⟩, rfl⟩ | ⟨x, ⟨h1, h2⟩, rfl⟩)
    · exact ⟨(-1, x), .inl ⟨x, h1, rfl⟩, rfl, h2⟩
    · obtain ⟨i, hi, rfl⟩ := List.getElem_of_mem h1
      refine ⟨((i : Int), p.flows[i].hd), .inr ⟨i, hi, by rw [List.getElem?_eq_getElem hi]; rfl⟩, rfl, h2⟩
  · rintro ⟨x, (⟨y, h1, rfl⟩ | ⟨i, hi, rfl⟩), h2, h3⟩
    · exact .inl ⟨y, ⟨h1, h3⟩, h2⟩
    · rw [List.getElem?_eq_getElem hi] at h2 h3
      exact .inr ⟨p.flows[i], ⟨List.getElem_mem hi, h3⟩, h2⟩
theorem decl_len (p : Pg) (s : Int) : (declL p s).length ≤ p.ins.length + p.flows.length := by
  unfold declL
  rw [List.length_append]
  have := inN_len s p.ins
  have := flN_len s p.flows
  omega
theorem oth_len (p : Pg) (s : Int) : ∀ k, (othL p s k).length ≤ k ∧ (othL p s k).flatten.length ≤ k * (p.ins.length + p.flows.length)
  | 0 => ⟨Nat.le_refl _, Nat.zero_le _⟩
  | k + 1 => by
    obtain ⟨h1, h2⟩ := oth_len p s k
    have h3 := decl_len p ((k : Int) + 1)
    rw [othL_succ, Nat.add_mul]
    cases (((k : Int) + 1) == s)
    · rw [if_neg (by simp), List.flatten_append, List.length_append, List.length_append]
      refine ⟨by simp; omega, ?_⟩
      have : [declL p ((k : Int) + 1)].flatten.length = (declL p ((k : Int) + 1)).length := by simp
      omega
    · rw [if_pos rfl, List.append_nil]
      omega
theorem oth_mem {p : Pg} {s : Int} {k : Nat} {nm : ByteArray} : nm ∈ (othL p s k).flatten ↔ ∃ i : Nat, i < k ∧ ((i : Int) + 1) ≠ s ∧ nm ∈ declL p ((i : Int) + 1) := by
  unfold othL
  simp only [List.mem_flatten, List.mem_map, List.mem_filter, List.mem_range]
  constructor
  · rintro ⟨l, ⟨i, ⟨h1, h2⟩, rfl⟩, h3⟩
    exact ⟨i, h1, by simpa using h2, h3⟩
  · rintro ⟨i, h1, h2, h3⟩
    exact ⟨_, ⟨i, ⟨h1, by simpa using h2⟩, rfl⟩, h3⟩
/-- Between two stations. -/
structure NdI (w : World) (cs : Array Value) (v : Value) (q : List (Value × List ByteArray)) (W : World) : Prop where
  cut : CutAt W w.heap.size cs
  row : W.ownsRow (w.heap.size + 1) 44 1 v q.length (q.map (·.1))
  el : ∀ x ∈ q, RowN W (w.heap.size + 1) x.1 x.2
  below : Below w.heap.size w W
theorem NdI.keep {w W W' : World} {cs : Array Value} {v : Value} {q : List (Value × List ByteArray)} (h : NdI w cs v q W) (hb : Below W.heap.size W W') : NdI w cs v q W' :=
  ⟨h.cut.keep hb, own_same h.row (fun b e => hb.block b (h.row.lt b e).2), fun x hx => own_same (h.el x hx) (fun b e => hb.block b (World.ownsRow.lt (h.el x hx) b e).2), h.below.trans (hb.mono h.below.size)⟩
theorem NdI.size {w W : World} {cs : Array Value} {v : Value} {q : List (Value × List ByteArray)} (h : NdI w cs v q W) : w.heap.size + 1 ≤ W.heap.size := (Array.getElem?_eq_some_iff.1 h.cut).1
theorem own_kind {W : World} {B B' T T' n m k l : Nat} {u v : Value} {xs ys : List Value} {g : Nat} (h : W.ownsRow B T k u n xs) (h' : W.ownsRow B' T' l v m ys) (hT : T ≠ T') (e : u.ownBlock = some g) (e' : v.ownBlock = some g) : False := by
  rcases h.2 with ⟨rfl, _⟩ | ⟨g1, c1, cur1, rfl, _, h1, _⟩
  · cases e
  · rcases h'.2 with ⟨rfl, _⟩ | ⟨g2, c2, cur2, rfl, _, h2, _⟩
    · cases e'
    · have e1 : g1 = g := Option.some.inj e
      have e2 : g2 = g := Option.some.inj e'
      subst e1 e2
      rw [h1] at h2
      injection h2 with h2
      injection h2 with _ h2
      exact hT h2
theorem NdI.app {w W W' : World} {cs : Array Value} {v v' u : Value} {l : List ByteArray} {q : List (Value × List ByteArray)} (h : NdI w cs v q W) (hu : RowN W (w.heap.size + 1) u l) (hg : W.grownBy W' v.ownBlock) (ho : W'.ownsRow (w.heap.size + 1) 44 1 v' (q.length + 1) (q.map (·.1) ++ [u])) : NdI w cs v' (q ++ [(u, l)]) W' := by
  have key : ∀ x y, RowN W (w.heap.size + 1) x y → RowN W' (w.heap.size + 1) x y := fun x y hx => own_same hx (fun b e => hg.block b (World.ownsRow.lt hx b e).2 (fun e2 => own_kind hx h.row (by decide) e e2.symm))
  refine ⟨(hg.block _ (Array.getElem?_eq_some_iff.1 h.cut).1 (fun e => ?_)).trans h.cut, ?_, fun x hx => ?_, h.below.grown hg h.below.size (fun b e => by have := (h.row.lt b e).1; omega)⟩
  · have := (h.row.lt _ e.symm).1; omega
  · simpa using ho
  · rcases List.mem_append.1 hx with hx | hx
    · exact key _ _ (h.el x hx)
    · rw [List.mem_singleton.1 hx]
      exact key _ _ hu
theorem NdI.read {w W : World} {cs : Array Value} {v : Value} {q : List (Value × List ByteArray)} (h : NdI w cs v q W) : LLs W v (q.map (·.2)) := by
  rcases h.row.2 with ⟨rfl, h0⟩ | ⟨g, cap, cur, rfl, _⟩
  · exact ⟨none, 0, by rw [List.length_map, h0], .inl (by rw [List.length_map]; exact h0)⟩
  · refine ⟨_, cap, by rw [List.length_map], .inr ⟨g, 0, rfl, fun i hi => ?_⟩⟩
    have hi' : i < q.length := by simpa using hi
    refine ⟨q[i].1, ?_, ?_⟩
    · rw [Nat.zero_add, h.row.cellAt _ (by omega)]
      simp [hi']
    · rw [List.getElem_map]
      exact TxR.of_own (h.el _ (List.getElem_mem hi'))
theorem infoSl : (Tryd.prog.info? 44).map (fun i => (i.zero, i.size, i.bytes)) = some (some (.slice none 0 0), 1, 24) := by kernel_rfl
set_option maxRecDepth 100000 in
set_option maxHeartbeats 4000000 in
theorem needs_ (p : Pg) (s : Int) (mb : Nat) (w : World) (A B C : Value) (hP : PgAt w p A B C) (hE : nmErr p = 0) (hA : AMr w mb (akAll p)) : Calls Tryd.prog 30 #[cutV p A B C s mb] w fun e w' => ∃ r, e = .returned r ∧ RowN w' w.heap.size r (needL p s) ∧ Below w.heap.size w w' := by
  have HP := hid hP
  have HA := hid hA
  have HE := hid hE
  obtain ⟨A0, A1, rfl, _⟩ := hP.ins
  obtain ⟨B0, B1, _, rfl, _⟩ := hP.flows
  obtain ⟨C0, C1, rfl, _⟩ := hP.outs
  obtain ⟨i0, hi, hz0, hz1, hz2⟩ := info_parts infoSl
  obtain ⟨n, hn, hn8⟩ : ∃ n : Nat, p.st = (n : Int) ∧ n ≤ 8 := by
    have h := (nmErr_zero hE).1
    unfold pgOk inR at h
    simp only [Bool.and_eq_true, decide_eq_true_eq] at h
    exact ⟨p.st.toNat, by omega, by omega⟩
  have hfew := pgOk_few hE
  have HNN := hid hn
  have HNL : Hid (needL p s = askedF s (akAll p) (othL p s n).flatten) := hid (by unfold needL; rw [hn]; rfl)
  have HOL := hid (oth_len p s)
  have HDN : Hid (∀ nm ∈ (othL p s n).flatten, NmK nm) := hid (fun nm h => by
    obtain ⟨i, _, _, h3⟩ := oth_mem.1 h
    obtain ⟨x, hx, e, _⟩ := declL_mem.1 h3
    rw [← e]
    exact thing_nmk (nmErr_zero hE).1 hx)
  have HML : Hid ((akAll p).length ≤ 1000000) := hid (by have := akN_len (nm_chk hE) p.flows.length (Nat.le_refl _); unfold akAll; omega)
  clear hn
  have D0 : Hid (NdI w (cutC p (.slice A0 p.ins.length A1) (.slice B0 p.flows.length B1) (.slice C0 p.outs.length C1) s mb) (.slice none 0 0) [] (w.alloc (.cells (cutC p (.slice A0 p.ins.length A1) (.slice B0 p.flows.length B1) (.slice C0 p.outs.length C1) s mb) 79))) := hid ⟨heap_alloc_new _ _, ⟨rfl, .inl ⟨rfl, rfl⟩⟩, fun _ h => (by cases h), (Below.refl _ w).alloc (Nat.le_refl _) _⟩
  have hmf : ∀ (fn : Fn) (first cap : Array Value) (w : World), (Instr.makeFunc fn first cap).run Tryd.prog w = .ok (.func fn first cap) w := fun _ _ _ _ => rfl
  clear hP hA hE
  go_enter Tryd.func30, Tryd.ntmps30
  go_wp2_with (fail)
  generalize (w.alloc (.cells (cutC p (.slice A0 p.ins.length A1) (.slice B0 p.flows.length B1) (.slice C0 p.outs.length C1) s mb) 79)) = W0 at *
  go_loopw [3, 4] (fun v i wr => ∃ (k : Nat) (q : List (Value × List ByteArray)), k ≤ n ∧ i = .int .i64 ((k : Int) + 1) ∧ Hid (NdI w (cutC p (.slice A0 p.ins.length A1) (.slice B0 p.flows.length B1) (.slice C0 p.outs.length C1) s mb) v q wr) ∧ Hid (q.map (·.2) = othL p s k)) (fun _ i _ => n + 1 - (intOf i).toNat)
  case atStart => exact ⟨0, [], Nat.zero_le _, rfl, D0, hid rfl⟩
  case round =>
    obtain ⟨k, q, hk, rfl, HD, HQ⟩ := hrel
    obtain ⟨r0, r1, r2, r3, r4, r5⟩ := HD.out.cut.cells
    by_cases hlt : k < n
    · have hlt' : decide ((k : Int) + 1 ≤ p.st) = true := by have := HNN.out; simp; omega
      have HOS := hid (othL_succ p s k)
      by_cases hks : (k : Int) + 1 = s
      · have hks' : (((k : Int) + 1) != s) = false := by simpa using hks
        have HQ2 : Hid (q.map (·.2) = othL p s (k + 1)) := hid (by rw [HOS.out, HQ.out, if_pos (by simpa using hks), List.append_nil])
        clear hks
        go_wp2_with (fail)
        go_roundw
        case rel => exact ⟨k + 1, q, by omega, by go_num, HD, HQ2⟩
        case measure => simp [intOf]; omega
      · have hks' : (((k : Int) + 1) != s) = true := by simpa using hks
        have HQ2 : Hid (q.map (·.2) ++ [declL p ((k : Int) + 1)] = othL p s (k + 1)) := hid (by rw [HOS.out, HQ.out, if_neg (by simpa using hks)])
        have hql : q.length ≤ 8 := by have h1 := (HOL.out k).1; rw [← HQ.out, List.length_map] at h1; omega
        clear hks
        go_wp2_with (fail)
        refine (declared p ((k : Int) + 1) _ _ _ _ (HP.out.keep HD.out.below) (by omega) (by omega)).mono ?_
        rintro e w2 ⟨u, rfl, hrow, hb2⟩
        obtain ⟨ua, uc, hue⟩ : ∃ ua uc, u = .slice ua (declL p ((k : Int) + 1)).length uc := by
          rcases hrow.2 with ⟨h1, h2⟩ | ⟨g, c, cur, h1, _⟩
          · exact ⟨none, 0, by rw [h1, h2]⟩
          · exact ⟨_, _, h1⟩
        subst hue
        have D2 := hid (HD.out.keep hb2)
        have hsz := HD.out.size
        have hru : RowN w2 (w.heap.size + 1) (.slice ua (declL p ((k : Int) + 1)).length uc) (declL p ((k : Int) + 1)) := ownsRow_mono hrow (by omega)
        have hal := (Below.refl w2.heap.size w2).alloc (Nat.le_refl _) (.cells #[.slice ua (declL p ((k : Int) + 1)).length uc] 44)
        have D3 := hid (D2.out.keep hal)
        have RU : Hid (RowN (w2.alloc (.cells #[.slice ua (declL p ((k : Int) + 1)).length uc] 44)) (w.heap.size + 1) (.slice ua (declL p ((k : Int) + 1)).length uc) (declL p ((k : Int) + 1))) := hid (own_same hru (fun b e => hal.block b (World.ownsRow.lt hru b e).2))
        have HNX := hid (next_cells w2 [.slice ua (declL p ((k : Int) + 1)).length uc] 44)
        have hs3 := D3.out.size
        clear hrow hb2 hru hal
        go_wp2_with (at_builtin
                     refine wpList_append_own_at _ rfl _ _ 113 rfl (w.heap.size + 1) 44 i0 (.slice none 0 0) 1 24 Tryd.underlying113 hi hz0 hz1 hz2 rfl (by decide) _ _ _ rfl D3.out.row ⟨w2.heap.size, 0, none⟩ 1 1 [.slice ua (declL p ((k : Int) + 1)).length uc] rfl rfl HNX.out (by simp [Value.oneCell']) (by unfold maxLen; omega) (by omega) hs3 ?_
                     intro v' w4 hown' hgrow _ _
                     have D4 := hid (D3.out.app RU.out hgrow hown')
                     clear hown' hgrow)
        go_roundw
        case rel => exact ⟨k + 1, _, by omega, by go_num, D4, hid (by rw [← HQ2.out, List.map_append]; rfl)⟩
        case measure => simp [intOf]; omega
    · have hlt' : decide ((k : Int) + 1 ≤ p.st) = false := by have := HNN.out; simp; omega
      obtain rfl : k = n := by omega
      have hL := HD.out.read
      rw [HQ.out] at hL
      have cg := gathered_asked p (.slice A0 p.ins.length A1) (.slice B0 p.flows.length B1) (.slice C0 p.outs.length C1) s mb (akAll p) HML.out (othL p s k) _ wr hL (by have h := (HOL.out k).2; have := Nat.mul_le_mul hk hfew.2; have h2 : k * (p.ins.length + p.flows.length) ≤ 8 * (p.ins.length + p.flows.length) := Nat.mul_le_mul_right _ hn8; omega) (by have h := (HOL.out k).1; omega) HDN.out (HA.out.keep HD.out.below)
      rw [← HNL.out] at cg
      have HB := hid HD.out.below
      clear hL
      go_wp2_with (fail)
      refine cg.mono ?_
      rintro e w2 ⟨r, rfl, hrow, hb2⟩
      have hsz := HB.out.size
      have HR := hid (show RowN w2 w.heap.size r (needL p s) from ownsRow_mono hrow hsz)
      have HB2 := hid (HB.out.trans (hb2.mono hsz))
      clear hrow hb2 cg
      go_wp2
      go_ret
      exact ⟨_, rfl, HR.out, HB2.out⟩
end Go.Proofs.YtdenddknbmiboaaDoor.Lex
namespace Go.Proofs.YtdenddknbmiboaaDoor.Lex
/-- One turn through the wishes: none, if one is too late. -/
def turn : List Wi → List Int → Bool → Option (List Int × Bool)
  | [], l, s => some (l, s)
  | x :: xs, l, s => if 0 ≤ ageV l x then turn xs l s else if outB (lateAt l x.flow - ageV l x) then none else turn xs (l.set x.flow (lateAt l x.flow - ageV l x)) false
/-- So many turns. -/
def leaF (L : List Wi) : Nat → List Int → Option (List Int)
  | 0, _ => none
  | k + 1, l => match turn L l true with | none => none | some (l', s) => if s then some l' else leaF L k l'
theorem turn_append : ∀ (a b : List Wi) (l : List Int) (s : Bool), turn (a ++ b) l s = match turn a l s with | none => none | some (l', s') => turn b l' s'
  | [], b, l, s => rfl
  | x :: a, b, l, s => by
    show (if 0 ≤ ageV l x then turn (a ++ b) l s else if outB (lateAt l x.flow - ageV l x) then none else turn (a ++ b) (l.set x.flow (lateAt l x.flow - ageV l x)) false) = _
    rw [turn_append a b l s, turn_append a b _ false]
    simp only [turn]
    split
    · rfl
    · split
      · rfl
      · rfl
theorem turn_snoc_keep {pre : List Wi} {x : Wi} {l l' : List Int} {s s' : Bool} (h : turn pre l s = some (l', s')) (ha : 0 ≤ ageV l' x) : turn (pre ++ [x]) l s = some (l', s') := by
  rw [turn_append, h]; simp [turn, ha]
theorem turn_snoc_out {pre : List Wi} {x : Wi} {l l' : List Int} {s s' : Bool} (h : turn pre l s = some (l', s')) (ha : ¬ 0 ≤ ageV l' x) (ho : outB (lateAt l' x.flow - ageV l' x) = true) : turn (pre ++ [x]) l s = none := by
  rw [turn_append, h]; simp [turn, ha, ho]
theorem turn_snoc_more {pre : List Wi} {x : Wi} {l l' : List Int} {s s' : Bool} (h : turn pre l s = some (l', s')) (ha : ¬ 0 ≤ ageV l' x) (ho : outB (lateAt l' x.flow - ageV l' x) = false) : turn (pre ++ [x]) l s = some (l'.set x.flow (lateAt l' x.flow - ageV l' x), false) := by
  rw [turn_append, h]; simp [turn, ha, ho]
theorem turn_prefix_none {pre L : List Wi} {l : List Int} {s : Bool} (h : turn pre l s = none) (hp : pre <+: L) : turn L l s = none := by
  obtain ⟨t, rfl⟩ := hp
  rw [turn_append, h]
/-- Each is a lateness. -/
def Fine (l : List Int) : Prop := ∀ a ∈ l, 0 ≤ a ∧ a ≤ 1000
theorem Fine.mild {l : List Int} (h : Fine l) : Mild l := fun a ha => by have := h a ha; omega
theorem Fine.at {l : List Int} (h : Fine l) (i : Int) : 0 ≤ lateAt l i ∧ lateAt l i ≤ 1000 := by
  unfold lateAt
  cases e : l[i.toNat]? with
  | none => show (0 : Int) ≤ 0 ∧ (0 : Int) ≤ 1000; omega
  | some a => exact h a (List.mem_of_getElem? e)
theorem Fine.set {l : List Int} (h : Fine l) (i : Nat) {z : Int} (hz : outB z = false) : Fine (l.set i z) := by
  intro a ha
  rcases List.mem_or_eq_of_mem_set ha with ha | rfl
  · exact h a ha
  · unfold outB at hz
    simp at hz
    omega
theorem Fine.zeros (n : Nat) : Fine (List.replicate n 0) := fun a ha => by rw [List.eq_of_mem_replicate ha]; omega
theorem Fine.out {l : List Int} (h : Fine l) : anyOut l = false := by
  unfold anyOut
  rw [List.any_eq_false]
  intro a ha
  have := h a ha
  unfold outB
  simp
  omega
theorem Fine.age {l : List Int} (h : Fine l) {x : Wi} {n : Nat} (hx : WiOk n x) : -2000 ≤ ageV l x ∧ ageV l x ≤ 2000 := by
  have h1 := h.at x.flow
  have h2 := h.at x.of
  have h3 := hx.ago
  have h4 := hx.way
  unfold ageV
  split <;> omega
theorem lateAt_nat (l : List Int) (i : Nat) (h : i < l.length) : lateAt l (i : Int) = l[i] := by unfold lateAt; simp [h]
end Go.Proofs.YtdenddknbmiboaaDoor.Lex
namespace Go.Proofs.YtdenddknbmiboaaDoor.Lex
theorem lateAt_set (l : List Int) (i : Nat) (z : Int) (j : Int) (hi : i < l.length) : lateAt (l.set i z) j = if j.toNat = i then z else lateAt l j := by
  unfold lateAt
  by_cases e : j.toNat = i
  · rw [if_pos e, e]; simp [hi]
  · rw [if_neg e, List.getElem?_set_ne (fun h => e h.symm)]
/-- Each is 0, or as late as one that it asks for wants. -/
def Tight (L : List Wi) (l : List Int) : Prop := ∀ i : Nat, i < l.length → lateAt l i = 0 ∨ ∃ x ∈ L, x.flow = i ∧ x.of ≠ i ∧ ageV l x ≤ 0
/-- None is less than in any other one. -/
def Leq (l m : List Int) : Prop := ∀ i : Nat, lateAt l i ≤ lateAt m i
/-- Wishes of so many flows, none of which is far from itself. -/
structure Sane (n : Nat) (L : List Wi) : Prop where
  ok : ∀ x ∈ L, WiOk n x
  self : ∀ x ∈ L, x.of = x.flow → x.way = 0
theorem age_set {n : Nat} {l : List Int} {x y : Wi} (hl : l.length = n) (hx : WiOk n x) (_hy : WiOk n y) (z : Int) (hz : lateAt l x.flow ≤ z) (hyf : y.flow ≠ x.flow) : ageV (l.set x.flow z) y ≤ ageV l y := by
  have hxl : x.flow < l.length := by rw [hl]; exact hx.flow
  unfold ageV
  rw [lateAt_set l _ z _ hxl, lateAt_set l _ z _ hxl, if_neg (by simpa using hyf)]
  split
  · split
    · rename_i h1 h2
      have : lateAt l y.of = lateAt l x.flow := by unfold lateAt; rw [h2]; simp
      omega
    · omega
  · omega
theorem age_own {n : Nat} {l : List Int} {x : Wi} (hl : l.length = n) (hx : WiOk n x) (hs : x.of = x.flow → x.way = 0) (ha : ageV l x < 0) : x.of ≠ x.flow ∧ ageV (l.set x.flow (lateAt l x.flow - ageV l x)) x = 0 := by
  have hxl : x.flow < l.length := by rw [hl]; exact hx.flow
  have hne : x.of ≠ x.flow := fun e => by
    have hw := hs e
    unfold ageV at ha
    rw [e, if_pos (by omega), hw] at ha
    omega
  refine ⟨hne, ?_⟩
  generalize hA : ageV l x = A at *
  unfold ageV at hA ⊢
  rw [lateAt_set l _ _ _ hxl, lateAt_set l _ _ _ hxl, if_pos (by simp)]
  split
  · rename_i h
    rw [if_pos h] at hA
    rw [if_neg (by have := hx.of; omega)]
    omega
  · rename_i h
    rw [if_neg h] at hA
    omega
theorem Tight.put {n : Nat} {L : List Wi} {l : List Int} {x : Wi} (hS : Sane n L) (hl : l.length = n) (hx : x ∈ L) (ha : ageV l x < 0) (h : Tight L l) : Tight L (l.set x.flow (lateAt l x.flow - ageV l x)) := by
  intro i hi
  rw [List.length_set] at hi
  have hxo := hS.ok x hx
  have hxl : x.flow < l.length := by rw [hl]; exact hxo.flow
  obtain ⟨hne, h0⟩ := age_own hl hxo (hS.self x hx) ha
  by_cases e : i = x.flow
  · refine .inr ⟨x, hx, e.symm, by rw [e]; exact hne, by omega⟩
  · rcases h i hi with h1 | ⟨y, hy, h1, h2, h3⟩
    · left; rw [lateAt_set l _ _ _ hxl, if_neg (by simpa using e)]; exact h1
    · refine .inr ⟨y, hy, h1, h2, ?_⟩
      have := age_set hl hxo (hS.ok y hy) (lateAt l x.flow - ageV l x) (by omega) (by omega)
      omega
/-- Flows may be so late, by these wishes. -/
def Sol (L : List Wi) (m : List Int) : Prop := (∀ a ∈ m, 0 ≤ a) ∧ ∀ x ∈ L, 0 ≤ ageV m x
theorem Leq.put {n : Nat} {L : List Wi} {l m : List Int} {x : Wi} (hS : Sane n L) (hl : l.length = n) (hx : x ∈ L) (_ha : ageV l x < 0) (hm : Sol L m) (h : Leq l m) : Leq (l.set x.flow (lateAt l x.flow - ageV l x)) m := by
  have hxo := hS.ok x hx
  have hxl : x.flow < l.length := by rw [hl]; exact hxo.flow
  intro i
  rw [lateAt_set l _ _ _ hxl]
  split
  · rename_i e
    have e : i = x.flow := by simpa using e
    have hmx := hm.2 x hx
    have h1 : ∀ j : Int, 0 ≤ j → lateAt l j ≤ lateAt m j := fun j hj => by have := h j.toNat; rwa [Int.toNat_of_nonneg hj] at this
    rw [e]
    unfold ageV at hmx ⊢
    split at hmx
    · rename_i h2
      have := h1 x.of h2
      rw [if_pos h2]
      omega
    · rename_i h2
      rw [if_neg h2]
      omega
  · exact h i
theorem turn_inv {n : Nat} {L0 : List Wi} (hS : Sane n L0) : ∀ (L : List Wi) (l l' : List Int) (s s' : Bool), (∀ x ∈ L, x ∈ L0) → turn L l s = some (l', s') → l.length = n → Tight L0 l →
    Tight L0 l' ∧ l'.length = n ∧ (s' = true → s = true ∧ l' = l ∧ ∀ x ∈ L, 0 ≤ ageV l x) ∧ ∀ m, Sol L0 m → Leq l m → Leq l' m
  | [], l, l', s, s', _, h, hl, ht => by
    simp only [turn, Option.some.injEq, Prod.mk.injEq] at h
    obtain ⟨rfl, rfl⟩ := h
    exact ⟨ht, hl, fun h => ⟨h, rfl, fun x hx => by cases hx⟩, fun m _ h => h⟩
  | x :: L, l, l', s, s', hin, h, hl, ht => by
    have hin' : ∀ y ∈ L, y ∈ L0 := fun y hy => hin y (List.mem_cons_of_mem _ hy)
    have hx := hin x (List.mem_cons_self ..)
    unfold turn at h
    split at h
    · rename_i ha
      obtain ⟨h1, h2, h3, h4⟩ := turn_inv hS L l l' s s' hin' h hl ht
      refine ⟨h1, h2, fun hs => ?_, h4⟩
      obtain ⟨q1, q2, q3⟩ := h3 hs
      refine ⟨q1, q2, fun y hy => ?_⟩
      rcases List.mem_cons.1 hy with rfl | hy
      · exact ha
      · exact q3 y hy
    · rename_i ha
      split at h
      · cases h
      · obtain ⟨h1, h2, h3, h4⟩ := turn_inv hS L _ l' false s' hin' h (by rw [List.length_set]; exact hl) (ht.put hS hl hx (by omega))
        exact ⟨h1, h2, fun hs => absurd (h3 hs).1 (by simp), fun m hm hle => h4 m hm (hle.put hS hl hx (by omega) hm)⟩
/-- What so many turns tell. -/
theorem leaF_inv {n : Nat} {L : List Wi} (hS : Sane n L) : ∀ (k : Nat) (l r : List Int), leaF L k l = some r → l.length = n → Tight L l → Tight L r ∧ r.length = n ∧ (∀ x ∈ L, 0 ≤ ageV r x) ∧ ∀ m, Sol L m → Leq l m → Leq r m
  | 0, l, r, h, _, _ => by cases h
  | k + 1, l, r, h, hl, ht => by
    unfold leaF at h
    split at h
    · cases h
    · rename_i l' s' e
      obtain ⟨h1, h2, h3, h4⟩ := turn_inv hS L l l' true s' (fun _ h => h) e hl ht
      split at h
      · rename_i hs
        obtain rfl := Option.some.inj h
        obtain ⟨_, rfl, q⟩ := h3 hs
        exact ⟨h1, h2, q, h4⟩
      · obtain ⟨q1, q2, q3, q4⟩ := leaF_inv hS k l' r h h2 h1
        exact ⟨q1, q2, q3, fun m hm hle => q4 m hm (h4 m hm hle)⟩
theorem lateAt_zeros (n : Nat) (i : Int) : lateAt (List.replicate n 0) i = 0 := by
  unfold lateAt
  rw [List.getElem?_replicate]
  split <;> rfl
theorem Tight.zeros (L : List Wi) (n : Nat) : Tight L (List.replicate n 0) := fun _ _ => .inl (lateAt_zeros n _)
theorem lateAt_nonneg {m : List Int} (h : ∀ a ∈ m, 0 ≤ a) (i : Int) : 0 ≤ lateAt m i := by
  unfold lateAt
  cases e : m[i.toNat]? with
  | none => exact Int.le_refl _
  | some a => exact h a (List.mem_of_getElem? e)
theorem Leq.zeros {m : List Int} (h : ∀ a ∈ m, 0 ≤ a) (n : Nat) : Leq (List.replicate n 0) m := fun i => by rw [lateAt_zeros]; exact lateAt_nonneg h _
end Go.Proofs.YtdenddknbmiboaaDoor.Lex
namespace Go.Proofs.YtdenddknbmiboaaDoor.Lex
open Go.ChangeShapes Go.WideShapes Go.ChangeAt Go.RowKit Go.Joins
/-- It is that one. -/
def isRf (nm : ByteArray) (ago : Int) (x : Wi) : Bool := (x.rf.1.toList == nm.toList) && ((x.rf.2 : Int) == ago)
/-- What is answered. -/
def ageO (l : List Int) (o : Option Wi) : Int × Int := match o with | some x => (ageV l x, 0) | none => (0, 1)
def ageF (p : Pg) (l : List Int) (flow : Int) (nm : ByteArray) (ago : Int) : Int × Int :=
  if lateOk p l = true ∧ 0 ≤ flow ∧ flow < p.flows.length then ageO l ((wishL p flow.toNat).find? (isRf nm ago)) else (0, 1)
end Go.Proofs.YtdenddknbmiboaaDoor.Lex
namespace Go.Proofs.YtdenddknbmiboaaDoor.Lex
open Go.ChangeShapes Go.WideShapes Go.ChangeAt Go.RowKit Go.Joins
attribute [local go_sem] Oper.semAt_some
/-- Wishes in a row. -/
def WAt (w : World) (L : List Wi) (v : Value) : Prop :=
  ∃ a cap, v = .slice a L.length cap ∧ L.length ≤ 1000000 ∧ (L.length = 0 ∨ ∃ g, a = some ⟨g, 0, none⟩ ∧ ∀ i (h : i < L.length), w.cell? ⟨g, i * 5, none⟩ = some (.int .i64 (L[i].flow : Int)) ∧ w.cell? ⟨g, i * 5 + 1, none⟩ = some (.string L[i].rf.1) ∧ w.cell? ⟨g, i * 5 + 2, none⟩ = some (.int .i64 (L[i].rf.2 : Int)) ∧ w.cell? ⟨g, i * 5 + 3, none⟩ = some (.int .i64 L[i].of) ∧ w.cell? ⟨g, i * 5 + 4, none⟩ = some (.int .i64 (L[i].way : Int)))
theorem wisV_at (L : List Wi) (i j : Nat) (hi : i < L.length) (hj : j < 5) : (wisV L)[5 * i + j]? = (wiC L[i])[j]? := by
  induction L generalizing i with
  | nil => simp at hi
  | cons t ts ih =>
    have e : wisV (t :: ts) = wiC t ++ wisV ts := by simp [wisV]
    rw [e]
    have hl : (wiC t).length = 5 := rfl
    cases i with
    | zero => rw [List.getElem?_append_left (by omega)]; simp
    | succ i =>
      rw [List.getElem?_append_right (by omega), hl, show 5 * (i + 1) + j - 5 = 5 * i + j by omega]
      simpa using ih i (by simpa using hi)
theorem WAt.of_own {w : World} {B : Nat} {v : Value} {L : List Wi} (h : w.ownsRow B 111 5 v L.length (wisV L)) (hl : L.length ≤ 1000000) : WAt w L v := by
  rcases h.2 with ⟨rfl, h0⟩ | ⟨g, cap, cur, rfl, hg0, hg, rest⟩
  · exact ⟨none, 0, by rw [h0], hl, .inl h0⟩
  · refine ⟨_, cap, rfl, hl, .inr ⟨g, rfl, fun i hi => ?_⟩⟩
    have q : ∀ j, j < 5 → w.cell? ⟨g, i * 5 + j, none⟩ = (wiC L[i])[j]? := fun j hj => by rw [h.cellAt _ (by omega), ← wisV_at L i j hi hj, Nat.mul_comm]
    exact ⟨q 0 (by omega), q 1 (by omega), q 2 (by omega), q 3 (by omega), q 4 (by omega)⟩
theorem WAt.keep {w w' : World} {L : List Wi} {v : Value} (h : WAt w L v) (hb : Below w.heap.size w w') : WAt w' L v := by
  obtain ⟨a, cap, rfl, hl, h⟩ := h
  refine ⟨a, cap, rfl, hl, ?_⟩
  rcases h with h | ⟨g, e, h⟩
  · exact .inl h
  · exact .inr ⟨g, e, fun i hi => by obtain ⟨h1, h2, h3, h4, h5⟩ := h i hi; exact ⟨cell_kept h1 hb, cell_kept h2 hb, cell_kept h3 hb, cell_kept h4 hb, cell_kept h5 hb⟩⟩
/-- What holds between two rounds, but for what the caller says. -/
structure VS (n₀ B : Nat) (W0 : World) (T : Bl) (wr : World) : Prop where
  lo : n₀ ≤ B
  since : Since B T wr
  size : B ≤ wr.heap.size
  below : Below n₀ W0 wr
theorem VS.step {n₀ B : Nat} {W0 wr W' : World} {T : Bl} (h : VS n₀ B W0 T wr) (hb : Below wr.heap.size wr W') : VS n₀ B W0 T W' := by
  have hs := hb.size
  exact ⟨h.lo, fun x hx => by have := h.since x hx; omega, by have := h.size; omega, h.below.trans (hb.mono (Nat.le_trans h.lo h.size))⟩
theorem VS.round {n₀ B : Nat} {W0 wr W' : World} {T T' : Bl} (h : VS n₀ B W0 T wr) (hn : Newer T T' wr W') (hb : Buts (fun x => T x ∨ (x < B ∧ ¬ (x < n₀))) wr W') : VS n₀ B W0 T' W' := by
  have hs := hb.size
  have hsz := h.size
  have hlo := h.lo
  refine ⟨h.lo, fun x hx => ?_, by omega, h.below.trans (hb.low (fun x hx ho => ?_) (by omega))⟩
  · rcases hn x hx with e | e
    · have := h.since x e; omega
    · omega
  · rcases ho with ho | ho
    · have := (h.since x ho).1; omega
    · omega
end Go.Proofs.YtdenddknbmiboaaDoor.Lex
namespace Go.Proofs.YtdenddknbmiboaaDoor.Lex
open Go.ChangeShapes Go.WideShapes Go.ChangeAt Go.RowKit Go.Joins
attribute [local go_sem] Oper.semAt_some
/-- A row of numbers that is a block of its own. -/
def Rowl (W : World) (b : Nat) (l : List Int) : Prop := W.heap[b]? = some (.cells (l.map (fun a => Value.int .i64 a)).toArray 3 (0, 0))
theorem Rowl.cell {W : World} {b : Nat} {l : List Int} (h : Rowl W b l) (i : Nat) (hi : i < l.length) : W.cell? ⟨b, i, none⟩ = some (.int .i64 l[i]) := by
  rw [cell_of_row _ _ _ _ 3 (0, 0) h]; simp [hi]
theorem Rowl.at {W : World} {b : Nat} {l : List Int} (h : Rowl W b l) (hl : l.length ≤ 1000000) : IAt W l (.slice (some ⟨b, 0, none⟩) l.length l.length) :=
  ⟨_, _, rfl, ⟨Nat.le_refl _, by omega⟩, by
    by_cases e : l.length = 0
    · exact .inl e
    · exact .inr ⟨b, 0, rfl, fun i hi => by rw [Nat.zero_add]; exact h.cell i hi⟩⟩
theorem Rowl.set {W : World} {b : Nat} {l : List Int} (h : Rowl W b l) (i : Nat) (z : Int) : Rowl (W.setCell ⟨b, i, none⟩ (.int .i64 z)) b (l.set i z) := by
  unfold Rowl
  rw [set_same' h i (.int .i64 z)]
  congr 2
  apply Array.ext'
  simp [List.map_set]
theorem Rowl.frozen {W : World} {b : Nat} {l : List Int} (h : Rowl W b l) (i : Nat) : W.frozen? ⟨b, i, none⟩ = false := by
  unfold World.frozen?
  rw [h]
  rfl
theorem infI : (Tryd.prog.info? 3).map (fun i => (i.zero, i.size, i.bytes)) = some (some (.int .i64 0), 1, 8) := by kernel_rfl
theorem mk_ints (n : Nat) (hn : n ≤ 1099511627776) (w : World) : (Instr.makeSlice 48 (.int .i64 (n : Int)) (.int .i64 (n : Int))).run Tryd.prog w = .ok (.slice (some ⟨w.heap.size, 0, none⟩) n n) (w.alloc (.cells (madeCells #[.int .i64 0] n) 3)) :=
  run_make_row' 48 3 (.int .i64 0) 8 Tryd.underlying48 infI rfl .i64 .i64 n (by omega) (by omega) w
theorem made_zeros (W : World) (n : Nat) : Rowl (W.alloc (.cells (madeCells #[.int .i64 0] n) 3)) W.heap.size (List.replicate n 0) := by
  unfold Rowl
  rw [heap_alloc_new W _, List.map_replicate]
  congr 2
  apply Array.ext'
  refine List.ext_getElem? (fun i => ?_)
  by_cases hi : i < n
  · simp [madeCells, hi, Nat.mod_one]
  · rw [List.getElem?_eq_none (by rw [Array.length_toList, size_madeCells]; omega), List.getElem?_eq_none (by simp; omega)]
/-- What stands, whatever the turn: the row, the variable that holds it. -/
structure LI (w : World) (n bl : Nat) (l : List Int) (V : World) : Prop where
  row : Rowl V bl l
  box : V.heap[bl + 1]? = some (.cells #[.slice (some ⟨bl, 0, none⟩) n n] 48 (0, 0))
  len : l.length = n
  fine : Fine l
  below : Below w.heap.size w V
theorem LI.far {w A C : World} {n bl : Nat} {l : List Int} {B : Nat} {T : Bl} (h : LI w n bl l A) (hf : Far B T A C) (hB : bl + 2 ≤ B) (hw : w.heap.size ≤ bl) : LI w n bl l C :=
  ⟨(hf.block _ (Array.getElem?_eq_some_iff.1 h.row).1 (.inl (by omega))).trans h.row, (hf.block _ (Array.getElem?_eq_some_iff.1 h.box).1 (.inl (by omega))).trans h.box, h.len, h.fine, h.below.trans ⟨hf.os, hf.tape, hf.output, hf.size, fun b hb => hf.block b (by have := h.below.size; omega) (.inl (by omega))⟩⟩
theorem LI.step {w A C : World} {n bl : Nat} {l : List Int} (h : LI w n bl l A) (hb : Below A.heap.size A C) : LI w n bl l C :=
  ⟨(hb.block _ (Array.getElem?_eq_some_iff.1 h.row).1).trans h.row, (hb.block _ (Array.getElem?_eq_some_iff.1 h.box).1).trans h.box, h.len, h.fine, h.below.trans (hb.mono h.below.size)⟩
theorem LI.other {w A : World} {n bl : Nat} {l : List Int} (h : LI w n bl l A) (hw : w.heap.size ≤ bl) {b o : Nat} (hb : bl + 2 ≤ b) (u : Value) : LI w n bl l (A.setCell ⟨b, o, none⟩ u) :=
  ⟨(Below.heap_setCell _ _ _ _ (by simp; omega)).trans h.row, (Below.heap_setCell _ _ _ _ (by simp; omega)).trans h.box, h.len, h.fine, h.below.setCell (p := ⟨b, o, none⟩) (by simp; omega) _⟩
theorem LI.put {w A : World} {n bl : Nat} {l : List Int} (h : LI w n bl l A) (hw : w.heap.size ≤ bl) (i : Nat) {z : Int} (hz : outB z = false) : LI w n bl (l.set i z) (A.setCell ⟨bl, i, none⟩ (.int .i64 z)) :=
  ⟨h.row.set i z, (Below.heap_setCell _ _ _ _ (by simp)).trans h.box, by rw [List.length_set]; exact h.len, h.fine.set i hz, h.below.setCell (p := ⟨bl, i, none⟩) hw _⟩
end Go.Proofs.YtdenddknbmiboaaDoor.Lex
namespace Go.Proofs.YtdenddknbmiboaaDoor.Lex
open Go.ChangeShapes Go.WideShapes Go.ChangeAt Go.RowKit Go.Joins
/-- How late they are told to be. -/
def ofL (p : Pg) : Option (List Int) := leaF (allL p) (p.flows.length + 1) (List.replicate p.flows.length 0)
/-- What is answered. -/
def OfP (w : World) (p : Pg) (e : Ending) (w' : World) : Prop :=
  (nmErr p ≠ 0 ∧ e = .returned (.tuple #[.slice none 0 0, .int .i64 (nmErr p)])) ∨ (nmErr p = 0 ∧ ofL p = none ∧ e = .returned (.tuple #[.slice none 0 0, .int .i64 10])) ∨
    ∃ l b, nmErr p = 0 ∧ ofL p = some l ∧ e = .returned (.tuple #[.slice (some ⟨b, 0, none⟩) p.flows.length p.flows.length, .int .i64 0]) ∧ w.heap.size ≤ b ∧ Rowl w' b l ∧ l.length = p.flows.length ∧ Fine l
theorem results_two {fn : Func} {t u : Tmp} (h : fn.results = #[.tmp t, .tmp u]) (tmps : Array Value) (P : Program) (w : World) : (results fn tmps).run P w = .ok (.tuple #[tmps.getD t undef, tmps.getD u undef]) w := by
  simp [results, h, go_sem]
end Go.Proofs.YtdenddknbmiboaaDoor.Lex
namespace Go.Proofs.YtdenddknbmiboaaDoor.Lex
theorem find_of_asked {p : Pg} (h : nmOk p = true) {s : ByteArray} (hs : s ∈ askedL p) : ∃ x, findT (thingsL p) s = some x := by
  unfold nmOk at h
  simp only [Bool.and_eq_true, List.all_eq_true] at h
  have h1 := h.2.1 s hs
  unfold none_ at h1
  exact find_some (by simpa using h1)
theorem sane {p : Pg} (hE : nmErr p = 0) : Sane p.flows.length (allL p) := by
  obtain ⟨_, hn⟩ := nmErr_zero hE
  refine ⟨allL_ok (nm_chk hE), fun x hx hof => ?_⟩
  obtain ⟨k, hk, hx⟩ := List.mem_flatMap.1 hx
  have hkl := List.mem_range.1 hk
  rw [wishL_at hkl] at hx
  obtain ⟨r, hr, rfl⟩ := List.mem_map.1 hx
  have hask : r.1 ∈ askedL p := List.mem_flatMap.2 ⟨p.flows[k], List.getElem_mem hkl, List.mem_map.2 ⟨r, hr, rfl⟩⟩
  obtain ⟨y, hy⟩ := find_of_asked hn hask
  have hof : plO (findT (thingsL p) r.1) = k := hof
  show (if stO (findT (thingsL p) r.1) = p.flows[k].st then 0 else 1) = 0
  rw [hy] at hof ⊢
  have h1 : y.1 = (k : Int) := hof
  have hm := List.mem_of_find?_eq_some hy
  have h2 : y.2 = p.flows[k].hd := by
    rcases List.mem_append.1 hm with hm | hm
    · obtain ⟨z, _, rfl⟩ := List.mem_map.1 hm
      have : (-1 : Int) = (k : Int) := h1
      omega
    · obtain ⟨i, hi, rfl⟩ := List.mem_map.1 hm
      have : i = k := by have : (i : Int) = (k : Int) := h1; omega
      subst this
      show (p.flows[i]?.map Fl.hd).getD _ = _
      rw [List.getElem?_eq_getElem hkl]; rfl
  rw [if_pos (show stO (some y) = p.flows[k].st by show y.2.st = _; rw [h2])]
/-- What is told may be. -/
theorem of_late {p : Pg} {l : List Int} (hE : nmErr p = 0) (h : ofL p = some l) (hf : Fine l) : lateOk p l = true ∧ l.length = p.flows.length ∧ Tight (allL p) l ∧ (∀ m, m.length = p.flows.length → Sol (allL p) m → Leq l m) := by
  obtain ⟨h1, h2, h3, h4⟩ := leaF_inv (sane hE) _ _ _ h List.length_replicate (Tight.zeros _ _)
  refine ⟨?_, h2, h1, fun m _ hm => h4 m hm (Leq.zeros hm.1 _)⟩
  unfold lateOk agesOk
  rw [hE, h2, hf.out]
  simp only [decide_true, Bool.true_and, Bool.not_false, List.all_eq_true, decide_eq_true_eq]
  exact h3
/-- Each Age of what is asked for is there, and at least 0. -/
theorem age_there {p : Pg} {l : List Int} (hl : lateOk p l = true) {i : Nat} (hi : i < p.flows.length) {r : Rf} (hr : r ∈ gat 32 p.flows[i].body 0 []) : ∃ a : Int, ageF p l i r.1 r.2 = (a, 0) ∧ 0 ≤ a := by
  have hx : mkW p i p.flows[i].st r ∈ wishL p i := by rw [wishL_at hi]; exact List.mem_map.2 ⟨r, hr, rfl⟩
  have hlo := hl
  unfold lateOk agesOk at hlo
  simp only [Bool.and_eq_true, List.all_eq_true, decide_eq_true_eq] at hlo
  unfold ageF
  rw [if_pos ⟨hl, by omega, by omega⟩]
  show ∃ a : Int, ageO l ((wishL p (i : Int).toNat).find? _) = (a, 0) ∧ 0 ≤ a
  rw [Int.toNat_natCast]
  cases e : (wishL p i).find? (isRf r.1 r.2) with
  | none =>
    have := (List.find?_eq_none.1 e) _ hx
    exact (this (by unfold isRf mkW; simp)).elim
  | some x => exact ⟨ageV l x, rfl, hlo.2.2.2 x (List.mem_flatMap.2 ⟨i, List.mem_range.2 hi, List.mem_of_find?_eq_some e⟩)⟩
/-- With one less late, and others as they are, or later, flows may not be. -/
theorem less_not {p : Pg} {l o : List Int} (hE : nmErr p = 0) (ht : Tight (allL p) l) (hlen : l.length = p.flows.length) {i : Nat} (hi : i < l.length) (hlo : o.length = l.length) (h1 : lateAt o i = lateAt l i - 1) (h2 : ∀ j : Nat, j ≠ i → lateAt l j ≤ lateAt o j) : lateOk p o = false := by
  rcases ht i hi with h0 | ⟨x, hx, hxf, hxo, ha⟩
  · have ho : anyOut o = true := by
      unfold anyOut
      rw [List.any_eq_true]
      refine ⟨o[i], List.getElem_mem _, ?_⟩
      have := lateAt_nat o i (by omega)
      unfold outB
      rw [← this, h1, h0]
      rfl
    unfold lateOk
    rw [ho]
    simp
  · have hs := (sane hE).ok x hx
    have hag : agesOk p o = false := by
      unfold agesOk
      rw [List.all_eq_false]
      refine ⟨x, hx, ?_⟩
      have : ageV o x < 0 := by
        unfold ageV at ha ⊢
        rw [hxf] at ha ⊢
        rw [h1]
        split at ha
        · rename_i h3
          rw [if_pos h3]
          have h4 := h2 x.of.toNat (fun e => hxo (by omega))
          rw [Int.toNat_of_nonneg h3] at h4
          omega
        · rename_i h3
          rw [if_neg h3]
          omega
      simp
      omega
    unfold lateOk
    rw [hag]
    simp
end Go.Proofs.YtdenddknbmiboaaDoor.Lex
namespace Go.Proofs.YtdenddknbmiboaaDoor.Lex
open Go.ChangeShapes Go.WideShapes Go.ChangeAt Go.RowKit Go.Joins
/-- One more age. -/
def oldS (l : List Int) (since m : Int) (y : Ak) : Int := max m (lateAt l (y.fl : Int) + (y.ago : Int) - since)
/-- The greatest age at which a station asks for it, or 0. -/
def oldF (l : List Int) (s since : Int) (ks : List Ak) : Int := (ks.filter (hereB s)).foldl (oldS l since) 0
theorem oldF_succ (l : List Int) (s since : Int) (ks : List Ak) {k : Nat} (h : k < ks.length) : oldF l s since (ks.take (k + 1)) = if hereB s ks[k] then oldS l since (oldF l s since (ks.take k)) ks[k] else oldF l s since (ks.take k) := by
  unfold oldF
  rw [List.take_succ_eq_append_getElem h, List.filter_append, List.foldl_append, List.filter_cons]
  split <;> rfl
theorem IAt.row_some {w : World} {l : List Int} {ao : Option Addr} {cap : Nat} (h : IAt w l (.slice ao l.length cap)) (hl : 0 < l.length) : ∃ b o, ao = some ⟨b, o, none⟩ ∧ ∀ i (h : i < l.length), w.cell? ⟨b, o + i, none⟩ = some (.int .i64 l[i]) := by
  obtain ⟨ao', cap', e, _, h⟩ := h
  injection e with e _ _
  subst e
  exact h.resolve_left (by omega)
set_option maxRecDepth 100000 in
set_option maxHeartbeats 4000000 in
theorem oldest_ (p : Pg) (A B C : Value) (s since : Int) (mb : Nat) (L : List (ByteArray × Ak)) (hL : L.length ≤ 1000000) (nm : ByteArray) (hN : NmK nm) (l : List Int) (lv : Value) (w : World) (hM : AMr w mb L) (hI : IAt w l lv) (hF : Mild l) (hs : -1000000 ≤ since ∧ since ≤ 1000000) (hY : ∀ y ∈ akOf L nm, y.fl < l.length ∧ y.ago ≤ 1000000) :
    Calls Tryd.prog 54 #[cutV p A B C s mb, .string nm, .int .i64 since, lv] w fun e w' => e = .returned (.int .i64 (oldF l s since (akOf L nm))) ∧ Below w.heap.size w w' := by
  have hal := (Below.refl w.heap.size w).alloc (Nat.le_refl _) (.cells (cutC p A B C s mb) 79)
  have XC : Hid (CutAt (w.alloc (.cells (cutC p A B C s mb) 79)) w.heap.size (cutC p A B C s mb)) := hid (heap_alloc_new _ _)
  have XM := hid (hM.keep hal)
  have XB := hid hal
  have HI := hid hI
  have HF := hid hF
  have HY := hid hY
  have hlen := akOf_len L nm
  obtain ⟨la, lc, rfl, hlc, _⟩ := hI
  clear hal hM hF hY
  go_enter Tryd.func54, Tryd.ntmps54
  go_wp2_with (fail)
  refine wp_region_held_drew (S := fun W => W.cell? ⟨w.heap.size, 5, none⟩ = some (.map (some mb))) (by kernel_rfl) ?_ (fun hHeld => ?_)
  · exact XC.out.cells.2.2.2.2.2
  refine wpAnyH_take (i := 0) (oi := { dst := some 12, op := Go.Op.fieldAddr 79 (Go.Operand.tmp 4) 2, type := 0, pos := _, after := #[], guard := none }) (v := ?_) rfl (by kernel_rfl) (by kernel_rfl) (by kernel_rfl) (fun _ _ _ h => h) (Or.inl ⟨by rfl, ?_⟩) (by assumption) ?_
  rotate_left
  · intro w hSw; (try dsimp only at hSw); go_simp <;> first | with_reducible rfl | (rw [if_neg (by first | omega | (simp only [ByteArray.size_append] at *; omega))])
  simp only [Act.put, List.setIfInBounds_toArray, List.set_cons_zero, List.set_cons_succ]
  refine wpAnyH_take (i := 1) (oi := { dst := some 13, op := Go.Op.load 77 (Go.Operand.tmp 12), type := 77, pos := _, after := #[{ on := 0, ground := Go.Ground.data }], guard := none }) (v := ?_) rfl (by kernel_rfl) (by kernel_rfl) (by kernel_rfl) (fun _ _ _ h => h) (Or.inl ⟨by rfl, ?_⟩) (by assumption) ?_
  rotate_left
  · intro w hSw; (try dsimp only at hSw); go_simp <;> first | with_reducible rfl | (rw [if_neg (by first | omega | (simp only [ByteArray.size_append] at *; omega))])
  simp only [Act.put, List.setIfInBounds_toArray, List.set_cons_zero, List.set_cons_succ]
  refine wpAnyH_take (i := 2) (oi := { dst := some 14, op := Go.Op.move (Go.Operand.tmp 1), type := 9, pos := _, after := #[], guard := none }) (v := ?_) rfl (by kernel_rfl) (by kernel_rfl) (by kernel_rfl) (fun _ _ _ h => h) (Or.inl ⟨by rfl, ?_⟩) (by assumption) ?_
  rotate_left
  · intro w hSw; (try dsimp only at hSw); go_simp <;> first | with_reducible rfl | (rw [if_neg (by first | omega | (simp only [ByteArray.size_append] at *; omega))])
  simp only [Act.put, List.setIfInBounds_toArray, List.set_cons_zero, List.set_cons_succ]
  refine wpAnyH_take (i := 6) (oi := { dst := some 18, op := Go.Op.move (Go.Operand.const (Go.Value.int Go.IntKind.i64 0)), type := 3, pos := _, after := #[], guard := none }) (v := ?_) rfl (by kernel_rfl) (by kernel_rfl) (by kernel_rfl) (fun _ _ _ h => h) (Or.inl ⟨by rfl, ?_⟩) (by assumption) ?_
  rotate_left
  · intro w hSw; (try dsimp only at hSw); go_simp <;> first | with_reducible rfl | (rw [if_neg (by first | omega | (simp only [ByteArray.size_append] at *; omega))])
  simp only [Act.put, List.setIfInBounds_toArray, List.set_cons_zero, List.set_cons_succ]
  refine wpAnyH_ready (rs := [3]) (by kernel_rfl) (by simp) ?_
  refine AllReadyH.cons (o := { dst := some 15, op := Go.Op.call { callee := Go.Callee.value (Go.Operand.func 66), args := #[Go.Operand.tmp 14], argTypes := #[9] }, type := 144, pos := _, after := #[{ on := 2, ground := Go.Ground.data }], guard := none }) rfl (fun K hK => ?_) AllReadyH.nil
  go_simp
  refine (key_of nm _ hN.1).mono ?_
  rintro e w2 ⟨rfl, hb2⟩
  have hb2' := (Below.refl _ _).drew.trans hb2
  have C2 := hid (XC.out.keep hb2')
  have M2 := hid (XM.out.keep hb2')
  have B2 := hid (XB.out.trans (hb2'.mono XB.out.size))
  clear hb2 hb2'
  go_wp2_with fail
  refine hK.out _ _ ?_ (fun hHeld1 => ?_)
  · exact C2.out.cells.2.2.2.2.2
  clear hK K
  obtain ⟨v, hv, hlk⟩ := M2.out.look hN
  obtain ⟨va, vc, hve, hvr⟩ := hv
  subst hve
  have HVR := hid hvr
  clear hvr
  refine wpAnyH_ready (rs := [4]) (by kernel_rfl) (by simp) ?_
  refine AllReadyH.cons (o := { dst := some 16, op := Go.Op.lookup 77 (Go.Operand.tmp 13) (Go.Operand.tmp 15) false, type := 146, pos := _, after := #[{ on := 1, ground := Go.Ground.data }, { on := 3, ground := Go.Ground.data }], guard := none }) rfl (fun K hK => ?_) AllReadyH.nil
  refine if_take (by rfl) ?_
  refine wp_look (.tmp 13) (.tmp 15) 77 rfl rfl rfl (hlk _ rfl) ?_
  refine hK.out _ _ ?_ (fun hHeldL4 => ?_)
  · exact C2.out.cells.2.2.2.2.2
  clear hK K
  clear hlk
  refine wpAnyH_take (i := 5) (oi := { dst := some 17, op := Go.Op.call { callee := Go.Callee.builtin Go.Builtin.len, args := #[Go.Operand.tmp 16], argTypes := #[146] }, type := 3, pos := _, after := #[{ on := 4, ground := Go.Ground.data }], guard := none }) (v := ?_) rfl (by kernel_rfl) (by kernel_rfl) (by kernel_rfl) (fun _ _ _ h => h) (Or.inl ⟨by rfl, ?_⟩) (by assumption) ?_
  rotate_left
  · intro w hSw; (try dsimp only at hSw); go_simp <;> first | with_reducible rfl | (rw [if_neg (by first | omega | (simp only [ByteArray.size_append] at *; omega))])
  simp only [Act.put, List.setIfInBounds_toArray, List.set_cons_zero, List.set_cons_succ]
  refine wpAnyH_done (by kernel_rfl) ?_ _
  generalize hks : akOf L nm = ks at *
  have HKS := hid hks
  clear hks
  go_wp2_with (fail)
  go_loopw [9, 18] (fun m i wr => ∃ k : Nat, k ≤ ks.length ∧ m = .int .i64 (oldF l s since (ks.take k)) ∧ i = .int .i64 (k : Int) ∧ Hid (Below w2.heap.size w2 wr)) (fun _ i _ => ks.length - (intOf i).toNat)
  case atStart => exact ⟨0, Nat.zero_le _, rfl, rfl, hid (Below.refl _ _)⟩
  case round =>
    obtain ⟨k, hk, rfl, rfl, HB⟩ := hrel
    by_cases hlt : k < ks.length
    · have hlt' : (k : Int) < (ks.length : Int) := by omega
      have hk0 : (0 : Int) ≤ (k : Int) := by omega
      obtain ⟨g, rfl, _, hcc⟩ := HVR.out.resolve_left (by omega)
      obtain ⟨z0, z1, z2⟩ := hcc k hlt
      have x0 := cell_kept z0 HB.out
      have x1 := cell_kept z1 HB.out
      have x2 := cell_kept z2 HB.out
      clear hcc z0 z1 z2
      have HS := hid (oldF_succ l s since ks hlt)
      have hY := HY.out _ (List.getElem_mem hlt)
      obtain ⟨q0, q1, q2, q3, q4, q5⟩ := (C2.out.keep HB.out).cells
      have BW := hid (B2.out.trans (HB.out.mono B2.out.size))
      obtain ⟨lb, lo, rfl, hlcell⟩ := (HI.out.keep BW.out).row_some (by omega)
      have hl3 := hlcell ks[k].fl hY.1
      have hLA := lateAt_nat l ks[k].fl hY.1
      have hLM := HF.out _ (List.getElem_mem hY.1)
      generalize ks[k] = y at *
      generalize l[y.fl] = lf at *
      generalize oldF l s since (ks.take k) = m at *
      have hal := (Below.refl wr.heap.size wr).alloc (Nat.le_refl _) (.cells #[.int .i64 (y.fl : Int), .int .i64 y.st, .int .i64 (y.ago : Int)] 148)
      have hr : (wr.alloc (.cells #[.int .i64 (y.fl : Int), .int .i64 y.st, .int .i64 (y.ago : Int)] 148)).heap[wr.heap.size]? = some (.cells #[.int .i64 (y.fl : Int), .int .i64 y.st, .int .i64 (y.ago : Int)] 148 (0, 0)) := heap_alloc_new wr _
      have HR := hid hr
      have HAL := hid hal
      have ch := is_here p A B C s mb y (wr.alloc (.cells #[.int .i64 (y.fl : Int), .int .i64 y.st, .int .i64 (y.ago : Int)] 148))
      have t0 := cell_kept q0 hal
      have t1 := cell_kept q1 hal
      have t2 := cell_kept q2 hal
      have t3 := cell_kept q3 hal
      have t4 := cell_kept q4 hal
      have t5 := cell_kept q5 hal
      have HL3 := hid hl3
      have hy0 : (0 : Int) ≤ (y.fl : Int) := by omega
      have hy1 : (y.fl : Int) < (l.length : Int) := by omega
      have HLA := hid hLA
      obtain ⟨zz, hzz⟩ : ∃ zz, zz = lf + (y.ago : Int) := ⟨_, rfl⟩
      obtain ⟨yy, hyy⟩ : ∃ yy, yy = zz - since := ⟨_, rfl⟩
      have hw1 : IntKind.i64.wrap (lf + (y.ago : Int)) = zz := by rw [hzz, IntKind.wrap_i64]; omega
      have hw2 : IntKind.i64.wrap (zz - since) = yy := by rw [hyy, IntKind.wrap_i64]; omega
      have HYY : Hid (yy = lateAt l (y.fl : Int) + (y.ago : Int) - since) := hid (by rw [hyy, hzz, HLA.out])
      clear hzz hyy hal hr hLA hl3 q0 q1 q2 q3 q4 q5 hlcell
      cases hh : hereB s y with
      | true =>
        have HS2 : Hid (oldF l s since (ks.take (k + 1)) = max m yy) := hid (by rw [HS.out, hh, if_pos rfl]; unfold oldS; rw [← HYY.out])
        rw [hh] at ch
        clear hh HS
        go_wp2_with (fail)
        refine ch.mono ?_
        rintro e w3 ⟨rfl, hb3⟩
        have hr3 := keep_row HR.out hb3
        have n0 : w3.cell? ⟨wr.heap.size, 0, none⟩ = some (.int .i64 (y.fl : Int)) := (cell_of_row _ _ _ _ 148 (0, 0) hr3).trans rfl
        have n2 : w3.cell? ⟨wr.heap.size, 2, none⟩ = some (.int .i64 (y.ago : Int)) := (cell_of_row _ _ _ _ 148 (0, 0) hr3).trans rfl
        have n3 := cell_kept HL3.out (HAL.out.trans (hb3.mono HAL.out.size))
        have B3 := hid (HB.out.trans ((HAL.out.trans (hb3.mono HAL.out.size)).mono HB.out.size))
        clear ch hb3 hr3 t0 t1 t2 t3 t4 t5
        go_wp2_with (fail)
        refine wp_region_held_drew (S := fun V => V.cell? ⟨wr.heap.size, 0, none⟩ = some (.int .i64 (y.fl : Int)) ∧ V.cell? ⟨wr.heap.size, 2, none⟩ = some (.int .i64 (y.ago : Int)) ∧ V.cell? ⟨lb, lo + y.fl, none⟩ = some (.int .i64 lf)) (by kernel_rfl) ?_ (fun hHeld => ?_)
        · exact ⟨n0, n2, n3⟩
        refine wpAnyH_take (i := 0) (oi := { dst := some 25, op := Go.Op.move (Go.Operand.tmp 9), type := 3, pos := _, after := #[], guard := none }) (v := ?_) rfl (by kernel_rfl) (by kernel_rfl) (by kernel_rfl) (fun _ _ _ h => h) (Or.inl ⟨by rfl, ?_⟩) (by assumption) ?_
        rotate_left
        · intro w hSw; (try dsimp only at hSw); go_simp <;> first | with_reducible rfl | (rw [if_neg (by first | omega | (simp only [ByteArray.size_append] at *; omega))])
        simp only [Act.put, List.setIfInBounds_toArray, List.set_cons_zero, List.set_cons_succ]
        refine wpAnyH_take (i := 1) (oi := { dst := some 26, op := Go.Op.move (Go.Operand.tmp 3), type := 48, pos := _, after := #[], guard := none }) (v := ?_) rfl (by kernel_rfl) (by kernel_rfl) (by kernel_rfl) (fun _ _ _ h => h) (Or.inl ⟨by rfl, ?_⟩) (by assumption) ?_
        rotate_left
        · intro w hSw; (try dsimp only at hSw); go_simp <;> first | with_reducible rfl | (rw [if_neg (by first | omega | (simp only [ByteArray.size_append] at *; omega))])
        simp only [Act.put, List.setIfInBounds_toArray, List.set_cons_zero, List.set_cons_succ]
        refine wpAnyH_take (i := 2) (oi := { dst := some 27, op := Go.Op.fieldAddr 148 (Go.Operand.tmp 11) 0, type := 0, pos := _, after := #[], guard := none }) (v := ?_) rfl (by kernel_rfl) (by kernel_rfl) (by kernel_rfl) (fun _ _ _ h => h) (Or.inl ⟨by rfl, ?_⟩) (by assumption) ?_
        rotate_left
        · intro w hSw; (try dsimp only at hSw); go_simp <;> first | with_reducible rfl | (rw [if_neg (by first | omega | (simp only [ByteArray.size_append] at *; omega))])
        simp only [Act.put, List.setIfInBounds_toArray, List.set_cons_zero, List.set_cons_succ]
        refine wpAnyH_take (i := 3) (oi := { dst := some 28, op := Go.Op.load 3 (Go.Operand.tmp 27), type := 3, pos := _, after := #[{ on := 2, ground := Go.Ground.data }], guard := none }) (v := ?_) rfl (by kernel_rfl) (by kernel_rfl) (by kernel_rfl) (fun _ _ _ h => h) (Or.inl ⟨by rfl, ?_⟩) (by assumption) ?_
        rotate_left
        · intro w hSw; (try dsimp only at hSw); go_simp <;> first | with_reducible rfl | (rw [if_neg (by first | omega | (simp only [ByteArray.size_append] at *; omega))])
        simp only [Act.put, List.setIfInBounds_toArray, List.set_cons_zero, List.set_cons_succ]
        refine wpAnyH_take (i := 4) (oi := { dst := some 29, op := Go.Op.indexAddr 48 (Go.Operand.tmp 26) (Go.Operand.tmp 28), type := 0, pos := _, after := #[{ on := 1, ground := Go.Ground.data }, { on := 3, ground := Go.Ground.data }], guard := none }) (v := ?_) rfl (by kernel_rfl) (by kernel_rfl) (by kernel_rfl) (fun _ _ _ h => h) (Or.inl ⟨by rfl, ?_⟩) (by assumption) ?_
        rotate_left
        · intro w hSw; (try dsimp only at hSw); go_simp <;> first | with_reducible rfl | (rw [if_neg (by first | omega | (simp only [ByteArray.size_append] at *; omega))])
        simp only [Act.put, List.setIfInBounds_toArray, List.set_cons_zero, List.set_cons_succ]
        refine wpAnyH_take (i := 5) (oi := { dst := some 30, op := Go.Op.load 3 (Go.Operand.tmp 29), type := 3, pos := _, after := #[{ on := 4, ground := Go.Ground.data }], guard := none }) (v := ?_) rfl (by kernel_rfl) (by kernel_rfl) (by kernel_rfl) (fun _ _ _ h => h) (Or.inl ⟨by rfl, ?_⟩) (by assumption) ?_
        rotate_left
        · intro w hSw; (try dsimp only at hSw); go_simp <;> first | with_reducible rfl | (rw [if_neg (by first | omega | (simp only [ByteArray.size_append] at *; omega))])
        simp only [Act.put, List.setIfInBounds_toArray, List.set_cons_zero, List.set_cons_succ]
        refine wpAnyH_take (i := 6) (oi := { dst := some 31, op := Go.Op.fieldAddr 148 (Go.Operand.tmp 11) 2, type := 0, pos := _, after := #[], guard := none }) (v := ?_) rfl (by kernel_rfl) (by kernel_rfl) (by kernel_rfl) (fun _ _ _ h => h) (Or.inl ⟨by rfl, ?_⟩) (by assumption) ?_
        rotate_left
        · intro w hSw; (try dsimp only at hSw); go_simp <;> first | with_reducible rfl | (rw [if_neg (by first | omega | (simp only [ByteArray.size_append] at *; omega))])
        simp only [Act.put, List.setIfInBounds_toArray, List.set_cons_zero, List.set_cons_succ]
        refine wpAnyH_take (i := 7) (oi := { dst := some 32, op := Go.Op.load 3 (Go.Operand.tmp 31), type := 3, pos := _, after := #[{ on := 6, ground := Go.Ground.data }], guard := none }) (v := ?_) rfl (by kernel_rfl) (by kernel_rfl) (by kernel_rfl) (fun _ _ _ h => h) (Or.inl ⟨by rfl, ?_⟩) (by assumption) ?_
        rotate_left
        · intro w hSw; (try dsimp only at hSw); go_simp <;> first | with_reducible rfl | (rw [if_neg (by first | omega | (simp only [ByteArray.size_append] at *; omega))])
        simp only [Act.put, List.setIfInBounds_toArray, List.set_cons_zero, List.set_cons_succ]
        refine wpAnyH_take (i := 8) (oi := { dst := some 33, op := Go.Op.binOp Go.BinOp.add 3 (Go.Operand.tmp 30) (Go.Operand.tmp 32) 3, type := 3, pos := _, after := #[{ on := 5, ground := Go.Ground.data }, { on := 7, ground := Go.Ground.data }], guard := none }) (v := ?_) rfl (by kernel_rfl) (by kernel_rfl) (by kernel_rfl) (fun _ _ _ h => h) (Or.inl ⟨by rfl, ?_⟩) (by assumption) ?_
        rotate_left
        · intro w hSw; (try dsimp only at hSw); go_simp <;> first | with_reducible rfl | (rw [if_neg (by first | omega | (simp only [ByteArray.size_append] at *; omega))])
        simp only [Act.put, List.setIfInBounds_toArray, List.set_cons_zero, List.set_cons_succ]
        refine wpAnyH_take (i := 9) (oi := { dst := some 34, op := Go.Op.move (Go.Operand.tmp 2), type := 3, pos := _, after := #[], guard := none }) (v := ?_) rfl (by kernel_rfl) (by kernel_rfl) (by kernel_rfl) (fun _ _ _ h => h) (Or.inl ⟨by rfl, ?_⟩) (by assumption) ?_
        rotate_left
        · intro w hSw; (try dsimp only at hSw); go_simp <;> first | with_reducible rfl | (rw [if_neg (by first | omega | (simp only [ByteArray.size_append] at *; omega))])
        simp only [Act.put, List.setIfInBounds_toArray, List.set_cons_zero, List.set_cons_succ]
        refine wpAnyH_take (i := 10) (oi := { dst := some 35, op := Go.Op.binOp Go.BinOp.sub 3 (Go.Operand.tmp 33) (Go.Operand.tmp 34) 3, type := 3, pos := _, after := #[{ on := 8, ground := Go.Ground.data }, { on := 9, ground := Go.Ground.data }], guard := none }) (v := ?_) rfl (by kernel_rfl) (by kernel_rfl) (by kernel_rfl) (fun _ _ _ h => h) (Or.inl ⟨by rfl, ?_⟩) (by assumption) ?_
        rotate_left
        · intro w hSw; (try dsimp only at hSw); go_simp <;> first | with_reducible rfl | (rw [if_neg (by first | omega | (simp only [ByteArray.size_append] at *; omega))])
        simp only [Act.put, List.setIfInBounds_toArray, List.set_cons_zero, List.set_cons_succ]
        refine wpAnyH_take (i := 11) (oi := { dst := some 36, op := Go.Op.call { callee := Go.Callee.builtin Go.Builtin.max, args := #[Go.Operand.tmp 25, Go.Operand.tmp 35], argTypes := #[3, 3] }, type := 3, pos := _, after := #[{ on := 0, ground := Go.Ground.data }, { on := 10, ground := Go.Ground.data }], guard := none }) (v := ?_) rfl (by kernel_rfl) (by kernel_rfl) (by kernel_rfl) (fun _ _ _ h => h) (Or.inl ⟨by rfl, ?_⟩) (by assumption) ?_
        rotate_left
        · intro w hSw; (try dsimp only at hSw); go_simp <;> first | with_reducible rfl | (rw [if_neg (by first | omega | (simp only [ByteArray.size_append] at *; omega))])
        simp only [Act.put, List.setIfInBounds_toArray, List.set_cons_zero, List.set_cons_succ]
        refine wpAnyH_take (i := 12) (oi := { dst := some 9, op := Go.Op.assign (Go.Operand.tmp 36), type := 3, pos := _, after := #[{ on := 11, ground := Go.Ground.data }, { on := 0, ground := Go.Ground.phase }, { on := 1, ground := Go.Ground.phase }, { on := 2, ground := Go.Ground.phase }, { on := 3, ground := Go.Ground.phase }, { on := 4, ground := Go.Ground.phase }, { on := 5, ground := Go.Ground.phase }, { on := 6, ground := Go.Ground.phase }, { on := 7, ground := Go.Ground.phase }, { on := 8, ground := Go.Ground.phase }, { on := 9, ground := Go.Ground.phase }, { on := 10, ground := Go.Ground.phase }, { on := 11, ground := Go.Ground.phase }], guard := none }) (v := ?_) rfl (by kernel_rfl) (by kernel_rfl) (by kernel_rfl) (fun _ _ _ h => h) (Or.inl ⟨by rfl, ?_⟩) (by assumption) ?_
        rotate_left
        · intro w hSw; (try dsimp only at hSw); go_simp <;> first | with_reducible rfl | (rw [if_neg (by first | omega | (simp only [ByteArray.size_append] at *; omega))])
        simp only [Act.put, List.setIfInBounds_toArray, List.set_cons_zero, List.set_cons_succ]
        refine wpAnyH_done (by kernel_rfl) ?_ _
        go_wp2_with (fail)
        go_roundw
        case rel => exact ⟨k + 1, by omega, by rw [HS2.out], by go_num, hid (B3.out.trans ((Below.refl _ _).drew))⟩
        case measure => simp [intOf]; omega
      | false =>
        have HS2 : Hid (oldF l s since (ks.take (k + 1)) = m) := hid (by rw [HS.out, hh]; rfl)
        rw [hh] at ch
        clear hh HS
        go_wp2_with (fail)
        refine ch.mono ?_
        rintro e w3 ⟨rfl, hb3⟩
        have B3 := hid (HB.out.trans ((HAL.out.trans (hb3.mono HAL.out.size)).mono HB.out.size))
        clear ch hb3 t0 t1 t2 t3 t4 t5
        go_wp2_with (fail)
        go_roundw
        case rel => exact ⟨k + 1, by omega, by rw [HS2.out], by go_num, B3⟩
        case measure => simp [intOf]; omega
    · have hlt' : ¬ (k : Int) < (ks.length : Int) := by omega
      have HE : Hid (ks.take k = ks) := hid (List.take_of_length_le (by omega))
      rw [HE.out]
      clear HE
      go_wp2
      go_ret
      exact ⟨by rw [HKS.out]; rfl, B2.out.trans (HB.out.mono B2.out.size)⟩
end Go.Proofs.YtdenddknbmiboaaDoor.Lex
