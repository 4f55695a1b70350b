/-
  Does each name mean one thing: the contract of names.Check.
  May flows be so late: the contract of late.Check.
  The twin of a program's rows: new memory, with a mark behind each row.
  All that flows ask for, in a row of its own: the contracts of slices.AppendSeq and slices.Collect over it.
  All wishes in a row: the contract of slices.Collect over them, and of the function that goes through such a row.
  A list that is made greater until it stays: plain mathematics of the function least.
  The function least: its contract.
-/
import Derived.Test.YtmlapodhpinhmaaDoorG5
import Derived.Test.YtmlapodhpinhmaaDoorG3
import Derived.Test.YtmlapodhpinhmaaDoorG4
import Derived.Test.YtmlapodhpinhmaaDoorG2
import Derived.Maps.OwnIn
import Derived.Scope
import Derived.Deep.OwnRows
namespace Go.Proofs.YtmlapodhpinhmaaDoor.Lex
open Go.ChangeShapes Go.WideShapes Go.ChangeAt Go.RowKit Go.Shelf
attribute [local go_sem] Oper.semAt_some
def twice (p : Pg) (s : ByteArray) : Bool := decide (1 < cntT (thingsL p) s.data.toList)
def none_ (p : Pg) (s : ByteArray) : Bool := decide (cntT (thingsL p) s.data.toList = 0)
def told (p : Pg) (s : ByteArray) : Bool := decide (1 < cntO p.outs s.data.toList)
/-- Does each name mean one thing, that is there? -/
def nmOk (p : Pg) : Bool := (thingsL p).all (fun x => !twice p x.2.name) && ((askedL p).all (fun s => !none_ p s) && p.outs.all (fun s => !(none_ p s || told p s)))
def nmErr (p : Pg) : Int := if pgOk p then (if nmOk p then 0 else 6) else 1
theorem pgOk_chk {p : Pg} (h : pgOk p = true) : ∀ f ∈ p.flows, chk f.body = true := fun f hf => by
  unfold pgOk at h
  simp only [Bool.and_eq_true, List.all_eq_true] at h
  have := h.2.2.1 f hf
  unfold flOk at this
  simp only [Bool.and_eq_true] at this
  exact this.2.2
/-- None of them is there twice. -/
def FineT (p : Pg) (pre : List Tg) : Prop := ∀ x ∈ pre, twice p x.1.2.name = false
theorem field61 (a b : Int) (W : World) : (Instr.field 93 (.agg #[.int .i64 a, .int .i64 b]) 0).run Tryd.prog W = .ok (.int .i64 a) W := by kernel_rfl
theorem nmOk_twice {p : Pg} {x : Int × Hd} (hx : x ∈ thingsL p) (h : twice p x.2.name = true) : nmOk p = false := by
  unfold nmOk
  have : (thingsL p).all (fun x => !twice p x.2.name) = false := by rw [List.all_eq_false]; exact ⟨x, hx, by simp [h]⟩
  rw [this]; rfl
theorem nmOk_none {p : Pg} {s : ByteArray} (hx : s ∈ askedL p) (h : none_ p s = true) : nmOk p = false := by
  unfold nmOk
  have : (askedL p).all (fun s => !none_ p s) = false := by rw [List.all_eq_false]; exact ⟨s, hx, by simp [h]⟩
  rw [this, Bool.false_and, Bool.and_false]
theorem nmOk_told {p : Pg} {s : ByteArray} (hx : s ∈ p.outs) (h : (none_ p s || told p s) = true) : nmOk p = false := by
  unfold nmOk
  have : p.outs.all (fun s => !(none_ p s || told p s)) = false := by rw [List.all_eq_false]; exact ⟨s, hx, by rw [h]; simp⟩
  rw [this, Bool.and_false, Bool.and_false]
theorem leave2 {w X : World} {D1 D2 r : Nat} {v : Value} (k2 : X.heap[D2]? = some (.deferred (some []))) (k1 : X.heap[D1]? = some (.deferred (some []))) (hne : D1 < D2) (hw : w.heap.size ≤ D1) (hb : Boxed X r 36 v) (hB : Below w.heap.size w X) :
    (X.putObj D2 (.deferred none)).heap[D1]? = some (.deferred (some [])) ∧ ((X.putObj D2 (.deferred none)).putObj D1 (.deferred none)).cell? ⟨r, 0, none⟩ = some v ∧ Below w.heap.size w ((X.putObj D2 (.deferred none)).putObj D1 (.deferred none)) := by
  have k1' : (X.putObj D2 (.deferred none)).heap[D1]? = some (.deferred (some [])) := ((grownBy_putObj' X D2 (.deferred none)).block D1 (Array.getElem?_eq_some_iff.1 k1).1 (by intro e; injection e with e; omega)).trans k1
  refine ⟨k1', ?_, ?_⟩
  · exact Go.cell_kept (Go.cell_kept hb.cell (grownBy_putObj' _ D2 (.deferred none)) (fun r e => by cases e; exact ⟨_, k2, rfl⟩)) (grownBy_putObj' _ D1 (.deferred none)) (fun r e => by cases e; exact ⟨_, k1', rfl⟩)
  · exact (hB.trans (belowK_b (w := w) (Nat.le_refl _) X D2 _ _ (by omega) k2 rfl rfl)).trans (belowK_b (w := w) (Nat.le_refl _) _ D1 _ _ (by omega) k1' rfl rfl)
/-- What stands while names are looked up. -/
structure CK (w : World) (p : Pg) (c4 : Array Value) (mb vb : Nat) (W : World) : Prop where
  map : ∃ n, TMap W mb n (tly (thingsL p) p.outs)
  var : W.heap[vb]? = some (.cells #[.map (some mb)] 87 (0, 0))
  res : Boxed W (w.heap.size + 1) 36 (.int .i64 0)
  prog : W.heap[w.heap.size]? = some (.cells c4 26 (0, 0))
  below : Below w.heap.size w W
theorem CK.keep {w W W' : World} {p : Pg} {c4 : Array Value} {mb vb : Nat} (h : CK w p c4 mb vb W) (hb : Below W.heap.size W W') : CK w p c4 mb vb W' := by
  obtain ⟨n, hm⟩ := h.map
  exact ⟨⟨n, hm.keep hb⟩, (hb.block _ (Array.getElem?_eq_some_iff.1 h.var).1).trans h.var, (hb.block _ h.res.lt).trans h.res, (hb.block _ (Array.getElem?_eq_some_iff.1 h.prog).1).trans h.prog, h.below.trans (hb.mono h.below.size)⟩
theorem CK.own {w : World} {p : Pg} {c4 : Array Value} {mb vb B0 : Nat} (hmb : mb < B0) (hw : w.heap.size ≤ B0) : OwnFrom B0 (fun (_ : Unit) W => CK w p c4 mb vb W) := fun _ X Y row hs hg hr => by
  obtain ⟨n, hm⟩ := hs.map
  exact ⟨⟨n, hm.kept hg (fun e => by have := (hr _ e.symm).1; omega)⟩, cells_turn hg (fun r e => (hr r e).2) hs.var, box_turn hs.res hg hr, cells_turn hg (fun r e => (hr r e).2) hs.prog,
    (ownFrom_below (w₀ := w) (Nat.le_refl _) hw : OwnFrom B0 (fun (_ : Unit) W => Below w.heap.size w W)) () X Y row hs.below hg hr⟩
set_option maxRecDepth 100000 in
set_option maxHeartbeats 2000000 in
theorem names_check (p : Pg) (w : World) (a b c : Value) (hP : PgAt w p a b c) (hR : TabR w) (hJ : TabJ w) :
    CallsIn Fence.wide 20 Tryd.prog 18 #[pgV p a b c] w fun e W' => e = .returned (.int .i64 (nmErr p)) ∧ Below w.heap.size w W' := by
  have h22 : Fence.wide.fn 42 := trivial
  have h23 : Fence.wide.fn 43 := trivial
  have h24 : Fence.wide.fn 44 := trivial
  have h25 : Fence.wide.fn 45 := trivial
  obtain ⟨a0, a1, rfl, hl1, _, ho1, _⟩ := hP.ins
  obtain ⟨b0, b1, _, rfl, hl2, _, ho2, _⟩ := hP.flows
  obtain ⟨c0, c1, rfl, hl3, _, ho3, hc3⟩ := hP.outs
  have HP := hid hP
  have HC3 := hid hc3
  have HO3 := hid ho3
  have W1B : Below w.heap.size w ((w.alloc (.cells (pgC p (.slice a0 p.ins.length a1) (.slice b0 p.flows.length b1) (.slice c0 p.outs.length c1)) 26)).alloc (.cells #[.int .i64 0] 36)) := ((Below.refl w.heap.size w).alloc (Nat.le_refl _) _).alloc (by simp) _
  have hbp : ((w.alloc (.cells (pgC p (.slice a0 p.ins.length a1) (.slice b0 p.flows.length b1) (.slice c0 p.outs.length c1)) 26)).alloc (.cells #[.int .i64 0] 36)).heap[w.heap.size]? = some (.cells (pgC p (.slice a0 p.ins.length a1) (.slice b0 p.flows.length b1) (.slice c0 p.outs.length c1)) 26 (0, 0)) := by
    rw [Below.heap_alloc _ _ _ (by simp)]; exact heap_alloc_new w _
  have hbr : Boxed ((w.alloc (.cells (pgC p (.slice a0 p.ins.length a1) (.slice b0 p.flows.length b1) (.slice c0 p.outs.length c1)) 26)).alloc (.cells #[.int .i64 0] 36)) (w.heap.size + 1) 36 (.int .i64 0) := by
    have := Boxed.new (w.alloc (.cells (pgC p (.slice a0 p.ins.length a1) (.slice b0 p.flows.length b1) (.slice c0 p.outs.length c1)) 26)) 36 (.int .i64 0)
    simpa using this
  have c22 := (callsIn_wide (n := 19)).2 (prog_check p _ _ _ _ (hP.keep W1B) (hR.below W1B) (hJ.below W1B))
  clear hP hc3 ho1 ho2 ho3 hR hJ
  have x0 : ((w.alloc (.cells (pgC p (.slice a0 p.ins.length a1) (.slice b0 p.flows.length b1) (.slice c0 p.outs.length c1)) 26)).alloc (.cells #[.int .i64 0] 36)).cell? ⟨w.heap.size, 0, none⟩ = some (.int .i64 p.st) := by rw [cell_of_row _ _ _ _ 26 (0, 0) hbp]; rfl
  have x1 : ((w.alloc (.cells (pgC p (.slice a0 p.ins.length a1) (.slice b0 p.flows.length b1) (.slice c0 p.outs.length c1)) 26)).alloc (.cells #[.int .i64 0] 36)).cell? ⟨w.heap.size, 1, none⟩ = some (.slice a0 p.ins.length a1) := by rw [cell_of_row _ _ _ _ 26 (0, 0) hbp]; rfl
  have x2 : ((w.alloc (.cells (pgC p (.slice a0 p.ins.length a1) (.slice b0 p.flows.length b1) (.slice c0 p.outs.length c1)) 26)).alloc (.cells #[.int .i64 0] 36)).cell? ⟨w.heap.size, 2, none⟩ = some (.slice b0 p.flows.length b1) := by rw [cell_of_row _ _ _ _ 26 (0, 0) hbp]; rfl
  have x3 : ((w.alloc (.cells (pgC p (.slice a0 p.ins.length a1) (.slice b0 p.flows.length b1) (.slice c0 p.outs.length c1)) 26)).alloc (.cells #[.int .i64 0] 36)).cell? ⟨w.heap.size, 3, none⟩ = some (.slice c0 p.outs.length c1) := by rw [cell_of_row _ _ _ _ 26 (0, 0) hbp]; rfl
  have HBP := hid hbp
  have HBR := hid hbr
  have HWB := hid W1B
  clear hbp hbr W1B
  refine callsIn_of_wp_marks Tryd.func18 rfl trivial ?_ rfl
  simp only [Tryd.ntmps18, List.size_toArray, List.length_cons, List.length_nil, Nat.reduceAdd, Nat.reduceSub, Array.replicate_succ, Array.replicate_zero, List.push_toArray, List.append_toArray, List.nil_append, List.cons_append]
  cases hk : pgOk p with
  | false =>
    rw [hk] at c22
    have HE : Hid (nmErr p = 1) := hid (by unfold nmErr; rw [hk]; rfl)
    clear hk
    gi_wp2_with (gi_at_call 42; refine c22.mono ?_; rintro e w3 ⟨rfl, hb3⟩; have hr3 : Boxed w3 (w.heap.size + 1) 36 (.int .i64 0) := (hb3.block _ HBR.out.lt).trans HBR.out; have d3 := hr3.cell; have f3 := hr3.frozen; have HR3 := hid hr3; have HB3 := hid hb3; clear hb3 hr3)
    have hr' := HR3.out.set (.int .i64 1)
    have e2 := hr'.cell
    exact ⟨.int .i64 1, by simp [results, Tryd.f18, go_sem, e2], by rw [HE.out], (HWB.out.trans (HB3.out.mono HWB.out.size)).setCell (p := ⟨w.heap.size + 1, 0, none⟩) (by simp) _⟩
  | true =>
    rw [hk] at c22
    have HE : Hid (nmErr p = if nmOk p then 0 else 6) := hid (by unfold nmErr; rw [hk]; rfl)
    have HCK := hid (pgOk_chk hk)
    have hrm : p.ins.length ≤ 64 ∧ p.flows.length ≤ 128 ∧ p.outs.length ≤ p.ins.length + p.flows.length := by
      unfold pgOk roomOk at hk
      simp only [Bool.and_eq_true, decide_eq_true_eq] at hk
      exact hk.1.2
    clear hk
    gi_wp2_with (first
      | (gi_at_call 42; refine c22.mono ?_; rintro e w3 ⟨rfl, hb3⟩; have hp3 := (hb3.block _ (Array.getElem?_eq_some_iff.1 HBP.out).1).trans HBP.out; have hw3 := HWB.out.trans (hb3.mono HWB.out.size)
         have y0 : w3.cell? ⟨w.heap.size, 0, none⟩ = some (.int .i64 p.st) := by rw [cell_of_row _ _ _ _ 26 (0, 0) hp3]; rfl
         have y1 : w3.cell? ⟨w.heap.size, 1, none⟩ = some (.slice a0 p.ins.length a1) := by rw [cell_of_row _ _ _ _ 26 (0, 0) hp3]; rfl
         have y2 : w3.cell? ⟨w.heap.size, 2, none⟩ = some (.slice b0 p.flows.length b1) := by rw [cell_of_row _ _ _ _ 26 (0, 0) hp3]; rfl
         have y3 : w3.cell? ⟨w.heap.size, 3, none⟩ = some (.slice c0 p.outs.length c1) := by rw [cell_of_row _ _ _ _ 26 (0, 0) hp3]; rfl
         have hr3 : Boxed w3 (w.heap.size + 1) 36 (.int .i64 0) := (hb3.block _ HBR.out.lt).trans HBR.out
         have c23 := counted_in Fence.wide 19 trivial trivial trivial rfl (by omega) p w3 _ _ _ (HP.out.keep hw3)
         have HP3 := hid hp3; have HR3 := hid hr3; have HW3 := hid hw3; clear hp3 hr3 hw3 hb3 c22)
      | (gi_at_call 43; refine c23.mono ?_; rintro e w4 ⟨rfl, hm4, hb4⟩; have hp4 := (Below.heap_alloc w4 (.cells #[.map (some (w3.heap.size + 1))] 87) _ (Nat.lt_of_lt_of_le (Array.getElem?_eq_some_iff.1 HP3.out).1 hb4.size)).trans ((hb4.block _ (Array.getElem?_eq_some_iff.1 HP3.out).1).trans HP3.out)
         have z0 : (w4.alloc (.cells #[.map (some (w3.heap.size + 1))] 87)).cell? ⟨w.heap.size, 0, none⟩ = some (.int .i64 p.st) := by rw [cell_of_row _ _ _ _ 26 (0, 0) hp4]; rfl
         have z1 : (w4.alloc (.cells #[.map (some (w3.heap.size + 1))] 87)).cell? ⟨w.heap.size, 1, none⟩ = some (.slice a0 p.ins.length a1) := by rw [cell_of_row _ _ _ _ 26 (0, 0) hp4]; rfl
         have z2 : (w4.alloc (.cells #[.map (some (w3.heap.size + 1))] 87)).cell? ⟨w.heap.size, 2, none⟩ = some (.slice b0 p.flows.length b1) := by rw [cell_of_row _ _ _ _ 26 (0, 0) hp4]; rfl
         have z3 : (w4.alloc (.cells #[.map (some (w3.heap.size + 1))] 87)).cell? ⟨w.heap.size, 3, none⟩ = some (.slice c0 p.outs.length c1) := by rw [cell_of_row _ _ _ _ 26 (0, 0) hp4]; rfl
         have HM4 := hid hm4; have HB4 := hid hb4; have HP4 := hid hp4; clear hm4 hb4 hp4 c23)
      | (gi_at_call 44; refine (things Fence.wide 19 trivial rfl p _ _ _ _).mono ?_; rintro e w' ⟨rfl, rfl⟩))
    clear y0 y1 y2 y3 z0 z1 z2 z3 x0 x1 x2 x3
    have hm4 := HM4.out
    have hlt4 := hm4.lt
    have hsz : ((w4.alloc (.cells #[.map (some (w3.heap.size + 1))] 87)).alloc (.cells (pgC p (.slice a0 p.ins.length a1) (.slice b0 p.flows.length b1) (.slice c0 p.outs.length c1)) 26)).heap.size = w4.heap.size + 2 := by simp
    have g1 := World.grownBy_alloc w4 (.cells #[.map (some (w3.heap.size + 1))] 87) none
    have g2 := World.grownBy_alloc (w4.alloc (.cells #[.map (some (w3.heap.size + 1))] 87)) (.cells (pgC p (.slice a0 p.ins.length a1) (.slice b0 p.flows.length b1) (.slice c0 p.outs.length c1)) 26) none
    have hw3 := HW3.out.size
    have hr4 : Boxed w4 (w.heap.size + 1) 36 (.int .i64 0) := (HB4.out.block _ HR3.out.lt).trans HR3.out
    have ck0 : CK w p (pgC p (.slice a0 p.ins.length a1) (.slice b0 p.flows.length b1) (.slice c0 p.outs.length c1)) (w3.heap.size + 1) w4.heap.size ((w4.alloc (.cells #[.map (some (w3.heap.size + 1))] 87)).alloc (.cells (pgC p (.slice a0 p.ins.length a1) (.slice b0 p.flows.length b1) (.slice c0 p.outs.length c1)) 26)) :=
      ⟨⟨_, (hm4.kept g1 (by simp)).kept g2 (by simp)⟩, (Below.heap_alloc _ _ _ (by simp)).trans (heap_alloc_new w4 _), (hr4.alloc _).alloc _, (Below.heap_alloc _ _ _ (Array.getElem?_eq_some_iff.1 HP4.out).1).trans HP4.out, (((HW3.out.trans (HB4.out.mono hw3)).alloc (by have := HB4.out.size; omega) _).alloc (by have := HB4.out.size; simp; omega) _)⟩
    have q0 : ((w4.alloc (.cells #[.map (some (w3.heap.size + 1))] 87)).alloc (.cells (pgC p (.slice a0 p.ins.length a1) (.slice b0 p.flows.length b1) (.slice c0 p.outs.length c1)) 26)).heap[w4.heap.size + 1]? = some (.cells (pgC p (.slice a0 p.ins.length a1) (.slice b0 p.flows.length b1) (.slice c0 p.outs.length c1)) 26 (0, 0)) := by
      have := heap_alloc_new (w4.alloc (.cells #[.map (some (w3.heap.size + 1))] 87)) (.cells (pgC p (.slice a0 p.ins.length a1) (.slice b0 p.flows.length b1) (.slice c0 p.outs.length c1)) 26)
      simpa using this
    have hr3l := HR3.out.lt
    obtain ⟨W0, hW0⟩ : ∃ W0, ((w4.alloc (.cells #[.map (some (w3.heap.size + 1))] 87)).alloc (.cells (pgC p (.slice a0 p.ins.length a1) (.slice b0 p.flows.length b1) (.slice c0 p.outs.length c1)) 26)) = W0 := ⟨_, rfl⟩
    rw [hW0] at hsz ck0 q0 ⊢
    clear hW0 g1 g2 hm4 hr4 HM4 HB4 HP4 HP3 HR3 HW3 HBP HBR HWB
    obtain ⟨mb, hmb⟩ : ∃ mb, w3.heap.size + 1 = mb := ⟨_, rfl⟩
    obtain ⟨vb, hvb⟩ : ∃ vb, w4.heap.size = vb := ⟨_, rfl⟩
    have hrb : w.heap.size + 1 < mb := by omega
    rw [hmb] at hlt4 ck0 ⊢
    rw [hvb] at hlt4 ck0 q0 hsz ⊢
    clear hmb hvb hr3l hw3
    refine wpIn_rangeFunc_ownH rfl (by omega) (gf := 69) (lb := #[.pointer (some ⟨vb + 1, 0, none⟩)]) rfl trivial (enters_of Tryd.func69 (by kernel_rfl) rfl)
      (things_stops2 Fence.wide 19 trivial rfl (by omega) (vb + 1) p _ _ _ w W0 HP.out ck0.below q0) KpT.trans (fun W l o o' hl ho hc hw => ⟨belowK_b (w := W0) (by omega) W l o o' hl ho hc hw, (grownBy_putObj' W l o').block _ (by have := (Array.getElem?_eq_some_iff.1 ho).1; omega) (by intro e; injection e with e; omega)⟩) (Below.refl _ _) (fun _ => rfl)
      (fun pre W => FineT p pre ∧ (CK w p (pgC p (.slice a0 p.ins.length a1) (.slice b0 p.flows.length b1) (.slice c0 p.outs.length c1)) mb vb W ∧ W0.heap.size ≤ W.heap.size))
      (fun c pre W => ∃ (q : List Tg) (x : Tg), (c = .ret ∧ pre = q ++ [x] ∧ twice p x.1.2.name = true) ∧ Boxed W (w.heap.size + 1) 36 (.int .i64 6) ∧ Below w.heap.size w W)
      (fun pre X Y row hs hg hr => ⟨hs.1, CK.own (by omega) (by omega) () X Y row hs.2.1 hg hr, Nat.le_trans hs.2.2 hg.size⟩)
      (fun c pre X Y row hs hg hr => by
        obtain ⟨q, x, e, e2, e3⟩ := hs
        exact ⟨q, x, e, box_turn e2 hg hr, (ownFrom_below (w₀ := w) (Nat.le_refl _) (by omega) : OwnFrom W0.heap.size (fun (_ : Unit) W => Below w.heap.size w W)) () X Y row e3 hg hr⟩)
      ⟨(fun _ h => by cases h), ck0, Nat.le_refl _⟩
      (fun x a' W => ∃ Bx, W0.heap.size ≤ Bx ∧ W.heap[Bx]? = some (.cells #[.string x.1.2.name, .int .u8 (x.1.2.ty : Int), .int .i64 x.1.2.st] 59 (0, 0)) ∧ a' = { tmps := #[pgV p (.slice a0 p.ins.length a1) (.slice b0 p.flows.length b1) (.slice c0 p.outs.length c1), .pointer (some ⟨w.heap.size, 0, none⟩), .pointer (some ⟨w.heap.size + 1, 0, none⟩), .pointer (some ⟨vb, 0, none⟩), undef, .pointer (some ⟨Bx, 0, none⟩), undef, undef, undef, undef, pgV p (.slice a0 p.ins.length a1) (.slice b0 p.flows.length b1) (.slice c0 p.outs.length c1), .bool true, .bool false, pgV p (.slice a0 p.ins.length a1) (.slice b0 p.flows.length b1) (.slice c0 p.outs.length c1), .map (some mb), pgV p (.slice a0 p.ins.length a1) (.slice b0 p.flows.length b1) (.slice c0 p.outs.length c1), .func (.func 69) #[] #[.pointer (some ⟨vb + 1, 0, none⟩)], .int .i64 x.1.1, hdV x.1.2, undef, undef, undef, undef, undef, undef, undef, undef, undef, undef, undef, undef, undef, undef, undef, undef, undef, undef, undef, undef, undef, undef, undef, undef, undef, undef, undef, undef, undef, undef, undef, undef, undef], defers := [] })
      (fun x a' _ X Y row hs hg hr => by obtain ⟨Bx, e1, e2, e3⟩ := hs; exact ⟨Bx, e1, cells_turn hg (fun r e => (hr r e).2) e2, e3⟩)
      ?assign ?body ?done ?stop
    case assign =>
      rintro l pre x W K ⟨hf, ck, hz⟩ hK
      gi_wp2
      exact hK _ _ ((KeepsOthers.alloc _ _).from _) ⟨(Below.refl _ W).alloc (by omega) _, Below.heap_alloc _ _ _ (by omega)⟩ ⟨hf, ck.keep ((Below.refl _ W).alloc (Nat.le_refl _) _), by simp; omega⟩ ⟨W.heap.size, hz, World.alloc_heap_new W _, rfl⟩
    case body =>
      rintro l pre x a' W hl _ ⟨hf, ck, hz⟩ ⟨Bx, hBx, hRow, rfl⟩ hlt
      have cV : W.cell? ⟨vb, 0, none⟩ = some (.map (some mb)) := by rw [cell_of_row _ _ _ _ 87 (0, 0) ck.var]; rfl
      have cN : W.cell? ⟨Bx, 0, none⟩ = some (.string x.1.2.name) := by rw [cell_of_row _ _ _ _ 59 (0, 0) hRow]; rfl
      have d3 := ck.res.cell
      have f3 := ck.res.frozen
      obtain ⟨nM, hM⟩ := ck.map
      have hlk := hM.look x.2
      have htl : tly (thingsL p) p.outs x.1.2.name.data.toList = ((cntT (thingsL p) x.1.2.name.data.toList : Int), (cntO p.outs x.1.2.name.data.toList : Int)) := rfl
      rw [htl] at hlk
      have HT : Hid (twice p x.1.2.name = decide (1 < cntT (thingsL p) x.1.2.name.data.toList)) := hid rfl
      generalize cntT (thingsL p) x.1.2.name.data.toList = N at *
      generalize cntO p.outs x.1.2.name.data.toList = M at *
      have HC := hid ck
      have HF := hid hf
      clear ck hM hRow htl hf
      dsimp only [tlV] at hlk
      have hfd := field61
      by_cases hN : 1 < N
      · have hN1 : (1 : Int) < (N : Int) := by omega
        gi_wp2_with (gi_at_lookup; refine wpListIn_look rfl (.tmp 19) (.tmp 21) 87 rfl _ hlk ?_)
        exact ⟨(KeepsOthers.setCell _ _ _).from _, pre, x, ⟨rfl, rfl, by rw [HT.out]; simpa using hN⟩, HC.out.res.set _, HC.out.below.setCell (p := ⟨w.heap.size + 1, 0, none⟩) (by simp) _⟩
      · have hN1 : ¬ (1 : Int) < (N : Int) := by omega
        gi_wp2_with (gi_at_lookup; refine wpListIn_look rfl (.tmp 19) (.tmp 21) 87 rfl _ hlk ?_)
        refine ⟨KeepsFrom.refl _ _, ⟨Below.refl _ _, rfl⟩, fun y hy => ?_, HC.out, by omega⟩
        rcases List.mem_append.1 hy with hy | hy
        · exact HF.out y hy
        · simp only [List.mem_singleton] at hy
          rw [hy, HT.out]; simpa using hN
    case done =>
      rintro D1 ys W hD hys ⟨hf, ck, hz⟩ hK
      have HT1 : Hid ((thingsL p).all (fun x => !twice p x.2.name) = true) := hid (by
        rw [List.all_eq_true]
        intro x hx
        rw [← hys] at hx
        obtain ⟨y, hy, rfl⟩ := List.mem_map.1 hx
        simp [hf y hy])
      clear hf hys ck0 q0
      have s0 : W.cell? ⟨w.heap.size, 0, none⟩ = some (.int .i64 p.st) := by rw [cell_of_row _ _ _ _ 26 (0, 0) ck.prog]; rfl
      have s1 : W.cell? ⟨w.heap.size, 1, none⟩ = some (.slice a0 p.ins.length a1) := by rw [cell_of_row _ _ _ _ 26 (0, 0) ck.prog]; rfl
      have s2 : W.cell? ⟨w.heap.size, 2, none⟩ = some (.slice b0 p.flows.length b1) := by rw [cell_of_row _ _ _ _ 26 (0, 0) ck.prog]; rfl
      have s3 : W.cell? ⟨w.heap.size, 3, none⟩ = some (.slice c0 p.outs.length c1) := by rw [cell_of_row _ _ _ _ 26 (0, 0) ck.prog]; rfl
      have hal : Below W.heap.size W (W.alloc (.cells (pgC p (.slice a0 p.ins.length a1) (.slice b0 p.flows.length b1) (.slice c0 p.outs.length c1)) 26)) := (Below.refl _ W).alloc (Nat.le_refl _) _
      have ck1 := ck.keep hal
      have q1 := heap_alloc_new W (.cells (pgC p (.slice a0 p.ins.length a1) (.slice b0 p.flows.length b1) (.slice c0 p.outs.length c1)) 26)
      have hD1 := (Array.getElem?_eq_some_iff.1 hK).1
      have hK1 := (Below.heap_alloc W (.cells (pgC p (.slice a0 p.ins.length a1) (.slice b0 p.flows.length b1) (.slice c0 p.outs.length c1)) 26) _ hD1).trans hK
      have hsz5 : (W.alloc (.cells (pgC p (.slice a0 p.ins.length a1) (.slice b0 p.flows.length b1) (.slice c0 p.outs.length c1)) 26)).heap.size = W.heap.size + 1 := by simp
      have CK1 := hid ck1
      have Q1 := hid q1
      have HK1 := hid hK1
      have HSZ5 := hid hsz5
      clear ck ck1 q1 hK hK1 hsz5 hal
      gi_wp2_with (gi_at_call 45; refine (asked 19 p _ _ _ _).mono ?_; rintro e w' ⟨rfl, rfl⟩)
      clear s0 s1 s2 s3
      obtain ⟨W5, hW5⟩ : ∃ W5, (W.alloc (.cells (pgC p (.slice a0 p.ins.length a1) (.slice b0 p.flows.length b1) (.slice c0 p.outs.length c1)) 26)) = W5 := ⟨_, rfl⟩
      obtain ⟨bn, hbn⟩ : ∃ bn, W.heap.size = bn := ⟨_, rfl⟩
      rw [hW5] at CK1 Q1 HK1 HSZ5 ⊢
      rw [hbn] at hz hD1 Q1 HSZ5 ⊢
      clear hW5 hbn
      have ck1 := CK1.out
      have q1 := Q1.out
      have hK1 := HK1.out
      have hsz5 := HSZ5.out
      refine wpIn_rangeFunc_ownH rfl (by omega) (gf := 70) (lb := #[.pointer (some ⟨bn, 0, none⟩)]) rfl trivial (enters_of Tryd.func70 (by kernel_rfl) rfl)
        (asked_stops 19 (by omega) bn p _ _ _ w W5 HP.out HCK.out ck1.below q1) KpA.trans (fun W l o o' hl ho hc hw => ⟨belowK_b (w := W5) (by omega) W l o o' hl ho hc hw, fun a v e => Go.cell_kept e (grownBy_putObj' W l o') (fun r e => by cases e; exact ⟨_, ho, hc⟩)⟩) (Below.refl _ _) (fun _ => rfl)
        (fun pre V => (∀ x ∈ pre, none_ p x.1 = false) ∧ (CK w p (pgC p (.slice a0 p.ins.length a1) (.slice b0 p.flows.length b1) (.slice c0 p.outs.length c1)) mb vb V ∧ V.heap[D1]? = some (.deferred (some []))))
        (fun c pre V => ∃ (q : List Ts) (x : Ts), (c = .ret ∧ pre = q ++ [x] ∧ none_ p x.1 = true) ∧ Boxed V (w.heap.size + 1) 36 (.int .i64 6) ∧ Below w.heap.size w V ∧ V.heap[D1]? = some (.deferred (some [])))
        (fun pre X Y row hs hg hr => ⟨hs.1, CK.own (by omega) (by omega) () X Y row hs.2.1 hg hr, (hg.block D1 (Array.getElem?_eq_some_iff.1 hs.2.2).1 (fun e => by have := (hr _ e.symm).1; omega)).trans hs.2.2⟩)
        (fun c pre X Y row hs hg hr => by
          obtain ⟨q, x, e, e2, e3, e4⟩ := hs
          exact ⟨q, x, e, box_turn e2 hg hr, (ownFrom_below (w₀ := w) (Nat.le_refl _) (by omega) : OwnFrom W5.heap.size (fun (_ : Unit) W => Below w.heap.size w W)) () X Y row e3 hg hr, (hg.block D1 (Array.getElem?_eq_some_iff.1 e4).1 (fun e => by have := (hr _ e.symm).1; omega)).trans e4⟩)
        ⟨(by simp), ck1, hK1⟩
        (fun x a' V => a' = { tmps := #[pgV p (.slice a0 p.ins.length a1) (.slice b0 p.flows.length b1) (.slice c0 p.outs.length c1), .pointer (some ⟨w.heap.size, 0, none⟩), .pointer (some ⟨w.heap.size + 1, 0, none⟩), .pointer (some ⟨vb, 0, none⟩), undef, undef, .string x.1, undef, undef, undef, pgV p (.slice a0 p.ins.length a1) (.slice b0 p.flows.length b1) (.slice c0 p.outs.length c1), .bool true, .bool false, pgV p (.slice a0 p.ins.length a1) (.slice b0 p.flows.length b1) (.slice c0 p.outs.length c1), .map (some mb), pgV p (.slice a0 p.ins.length a1) (.slice b0 p.flows.length b1) (.slice c0 p.outs.length c1), .func (.func 69) #[] #[.pointer (some ⟨vb + 1, 0, none⟩)], undef, undef, undef, undef, undef, undef, undef, undef, pgV p (.slice a0 p.ins.length a1) (.slice b0 p.flows.length b1) (.slice c0 p.outs.length c1), .func (.func 70) #[] #[.pointer (some ⟨bn, 0, none⟩)], .string x.1, undef, undef, undef, undef, undef, undef, undef, undef, undef, undef, undef, undef, undef, undef, undef, undef, undef, undef, undef, undef, undef, undef, undef, undef], defers := [] })
        (fun x a' _ X Y row hs hg hr => hs)
        ?assign2 ?body2 ?done2 ?stop2
      case assign2 =>
        rintro l pre x V K hI hK
        gi_wp2
        exact hK _ _ (KeepsFrom.refl _ _) ⟨Below.refl _ _, fun _ _ h => h⟩ hI rfl
      case body2 =>
        rintro l pre x a' V hl _ ⟨hf, ck, hk1⟩ rfl hlt
        have cV : V.cell? ⟨vb, 0, none⟩ = some (.map (some mb)) := by rw [cell_of_row _ _ _ _ 87 (0, 0) ck.var]; rfl
        have d3 := ck.res.cell
        have f3 := ck.res.frozen
        obtain ⟨nM, hM⟩ := ck.map
        have hlk := hM.look x.2
        have htl : tly (thingsL p) p.outs x.1.data.toList = ((cntT (thingsL p) x.1.data.toList : Int), (cntO p.outs x.1.data.toList : Int)) := rfl
        rw [htl] at hlk
        have HT : Hid (none_ p x.1 = decide (cntT (thingsL p) x.1.data.toList = 0)) := hid rfl
        generalize cntT (thingsL p) x.1.data.toList = N at *
        generalize cntO p.outs x.1.data.toList = M at *
        have HC := hid ck
        have HF := hid hf
        have HK0 := hid hk1
        clear ck hM htl hf hk1
        dsimp only [tlV] at hlk
        have hfd := field61
        by_cases hN : N = 0
        · have hN1 : ((N : Int) == 0) = true := by simp [hN]
          have HN := hid hN
          clear hN
          gi_wp2_with (gi_at_lookup; refine wpListIn_look rfl (.tmp 28) (.tmp 29) 87 rfl _ hlk ?_)
          exact ⟨(KeepsOthers.setCell _ _ _).from _, pre, x, ⟨rfl, rfl, by rw [HT.out]; simpa using HN.out⟩, HC.out.res.set _, HC.out.below.setCell (p := ⟨w.heap.size + 1, 0, none⟩) (by simp) _, ((KeepsOthers.setCell _ _ _).same _ _ HK0.out rfl)⟩
        · have hN1 : ((N : Int) == 0) = false := by simp [hN]
          have HN := hid hN
          clear hN
          gi_wp2_with (gi_at_lookup; refine wpListIn_look rfl (.tmp 28) (.tmp 29) 87 rfl _ hlk ?_)
          refine ⟨KeepsFrom.refl _ _, ⟨Below.refl _ _, fun _ _ h => h⟩, fun y hy => ?_, HC.out, HK0.out⟩
          rcases List.mem_append.1 hy with hy | hy
          · exact HF.out y hy
          · simp only [List.mem_singleton] at hy
            rw [hy, HT.out]; simpa using HN.out
      case done2 =>
        rintro D2 ys V hD2 hys ⟨hf, ck, hk1⟩ hk2
        have HT2 : Hid ((askedL p).all (fun s => !none_ p s) = true) := hid (by
          rw [List.all_eq_true]
          intro s hs
          rw [← hys] at hs
          obtain ⟨y, hy, rfl⟩ := List.mem_map.1 hs
          simp [hf y hy])
        clear hf hys ck1 q1 hK1 CK1 Q1 HK1
        have cP : V.cell? ⟨w.heap.size, 3, none⟩ = some (.slice c0 p.outs.length c1) := by rw [cell_of_row _ _ _ _ 26 (0, 0) ck.prog]; rfl
        have HC := hid ck
        have HK1 := hid hk1
        have HK2 := hid hk2
        clear ck hk1 hk2
        gi_wp2
        gi_loopw [36] (fun i wr => ∃ k : Nat, k ≤ p.outs.length ∧ i = .int .i64 (k : Int) ∧ Hid ((p.outs.take k).all (fun s => !(none_ p s || told p s)) = true) ∧ Hid (Below V.heap.size V wr)) (fun i wr => p.outs.length - (intOf i).toNat)
        case atStart => exact ⟨0, Nat.zero_le _, rfl, hid rfl, hid (Below.refl _ _)⟩
        case round =>
          obtain ⟨k, hk, rfl, hA, hB⟩ := hrel
          have ck := HC.out.keep hB.out
          by_cases hlt : k < p.outs.length
          · have hlt' : (k : Int) < (p.outs.length : Int) := by omega
            have hk0 : (0 : Int) ≤ (k : Int) := by omega
            obtain ⟨bb, o, rfl, hcc⟩ := HC3.out.resolve_left (by omega)
            have v0 := cell_kept (hcc k hlt) ck.below
            have hy := HO3.out p.outs[k] (List.getElem_mem hlt)
            have HM : Hid (p.outs[k] ∈ p.outs) := hid (List.getElem_mem hlt)
            have cV : wr.cell? ⟨vb, 0, none⟩ = some (.map (some mb)) := by rw [cell_of_row _ _ _ _ 87 (0, 0) ck.var]; rfl
            obtain ⟨nM, hM⟩ := ck.map
            have hlk := hM.look hy
            have htl : tly (thingsL p) p.outs p.outs[k].data.toList = ((cntT (thingsL p) p.outs[k].data.toList : Int), (cntO p.outs p.outs[k].data.toList : Int)) := rfl
            rw [htl] at hlk
            have HN : Hid (none_ p p.outs[k] = decide (cntT (thingsL p) p.outs[k].data.toList = 0)) := hid rfl
            have HO : Hid (told p p.outs[k] = decide (1 < cntO p.outs p.outs[k].data.toList)) := hid rfl
            have HTK : Hid ((none_ p p.outs[k] || told p p.outs[k]) = false → (p.outs.take (k + 1)).all (fun s => !(none_ p s || told p s)) = true) := hid (fun h => by
              rw [List.take_succ_eq_append_getElem hlt, List.all_append, hA.out, Bool.true_and]
              simp only [List.all_cons, List.all_nil, Bool.and_true]
              rw [h]; rfl)
            clear hcc htl hM hy
            generalize p.outs[k] = y at *
            generalize cntT (thingsL p) y.data.toList = N at *
            generalize cntO p.outs y.data.toList = M at *
            have hB1 := hB.out.alloc hB.out.size (.cells #[.int .i64 (N : Int), .int .i64 (M : Int)] 93)
            have hr1 := ck.res.alloc (.cells #[.int .i64 (N : Int), .int .i64 (M : Int)] 93)
            have d3 := hr1.cell
            have f3 := hr1.frozen
            have HB1 := hid hB1
            have HR1 := hid hr1
            clear hB1 hr1 ck
            dsimp only [tlV] at hlk
            by_cases hg : (none_ p y || told p y) = true
            · have HG := hid (nmOk_told HM.out hg)
              have hor : ((N : Int) == 0) = true ∨ (((N : Int) == 0) = false ∧ (1 : Int) < (M : Int)) := by
                rw [HN.out, HO.out] at hg
                by_cases hN0 : N = 0
                · exact .inl (by simp [hN0])
                · refine .inr ⟨by simp [hN0], ?_⟩
                  simp [hN0] at hg
                  omega
              clear hg
              rcases hor with hN1 | ⟨hN1, hM1⟩
              · gi_wp2_with (gi_at_lookup; refine wpListIn_look rfl (.tmp 40) (.tmp 41) 87 rfl _ hlk ?_)
                obtain ⟨l1, l2, l3⟩ := leave2 (w := w) (v := .int .i64 6) ((KeepsOthers.setCell _ _ _).same _ _ ((HB1.out.block _ (Array.getElem?_eq_some_iff.1 HK2.out).1).trans HK2.out) rfl) ((KeepsOthers.setCell _ _ _).same _ _ ((HB1.out.block _ (Array.getElem?_eq_some_iff.1 HK1.out).1).trans HK1.out) rfl) (by omega) (by omega) (HR1.out.set (.int .i64 6)) ((HC.out.below.trans (HB1.out.mono HC.out.below.size)).setCell (p := ⟨w.heap.size + 1, 0, none⟩) (by simp) _)
                refine ⟨by simp, .inl ⟨_, _, rfl, run_takeDeferred ((KeepsOthers.setCell _ _ _).same _ _ ((HB1.out.block _ (Array.getElem?_eq_some_iff.1 HK2.out).1).trans HK2.out) rfl), ⟨by simp, .inl ⟨_, _, rfl, run_takeDeferred l1, ?_⟩⟩⟩⟩
                exact ⟨.int .i64 6, by simp [results, Tryd.f18, go_sem, l2], by rw [HE.out, HG.out]; rfl, l3⟩
              · gi_wp2_with (gi_at_lookup; refine wpListIn_look rfl (.tmp 40) (.tmp 41) 87 rfl _ hlk ?_)
                obtain ⟨l1, l2, l3⟩ := leave2 (w := w) (v := .int .i64 6) ((KeepsOthers.setCell _ _ _).same _ _ ((HB1.out.block _ (Array.getElem?_eq_some_iff.1 HK2.out).1).trans HK2.out) rfl) ((KeepsOthers.setCell _ _ _).same _ _ ((HB1.out.block _ (Array.getElem?_eq_some_iff.1 HK1.out).1).trans HK1.out) rfl) (by omega) (by omega) (HR1.out.set (.int .i64 6)) ((HC.out.below.trans (HB1.out.mono HC.out.below.size)).setCell (p := ⟨w.heap.size + 1, 0, none⟩) (by simp) _)
                refine ⟨by simp, .inl ⟨_, _, rfl, run_takeDeferred ((KeepsOthers.setCell _ _ _).same _ _ ((HB1.out.block _ (Array.getElem?_eq_some_iff.1 HK2.out).1).trans HK2.out) rfl), ⟨by simp, .inl ⟨_, _, rfl, run_takeDeferred l1, ?_⟩⟩⟩⟩
                exact ⟨.int .i64 6, by simp [results, Tryd.f18, go_sem, l2], by rw [HE.out, HG.out]; rfl, l3⟩
            · have hg0 : (none_ p y || told p y) = false := by simpa using hg
              have HG := hid (HTK.out hg0)
              have hor : ((N : Int) == 0) = false ∧ ¬ (1 : Int) < (M : Int) := by
                rw [HN.out, HO.out] at hg0
                simp at hg0
                exact ⟨by simp; omega, by omega⟩
              clear hg hg0
              obtain ⟨hN1, hM1⟩ := hor
              gi_wp2_with (gi_at_lookup; refine wpListIn_look rfl (.tmp 40) (.tmp 41) 87 rfl _ hlk ?_)
              go_roundw
              case rel => exact ⟨k + 1, by omega, by go_num, HG, HB1⟩
              case measure => simp [intOf]; omega
          · have hlt' : ¬ (k : Int) < (p.outs.length : Int) := by omega
            have HN : Hid (nmOk p = true) := hid (by
              have h3 := hA.out
              rw [List.take_of_length_le (by omega)] at h3
              unfold nmOk
              rw [HT1.out, HT2.out, h3]; rfl)
            have d3 := ck.res.cell
            have f3 := ck.res.frozen
            have HR1 := hid ck.res
            clear ck
            gi_wp2
            obtain ⟨l1, l2, l3⟩ := leave2 (w := w) (v := .int .i64 0) ((KeepsOthers.setCell _ _ _).same _ _ ((hB.out.block _ (Array.getElem?_eq_some_iff.1 HK2.out).1).trans HK2.out) rfl) ((KeepsOthers.setCell _ _ _).same _ _ ((hB.out.block _ (Array.getElem?_eq_some_iff.1 HK1.out).1).trans HK1.out) rfl) (by omega) (by omega) (HR1.out.set (.int .i64 0)) ((HC.out.below.trans (hB.out.mono HC.out.below.size)).setCell (p := ⟨w.heap.size + 1, 0, none⟩) (by simp) _)
            refine ⟨by simp, .inl ⟨_, _, rfl, run_takeDeferred ((KeepsOthers.setCell _ _ _).same _ _ ((hB.out.block _ (Array.getElem?_eq_some_iff.1 HK2.out).1).trans HK2.out) rfl), ⟨by simp, .inl ⟨_, _, rfl, run_takeDeferred l1, ?_⟩⟩⟩⟩
            exact ⟨.int .i64 0, by simp [results, Tryd.f18, go_sem, l2], by rw [HE.out, HN.out]; rfl, l3⟩
      case stop2 =>
        rintro D2 c pre V hD2 hpre ⟨q, x, ⟨rfl, rfl, hx⟩, hr, hB1, hk1⟩ hK2
        have HN := hid (nmOk_none (hpre.subset (by simp)) hx)
        clear hpre hx
        gi_wp2
        obtain ⟨l1, l2, l3⟩ := leave2 hK2 hk1 (by omega) (by omega) hr hB1
        refine ⟨by simp, .inl ⟨_, _, rfl, run_takeDeferred hK2, ⟨by simp, .inl ⟨_, _, rfl, run_takeDeferred l1, ?_⟩⟩⟩⟩
        exact ⟨.int .i64 6, by simp [results, Tryd.f18, go_sem, l2], by rw [HE.out, HN.out]; rfl, l3⟩
    case stop =>
      rintro D1 c pre W hD hpre ⟨q, x, ⟨rfl, rfl, hx⟩, hr, hB1⟩ hK
      have HN := hid (nmOk_twice (hpre.subset (by simp)) hx)
      clear hpre hx
      gi_wp2
      refine ⟨by simp, .inl ⟨_, _, rfl, run_takeDeferred hK, ?_⟩⟩
      have e2 : (W.putObj D1 (.deferred none)).cell? ⟨w.heap.size + 1, 0, none⟩ = some (.int .i64 6) := Go.cell_kept hr.cell (grownBy_putObj' _ D1 (.deferred none)) (fun r e => by cases e; exact ⟨_, hK, rfl⟩)
      exact ⟨.int .i64 6, by simp [results, Tryd.f18, go_sem, e2], by rw [HE.out, HN.out]; rfl, hB1.trans (belowK_b (w := w) (Nat.le_refl _) W D1 _ _ (by omega) hK rfl rfl)⟩
end Go.Proofs.YtmlapodhpinhmaaDoor.Lex
namespace Go.Proofs.YtmlapodhpinhmaaDoor.Lex
open Go.ChangeShapes Go.WideShapes Go.ChangeAt Go.RowKit Go.Joins
attribute [local go_sem] Oper.semAt_some
def agesOk (p : Pg) (l : List Int) : Bool := (allL p).all (fun x => decide (0 ≤ ageV l x))
/-- Flows may be so late. -/
def lateOk (p : Pg) (l : List Int) : Bool := decide (nmErr p = 0) && (decide (l.length = p.flows.length) && (!anyOut l && agesOk p l))
theorem mild_of {l : List Int} (h : anyOut l = false) : Mild l := by
  intro a ha
  unfold anyOut at h
  rw [List.any_eq_false] at h
  have := h a ha
  unfold outB at this
  simp at this
  omega
theorem nm_chk {p : Pg} (h : nmErr p = 0) : ∀ f ∈ p.flows, chk f.body = true := by
  unfold nmErr at h
  split at h
  · rename_i hk; exact pgOk_chk hk
  · simp at h
theorem leave1 {w X : World} {D r t : Nat} {v : Value} (k : X.heap[D]? = some (.deferred (some []))) (hw : w.heap.size ≤ D) (hb : Boxed X r t v) (hB : Below w.heap.size w X) :
    (X.putObj D (.deferred none)).cell? ⟨r, 0, none⟩ = some v ∧ Below w.heap.size w (X.putObj D (.deferred none)) :=
  ⟨Go.cell_kept hb.cell (grownBy_putObj' X D (.deferred none)) (fun r e => by cases e; exact ⟨_, k, rfl⟩), hB.trans (belowK_b (w := w) (Nat.le_refl _) X D _ _ (by omega) k rfl rfl)⟩
/-- What holds between two rounds. -/
structure CkI (w : World) (l : List Int) (v : Value) (pre : List Wi) (V : World) : Prop where
  pos : ∀ x ∈ pre, 0 ≤ ageV l x
  res : Boxed V (w.heap.size + 1 + 1) 4 (.bool false)
  row : V.heap[w.heap.size + 1]? = some (.cells #[v] 27 (0, 0))
  below : Below w.heap.size w V
theorem CkI.far {w A C : World} {l : List Int} {v : Value} {pre : List Wi} {B : Nat} {T : Bl} (h : CkI w l v pre A) (hf : Far B T A C) (hB : w.heap.size + 3 ≤ B) : CkI w l v pre C :=
  ⟨h.pos, (hf.block _ h.res.lt (.inl (by omega))).trans h.res, (hf.block _ (Array.getElem?_eq_some_iff.1 h.row).1 (.inl (by omega))).trans h.row, h.below.trans ⟨hf.os, hf.tape, hf.output, hf.size, fun b hb => hf.block b (by have := h.below.size; omega) (.inl (by omega))⟩⟩
set_option maxRecDepth 100000 in
set_option maxHeartbeats 2000000 in
theorem check_ (p : Pg) (l : List Int) (v : Value) (w : World) (a b c : Value) (hP : PgAt w p a b c) (hI : IAt w l v) (hR : TabR w) (hJ : TabJ w) :
    CallsIn Fence.wide 20 Tryd.prog 13 #[pgV p a b c, v] w fun e W' => e = .returned (.bool (lateOk p l)) ∧ Below w.heap.size w W' := by
  have hI' := hI
  obtain ⟨a0, a1, rfl, hl1, _⟩ := hP.ins
  obtain ⟨b0, b1, _, rfl, hl2, _⟩ := hP.flows
  obtain ⟨c0, c1, rfl, hl3, _⟩ := hP.outs
  obtain ⟨ao, cap, rfl, ⟨hcap, hlen⟩, _⟩ := hI
  have HP := hid hP
  have HI := hid hI'
  have B1 := (Below.refl w.heap.size w).alloc (Nat.le_refl _) (.cells (pgC p (.slice a0 p.ins.length a1) (.slice b0 p.flows.length b1) (.slice c0 p.outs.length c1)) 26)
  have B2 := B1.alloc B1.size (.cells #[.slice ao l.length cap] 27)
  have B3 := B2.alloc B2.size (.cells #[.bool false] 4)
  obtain ⟨w3, hw3⟩ : ∃ w3, w3 = ((w.alloc (.cells (pgC p (.slice a0 p.ins.length a1) (.slice b0 p.flows.length b1) (.slice c0 p.outs.length c1)) 26)).alloc (.cells #[.slice ao l.length cap] 27)).alloc (.cells #[.bool false] 4) := ⟨_, rfl⟩
  have hb3 : Below w.heap.size w w3 := by rw [hw3]; exact B3
  have hs3 : w3.heap.size = w.heap.size + 3 := by rw [hw3]; simp
  have r0 : w3.heap[w.heap.size]? = some (.cells (pgC p (.slice a0 p.ins.length a1) (.slice b0 p.flows.length b1) (.slice c0 p.outs.length c1)) 26 (0, 0)) := by rw [hw3, Below.heap_alloc _ _ _ (by simp; omega), Below.heap_alloc _ _ _ (by simp)]; exact heap_alloc_new w _
  have r1 : w3.heap[w.heap.size + 1]? = some (.cells #[.slice ao l.length cap] 27 (0, 0)) := by
    rw [hw3, Below.heap_alloc _ _ _ (by simp)]
    have := heap_alloc_new (w.alloc (.cells (pgC p (.slice a0 p.ins.length a1) (.slice b0 p.flows.length b1) (.slice c0 p.outs.length c1)) 26)) (.cells #[.slice ao l.length cap] 27)
    rwa [World.size_alloc] at this
  have r2 : Boxed w3 (w.heap.size + 1 + 1) 4 (.bool false) := by
    rw [hw3]
    have := Boxed.new ((w.alloc (.cells (pgC p (.slice a0 p.ins.length a1) (.slice b0 p.flows.length b1) (.slice c0 p.outs.length c1)) 26)).alloc (.cells #[.slice ao l.length cap] 27)) 4 (.bool false)
    simpa using this
  have cN := (callsIn_wide (n := 19)).2 ((callsIn_wide (n := 20)).1 (names_check p w3 _ _ _ (hP.keep hb3) (hR.below hb3) (hJ.below hb3)))
  have x0 : w3.cell? ⟨w.heap.size, 0, none⟩ = some (.int .i64 p.st) := by rw [cell_of_row _ _ _ _ 26 (0, 0) r0]; rfl
  have x1 : w3.cell? ⟨w.heap.size, 1, none⟩ = some (.slice a0 p.ins.length a1) := by rw [cell_of_row _ _ _ _ 26 (0, 0) r0]; rfl
  have x2 : w3.cell? ⟨w.heap.size, 2, none⟩ = some (.slice b0 p.flows.length b1) := by rw [cell_of_row _ _ _ _ 26 (0, 0) r0]; rfl
  have x3 : w3.cell? ⟨w.heap.size, 3, none⟩ = some (.slice c0 p.outs.length c1) := by rw [cell_of_row _ _ _ _ 26 (0, 0) r0]; rfl
  have HB3 := hid hb3
  have R0 := hid r0
  have R1 := hid r1
  have R2 := hid r2
  clear B1 B2 B3 hb3 r0 r1 r2 hP hI' hR hJ
  have y0 := x0
  have y1 := x1
  have y2 := x2
  have y3 := x3
  rw [hw3] at y0 y1 y2 y3
  have x4 : w3.cell? ⟨w.heap.size + 1, 0, none⟩ = some (.slice ao l.length cap) := by rw [cell_of_row _ _ _ _ 27 (0, 0) R1.out]; rfl
  have x5 := R2.out.cell
  have x6 := R2.out.frozen
  have y0 := x0
  have y1 := x1
  have y2 := x2
  have y3 := x3
  rw [hw3] at y0 y1 y2 y3
  have x4 : w3.cell? ⟨w.heap.size + 1, 0, none⟩ = some (.slice ao l.length cap) := by rw [cell_of_row _ _ _ _ 27 (0, 0) R1.out]; rfl
  have x5 := R2.out.cell
  have x6 := R2.out.frozen
  have h18 : Fence.wide.fn 18 := trivial
  have h31 : Fence.wide.fn 31 := trivial
  have h33 : Fence.wide.fn 33 := trivial
  have h28 : Fence.wide.fn 28 := trivial
  have y0 := x0
  have y1 := x1
  have y2 := x2
  have y3 := x3
  rw [hw3] at y0 y1 y2 y3
  have x4 : w3.cell? ⟨w.heap.size + 1, 0, none⟩ = some (.slice ao l.length cap) := by rw [cell_of_row _ _ _ _ 27 (0, 0) R1.out]; rfl
  have x5 := R2.out.cell
  have x6 := R2.out.frozen
  have h18 : Fence.wide.fn 18 := trivial
  have h31 : Fence.wide.fn 31 := trivial
  have h33 : Fence.wide.fn 33 := trivial
  have h28 : Fence.wide.fn 28 := trivial
  have y0 := x0
  have y1 := x1
  have y2 := x2
  have y3 := x3
  rw [hw3] at y0 y1 y2 y3
  have x4 : w3.cell? ⟨w.heap.size + 1, 0, none⟩ = some (.slice ao l.length cap) := by rw [cell_of_row _ _ _ _ 27 (0, 0) R1.out]; rfl
  have x5 := R2.out.cell
  have x6 := R2.out.frozen
  have h18 : Fence.wide.fn 18 := trivial
  have h31 : Fence.wide.fn 31 := trivial
  have h33 : Fence.wide.fn 33 := trivial
  have h28 : Fence.wide.fn 28 := trivial
  have y0 := x0
  have y1 := x1
  have y2 := x2
  have y3 := x3
  rw [hw3] at y0 y1 y2 y3
  have x4 : w3.cell? ⟨w.heap.size + 1, 0, none⟩ = some (.slice ao l.length cap) := by rw [cell_of_row _ _ _ _ 27 (0, 0) R1.out]; rfl
  have x5 := R2.out.cell
  have x6 := R2.out.frozen
  have h18 : Fence.wide.fn 18 := trivial
  have h31 : Fence.wide.fn 31 := trivial
  have h33 : Fence.wide.fn 33 := trivial
  have h28 : Fence.wide.fn 28 := trivial
  have y0 := x0
  have y1 := x1
  have y2 := x2
  have y3 := x3
  rw [hw3] at y0 y1 y2 y3
  have x4 : w3.cell? ⟨w.heap.size + 1, 0, none⟩ = some (.slice ao l.length cap) := by rw [cell_of_row _ _ _ _ 27 (0, 0) R1.out]; rfl
  have x5 := R2.out.cell
  have x6 := R2.out.frozen
  have h18 : Fence.wide.fn 18 := trivial
  have h31 : Fence.wide.fn 31 := trivial
  have h33 : Fence.wide.fn 33 := trivial
  have h28 : Fence.wide.fn 28 := trivial
  have y0 := x0
  have y1 := x1
  have y2 := x2
  have y3 := x3
  rw [hw3] at y0 y1 y2 y3
  have x4 : w3.cell? ⟨w.heap.size + 1, 0, none⟩ = some (.slice ao l.length cap) := by rw [cell_of_row _ _ _ _ 27 (0, 0) R1.out]; rfl
  have x5 := R2.out.cell
  have x6 := R2.out.frozen
  refine callsIn_of_wp_marks Tryd.func13 rfl trivial ?_ rfl
  simp only [Tryd.ntmps13, List.size_toArray, List.length_cons, List.length_nil, Nat.reduceAdd, Nat.reduceSub, Array.replicate_succ, Array.replicate_zero, List.push_toArray, List.append_toArray, List.nil_append, List.cons_append]
  by_cases hE : nmErr p = 0
  · have HNM := hid (nm_chk hE)
    have HE := hid hE
    rw [hE] at cN
    clear hE
    by_cases hL : l.length = p.flows.length
    · have HL := hid hL
      have hL' : ((l.length : Int) != (p.flows.length : Int)) = false := by simp [hL]
      clear hL
      cases hA : anyOut l with
      | true =>
        have HF : Hid (lateOk p l = false) := hid (by unfold lateOk; rw [hA]; simp)
        have HA := hid hA
        clear hA
        gi_wp2_with (first
          | (gi_at_call 18; rw [← hw3]; clear hw3 y0 y1 y2 y3; refine cN.mono ?_; rintro e w4 ⟨rfl, hb4⟩
             have z0 := cell_kept x0 hb4
             have z1 := cell_kept x1 hb4
             have z2 := cell_kept x2 hb4
             have z3 := cell_kept x3 hb4
             have z4 := cell_kept x4 hb4
             have hr4 : Boxed w4 (w.heap.size + 1 + 1) 4 (.bool false) := (hb4.block _ R2.out.lt).trans R2.out
             have z5 := hr4.cell
             have z6 := hr4.frozen
             have RL4 : Hid (w4.heap[w.heap.size + 1]? = some (.cells #[.slice ao l.length cap] 27 (0, 0))) := hid ((hb4.block _ (Array.getElem?_eq_some_iff.1 R1.out).1).trans R1.out)
             have HB4 := hid (HB3.out.trans (hb4.mono HB3.out.size))
             have cC := (callsIn_wide (n := 19)).2 (contains_func l _ w4 (HI.out.keep (HB4.out)))
             have HR4 := hid hr4
             rw [HA.out] at cC
             clear hb4 hr4 cN)
          | (gi_at_call 31; refine cC.mono ?_; rintro e w5 ⟨rfl, hw5⟩; obtain rfl : w4 = w5 := hw5.symm; clear cC))
        have hr' := HR4.out.set (.bool false)
        have e2 := hr'.cell
        exact ⟨.bool false, by simp [results, Tryd.f13, go_sem, e2], by rw [HF.out], HB4.out.setCell (p := ⟨w.heap.size + 1 + 1, 0, none⟩) (by simp; omega) _⟩
      | false =>
        have HF : Hid (lateOk p l = agesOk p l) := hid (by unfold lateOk; rw [hA, HE.out, HL.out]; simp)
        have HMI := hid (mild_of hA)
        have HA := hid hA
        clear hA
        gi_wp2_with (first
          | (gi_at_call 18; rw [← hw3]; clear hw3 y0 y1 y2 y3; refine cN.mono ?_; rintro e w4 ⟨rfl, hb4⟩
             have z0 := cell_kept x0 hb4
             have z1 := cell_kept x1 hb4
             have z2 := cell_kept x2 hb4
             have z3 := cell_kept x3 hb4
             have z4 := cell_kept x4 hb4
             have hr4 : Boxed w4 (w.heap.size + 1 + 1) 4 (.bool false) := (hb4.block _ R2.out.lt).trans R2.out
             have z5 := hr4.cell
             have z6 := hr4.frozen
             have RL4 : Hid (w4.heap[w.heap.size + 1]? = some (.cells #[.slice ao l.length cap] 27 (0, 0))) := hid ((hb4.block _ (Array.getElem?_eq_some_iff.1 R1.out).1).trans R1.out)
             have HB4 := hid (HB3.out.trans (hb4.mono HB3.out.size))
             have cC := (callsIn_wide (n := 19)).2 (contains_func l _ w4 (HI.out.keep (HB4.out)))
             have HR4 := hid hr4
             rw [HA.out] at cC
             clear hb4 hr4 cN)
          | (gi_at_call 31; refine cC.mono ?_; rintro e w5 ⟨rfl, hw5⟩; obtain rfl : w4 = w5 := hw5.symm; clear cC)
          | (gi_at_call 33; refine (all_ 19 p _ _ _ _).mono ?_; rintro e w6 ⟨rfl, hw6⟩))
        rw [← hw6]
        have hb6 : Below w4.heap.size w4 w6 := by rw [hw6]; exact (Below.refl _ w4).alloc (Nat.le_refl _) _
        have hs6 : w6.heap.size = w4.heap.size + 1 := by rw [hw6]; simp
        have hr6 : w6.heap[w4.heap.size]? = some (.cells (pgC p (.slice a0 p.ins.length a1) (.slice b0 p.flows.length b1) (.slice c0 p.outs.length c1)) 26 (0, 0)) := by rw [hw6]; exact heap_alloc_new w4 _
        have hR6 : Boxed w6 (w.heap.size + 1 + 1) 4 (.bool false) := (hb6.block _ HR4.out.lt).trans HR4.out
        have hL6 : w6.heap[w.heap.size + 1]? = some (.cells #[.slice ao l.length cap] 27 (0, 0)) := (hb6.block _ (Array.getElem?_eq_some_iff.1 RL4.out).1).trans RL4.out
        have hB6 := HB4.out.trans (hb6.mono HB4.out.size)
        have hsz4 : w.heap.size + 3 ≤ w4.heap.size := by have := HR4.out.lt; omega
        have CK0 : CkI w l (.slice ao l.length cap) [] w6 := ⟨fun _ h => (by cases h), hR6, hL6, hB6⟩
        have H6 := hid hr6
        have HB6 := hid hB6
        clear hw6 hb6 hr6 hR6 hL6 hB6 x0 x1 x2 x3 x4 x5 x6
        refine range_T rfl (by omega) (gf := 57) (lb := #[.pointer (some ⟨w4.heap.size, 0, none⟩)]) rfl trivial (enters_of Tryd.func57 (by kernel_rfl) rfl)
          (own := fun x => x = w.heap.size + 1 + 1) (all_T 19 (by omega) w4.heap.size p _ _ _ w w6 HB6.out HP.out HNM.out H6.out) (Below.refl _ _) (fun _ => rfl)
          (fun x hx => ⟨by omega, fun hk => by unfold keptA at hk; omega⟩) (fun x hx => by unfold keptA at hx; omega)
          (fun pre _ V => CkI w l (.slice ao l.length cap) pre V)
          (fun c' pre _ V => c' = .ret ∧ agesOk p l = false ∧ Boxed V (w.heap.size + 1 + 1) 4 (.bool false) ∧ Below w.heap.size w V)
          (fun pre T A C h hf => h.far hf (by omega))
          (fun c' pre T A C h hf => ⟨h.1, h.2.1, (hf.block _ h.2.2.1.lt (.inl (by omega))).trans h.2.2.1, h.2.2.2.trans ⟨hf.os, hf.tape, hf.output, hf.size, fun b hb => hf.block b (by have := h.2.2.2.size; omega) (.inl (by omega))⟩⟩) CK0
          (fun x a' V => ∃ Bx, w6.heap.size + 2 ≤ Bx ∧ V.heap[Bx]? = some (.cells (wiC x).toArray 73 (0, 0)) ∧ a' = { tmps := #[pgV p (.slice a0 p.ins.length a1) (.slice b0 p.flows.length b1) (.slice c0 p.outs.length c1), .slice ao l.length cap, .pointer (some ⟨w.heap.size, 0, none⟩), .pointer (some ⟨w.heap.size + 1, 0, none⟩), .pointer (some ⟨w.heap.size + 1 + 1, 0, none⟩), .pointer (some ⟨Bx, 0, none⟩), pgV p (.slice a0 p.ins.length a1) (.slice b0 p.flows.length b1) (.slice c0 p.outs.length c1), .int .i64 0, .bool false, .bool false, .slice ao l.length cap, .int .i64 (l.length : Int), .pointer (some ⟨w.heap.size, 2, none⟩), .slice b0 p.flows.length b1, .int .i64 (p.flows.length : Int), .bool false, .bool false, .bool false, .slice ao l.length cap, .bool false, .bool false, pgV p (.slice a0 p.ins.length a1) (.slice b0 p.flows.length b1) (.slice c0 p.outs.length c1), .func (.func 57) #[] #[.pointer (some ⟨w4.heap.size, 0, none⟩)], wiV x, undef, undef, undef, undef], defers := [] })
          (fun x a' V o hs hx => by obtain ⟨Bx, h1, h2, h3⟩ := hx; exact ⟨Bx, h1, (World.putObj_heap_other (by omega)).trans h2, h3⟩)
          ?assign ?body ?done ?stop
        case assign =>
          rintro l2 pre x T' V K hsV hI hK
          gi_wp2
          exact hK _ _ ((Below.refl _ V).alloc (Nat.le_refl _) _) ⟨V.heap.size, hsV, heap_alloc_new V _, rfl⟩
        case body =>
          rintro l2 pre x T' a' V hsV hsn hC ⟨Bx, hBx, hRow, rfl⟩ hlen hpre
          have hxm : x ∈ allL p := hpre.subset (by simp)
          have hok : WiOk l.length x := by rw [HL.out]; exact allL_ok HNM.out x hxm
          have cA := CallsIn.inRound l2 ((callsIn_wide (n := 20 - 1 - 1 - 1)).2 (age_ x l _ V (HI.out.keep hC.below) hok HMI.out))
          have z0 : V.cell? ⟨Bx, 0, none⟩ = some (.int .i64 (x.flow : Int)) := by rw [cell_of_row _ _ _ _ 73 (0, 0) hRow]; rfl
          have z1 : V.cell? ⟨Bx, 1, none⟩ = some (.string x.rf.1) := by rw [cell_of_row _ _ _ _ 73 (0, 0) hRow]; rfl
          have z2 : V.cell? ⟨Bx, 2, none⟩ = some (.int .i64 (x.rf.2 : Int)) := by rw [cell_of_row _ _ _ _ 73 (0, 0) hRow]; rfl
          have z3 : V.cell? ⟨Bx, 3, none⟩ = some (.int .i64 x.of) := by rw [cell_of_row _ _ _ _ 73 (0, 0) hRow]; rfl
          have z4 : V.cell? ⟨Bx, 4, none⟩ = some (.int .i64 (x.way : Int)) := by rw [cell_of_row _ _ _ _ 73 (0, 0) hRow]; rfl
          have z5 : V.cell? ⟨w.heap.size + 1, 0, none⟩ = some (.slice ao l.length cap) := by rw [cell_of_row _ _ _ _ 27 (0, 0) hC.row]; rfl
          have hn3 : 1 ≤ 20 - 1 - 1 := by omega
          have HC := hid hC
          have HXM := hid hxm
          clear hC hok hRow hsn hlen hpre hxm
          have HAG : Hid (∀ a, a = ageV l x → a < 0 → agesOk p l = false) := hid (fun a ha h => by
            unfold agesOk
            rw [List.all_eq_false]
            exact ⟨x, HXM.out, by simp; omega⟩)
          have HPO : Hid (∀ a, a = ageV l x → 0 ≤ a → ∀ y ∈ pre ++ [x], 0 ≤ ageV l y) := hid (fun a ha h y hy => by
            rcases List.mem_append.1 hy with hy | hy
            · exact HC.out.pos y hy
            · rw [List.mem_singleton.1 hy]; omega)
          have HAG2 := hid (HAG.out _ rfl)
          have HPO2 := hid (HPO.out _ rfl)
          clear HAG HPO
          generalize ageV l x = A at *
          by_cases hA0 : A < 0
          · have HN := hid (HAG2.out hA0)
            gi_wp2_with
              (gi_at_call 28
               refine cA.mono ?_
               rintro e V2 ⟨rfl, hb2⟩
               have hC2 := HC.out.far (Far.of_below (B := w.heap.size + 3) (T := T') hb2) (Nat.le_refl _)
               have e5 := hC2.res.cell
               have e6 := hC2.res.frozen
               have HC2 := hid hC2
               have HB2 := hid hb2
               clear hC2 hb2 cA)
            exact ⟨T', fun b hb => .inl hb, (Buts.below HB2.out).trans (Buts.set _ _ _ _ (.inr rfl)), rfl, HN.out, HC2.out.res.set _, HC2.out.below.setCell (p := ⟨w.heap.size + 1 + 1, 0, none⟩) (by simp; omega) _⟩
          · have HP2 := hid (HPO2.out (by omega))
            gi_wp2_with
              (gi_at_call 28
               refine cA.mono ?_
               rintro e V2 ⟨rfl, hb2⟩
               have hC2 := HC.out.far (Far.of_below (B := w.heap.size + 3) (T := T') hb2) (Nat.le_refl _)
               have HC2 := hid hC2
               have HB2 := hid hb2
               clear hC2 hb2 cA)
            exact ⟨T', fun b hb => .inl hb, Buts.below HB2.out, ⟨HP2.out, HC2.out.res, HC2.out.row, HC2.out.below⟩⟩
        case done =>
          rintro D ys T' V rfl hsV rfl hsn hC hD
          have e5 := hC.res.cell
          have e6 := hC.res.frozen
          have HG : Hid (lateOk p l = true) := hid (by
            rw [HF.out]
            unfold agesOk
            rw [List.all_eq_true]
            intro x hx
            simpa using hC.pos x hx)
          have HC := hid hC
          have HD := hid hD
          clear hC hD hsn
          gi_wp2
          have hK' := (KeepsOthers.setCell V ⟨w.heap.size + 1 + 1, 0, none⟩ (.bool true)).same _ _ HD.out rfl
          refine ⟨by simp, .inl ⟨_, _, rfl, run_takeDeferred hK', ?_⟩⟩
          obtain ⟨q1, q2⟩ := leave1 (w := w) hK' (by have := HB6.out.size; omega) (HC.out.res.set (.bool true)) (HC.out.below.setCell (p := ⟨w.heap.size + 1 + 1, 0, none⟩) (by simp; omega) _)
          exact ⟨.bool true, by simp [results, Tryd.f13, go_sem, q1], by rw [HG.out], q2⟩
        case stop =>
          rintro D c' pre T' V rfl hsV hSp hsn ⟨rfl, hag, hb, hB⟩ hD
          have HG : Hid (lateOk p l = false) := hid (by rw [HF.out, hag])
          have Hb := hid hb
          have HB := hid hB
          have HD := hid hD
          clear hag hb hB hD hsn hSp
          gi_wp2
          refine ⟨by simp, .inl ⟨_, _, rfl, run_takeDeferred HD.out, ?_⟩⟩
          obtain ⟨q1, q2⟩ := leave1 (w := w) HD.out (by have := HB6.out.size; omega) Hb.out HB.out
          exact ⟨.bool false, by simp [results, Tryd.f13, go_sem, q1], by rw [HG.out], q2⟩
    · have HF : Hid (lateOk p l = false) := hid (by unfold lateOk; rw [decide_eq_false hL]; simp)
      have hL' : ((l.length : Int) != (p.flows.length : Int)) = true := by simp; omega
      clear hL
      gi_wp2_with (first
          | (gi_at_call 18; rw [← hw3]; clear hw3 y0 y1 y2 y3; refine cN.mono ?_; rintro e w4 ⟨rfl, hb4⟩
             have z0 := cell_kept x0 hb4
             have z1 := cell_kept x1 hb4
             have z2 := cell_kept x2 hb4
             have z3 := cell_kept x3 hb4
             have z4 := cell_kept x4 hb4
             have hr4 : Boxed w4 (w.heap.size + 1 + 1) 4 (.bool false) := (hb4.block _ R2.out.lt).trans R2.out
             have z5 := hr4.cell
             have z6 := hr4.frozen
             have RL4 : Hid (w4.heap[w.heap.size + 1]? = some (.cells #[.slice ao l.length cap] 27 (0, 0))) := hid ((hb4.block _ (Array.getElem?_eq_some_iff.1 R1.out).1).trans R1.out)
             have HB4 := hid (HB3.out.trans (hb4.mono HB3.out.size))
             have cC := (callsIn_wide (n := 19)).2 (contains_func l _ w4 (HI.out.keep (HB4.out)))
             have HR4 := hid hr4
             skip
             clear hb4 hr4 cN))
      have hr' := HR4.out.set (.bool false)
      have e2 := hr'.cell
      exact ⟨.bool false, by simp [results, Tryd.f13, go_sem, e2], by rw [HF.out], HB4.out.setCell (p := ⟨w.heap.size + 1 + 1, 0, none⟩) (by simp; omega) _⟩
  · have HF : Hid (lateOk p l = false) := hid (by unfold lateOk; rw [decide_eq_false hE]; simp)
    have hE' : (nmErr p != 0) = true := by simpa using hE
    generalize nmErr p = E at *
    clear hE
    gi_wp2_with (first
          | (gi_at_call 18; rw [← hw3]; clear hw3 y0 y1 y2 y3; refine cN.mono ?_; rintro e w4 ⟨rfl, hb4⟩
             have z0 := cell_kept x0 hb4
             have z1 := cell_kept x1 hb4
             have z2 := cell_kept x2 hb4
             have z3 := cell_kept x3 hb4
             have z4 := cell_kept x4 hb4
             have hr4 : Boxed w4 (w.heap.size + 1 + 1) 4 (.bool false) := (hb4.block _ R2.out.lt).trans R2.out
             have z5 := hr4.cell
             have z6 := hr4.frozen
             have RL4 : Hid (w4.heap[w.heap.size + 1]? = some (.cells #[.slice ao l.length cap] 27 (0, 0))) := hid ((hb4.block _ (Array.getElem?_eq_some_iff.1 R1.out).1).trans R1.out)
             have HB4 := hid (HB3.out.trans (hb4.mono HB3.out.size))
             have cC := (callsIn_wide (n := 19)).2 (contains_func l _ w4 (HI.out.keep (HB4.out)))
             have HR4 := hid hr4
             skip
             clear hb4 hr4 cN))
    have hr' := HR4.out.set (.bool false)
    have e2 := hr'.cell
    exact ⟨.bool false, by simp [results, Tryd.f13, go_sem, e2], by rw [HF.out], HB4.out.setCell (p := ⟨w.heap.size + 1 + 1, 0, none⟩) (by simp; omega) _⟩
end Go.Proofs.YtmlapodhpinhmaaDoor.Lex
namespace Go.Proofs.YtmlapodhpinhmaaDoor.Lex
open Go.ChangeShapes Go.WideShapes Go.ChangeAt Go.RowKit Go.Joins
abbrev spareFl : Fl := ⟨spare, 0, 0, 0, ⟨0, 0, ⟨#[]⟩, []⟩⟩
/-- A row's block: all of it may be written. -/
def Blk (w : World) (b t c cap : Nat) : Prop := ∃ cur : Array Value, w.heap[b]? = some (.cells cur t (0, 0)) ∧ cur.size = cap * c ∧ cap ≤ maxLen
/-- A twin of a row of heads, in a block from some one on. -/
def TwIns (w : World) (lo : Nat) (l : List Hd) (s : Value) : Prop :=
  ∃ (b cap : Nat), s = .slice (some ⟨b, 0, none⟩) l.length cap ∧ lo ≤ b ∧ l.length ≤ 4398046510976 ∧ l.length < cap ∧ (∀ x ∈ l, x.ok) ∧ (∀ i (h : i < l.length), HdCells w b (i * 3) l[i]) ∧ HdCells w b (l.length * 3) ⟨spare, 0, 0⟩ ∧ Blk w b 59 3 cap
/-- A twin of a row of flows. -/
def TwFlows (w : World) (lo : Nat) (l : List Fl) (s : Value) : Prop :=
  ∃ (b cap : Nat) (sl : Nat → Value), s = .slice (some ⟨b, 0, none⟩) l.length cap ∧ lo ≤ b ∧ l.length ≤ 1466015503658 ∧ l.length < cap ∧ (∀ x ∈ l, x.ok) ∧ (∀ i (h : i < l.length), FlCells w b (i * 8) l[i] (sl i)) ∧ FlCells w b (l.length * 8) spareFl (.slice none 0 0) ∧ (∀ i (h : i < l.length), Tw w (b + 1) l[i].body (sl i)) ∧ Blk w b 55 8 cap
/-- A twin of a row of texts. -/
def TwTexts (w : World) (lo : Nat) (l : List ByteArray) (s : Value) : Prop :=
  ∃ (b cap : Nat), s = .slice (some ⟨b, 0, none⟩) l.length cap ∧ lo ≤ b ∧ l.length ≤ 8796093021952 ∧ l.length < cap ∧ (∀ x ∈ l, x.size ≤ 140737488355328) ∧ (∀ i (h : i < l.length), w.cell? ⟨b, i, none⟩ = some (.string l[i])) ∧ w.cell? ⟨b, l.length, none⟩ = some (.string spare) ∧ Blk w b 9 1 cap
theorem cell_carry {w w' : World} {lo b o : Nat} {v : Value} (hb : ∀ b, lo ≤ b → b < w.heap.size → w'.heap[b]? = w.heap[b]?) (hlo : lo ≤ b) (h : w.cell? ⟨b, o, none⟩ = some v) : w'.cell? ⟨b, o, none⟩ = some v := by
  rw [World.cell?_of_block (w := w) (a := ⟨b, o, none⟩) (hb b hlo (World.block_lt_of_cell? w _ h))]
  exact h
theorem Blk.carry {w w' : World} {lo b t c cap : Nat} (h : Blk w b t c cap) (hb : ∀ b, lo ≤ b → b < w.heap.size → w'.heap[b]? = w.heap[b]?) (hlo : lo ≤ b) : Blk w' b t c cap := by
  obtain ⟨cur, h1, h2⟩ := h
  exact ⟨cur, (hb b hlo (Array.getElem?_eq_some_iff.1 h1).1).trans h1, h2⟩
theorem HdCells.carry {w w' : World} {lo b p : Nat} {x : Hd} (h : HdCells w b p x) (hb : ∀ b, lo ≤ b → b < w.heap.size → w'.heap[b]? = w.heap[b]?) (hlo : lo ≤ b) : HdCells w' b p x :=
  ⟨cell_carry hb hlo h.1, cell_carry hb hlo h.2.1, cell_carry hb hlo h.2.2⟩
theorem FlCells.carry {w w' : World} {lo b p : Nat} {x : Fl} {s : Value} (h : FlCells w b p x s) (hb : ∀ b, lo ≤ b → b < w.heap.size → w'.heap[b]? = w.heap[b]?) (hlo : lo ≤ b) : FlCells w' b p x s :=
  ⟨cell_carry hb hlo h.1, cell_carry hb hlo h.2.1, cell_carry hb hlo h.2.2.1, cell_carry hb hlo h.2.2.2.1, cell_carry hb hlo h.2.2.2.2.1, cell_carry hb hlo h.2.2.2.2.2.1, cell_carry hb hlo h.2.2.2.2.2.2.1, cell_carry hb hlo h.2.2.2.2.2.2.2⟩
theorem TwIns.carry {w w' : World} {lo lo' : Nat} {l : List Hd} {s : Value} (h : TwIns w lo l s) (hb : ∀ b, lo ≤ b → b < w.heap.size → w'.heap[b]? = w.heap[b]?) (hl : lo' ≤ lo) : TwIns w' lo' l s := by
  obtain ⟨b, cap, rfl, h1, h2, h3, h4, h5, h6, h8⟩ := h
  exact ⟨b, cap, rfl, by omega, h2, h3, h4, fun i hi => (h5 i hi).carry hb h1, h6.carry hb h1, h8.carry hb h1⟩
theorem TwTexts.carry {w w' : World} {lo lo' : Nat} {l : List ByteArray} {s : Value} (h : TwTexts w lo l s) (hb : ∀ b, lo ≤ b → b < w.heap.size → w'.heap[b]? = w.heap[b]?) (hl : lo' ≤ lo) : TwTexts w' lo' l s := by
  obtain ⟨b, cap, rfl, h1, h2, h3, h4, h5, h6, h8⟩ := h
  exact ⟨b, cap, rfl, by omega, h2, h3, h4, fun i hi => cell_carry hb h1 (h5 i hi), cell_carry hb h1 h6, h8.carry hb h1⟩
theorem TwFlows.carry {w w' : World} {lo lo' : Nat} {l : List Fl} {s : Value} (h : TwFlows w lo l s) (hb : ∀ b, lo ≤ b → b < w.heap.size → w'.heap[b]? = w.heap[b]?) (hl : lo' ≤ lo) : TwFlows w' lo' l s := by
  obtain ⟨b, cap, sl, rfl, h1, h2, h3, h4, h5, h6, h7, h8⟩ := h
  exact ⟨b, cap, sl, rfl, by omega, h2, h3, h4, fun i hi => (h5 i hi).carry hb h1, h6.carry hb h1, fun i hi => Tw.carryN (fun b' hb' hlt => hb b' (by omega) hlt) (Nat.le_refl _) _ _ _ (Nat.le_refl _) (h7 i hi), h8.carry hb h1⟩
theorem TwIns.at {w : World} {lo : Nat} {l : List Hd} {s : Value} (h : TwIns w lo l s) : InsAt w l s := by
  obtain ⟨b, cap, rfl, h1, h2, h3, h4, h5, h6⟩ := h
  exact ⟨_, cap, rfl, h2, by omega, h4, .inr ⟨b, 0, rfl, fun i hi => by simpa using h5 i hi⟩⟩
theorem TwTexts.at {w : World} {lo : Nat} {l : List ByteArray} {s : Value} (h : TwTexts w lo l s) : TextsAt w l s := by
  obtain ⟨b, cap, rfl, h1, h2, h3, h4, h5, h6⟩ := h
  exact ⟨_, cap, rfl, h2, by omega, h4, .inr ⟨b, 0, rfl, fun i hi => by simpa using h5 i hi⟩⟩
theorem TwFlows.at {w : World} {lo : Nat} {l : List Fl} {s : Value} (h : TwFlows w lo l s) : FlowsAt w l s := by
  obtain ⟨b, cap, sl, rfl, h1, h2, h3, h4, h5, h6, h7, h8⟩ := h
  exact ⟨_, cap, sl, rfl, h2, by omega, h4, .inr ⟨b, 0, rfl, fun i hi => by simpa using h5 i hi⟩, fun i hi => (h7 i hi).st⟩
/-- A twin of a program. -/
structure TwPg (w : World) (lo : Nat) (p : Pg) (a b c : Value) : Prop where
  st : -9223372036854775808 ≤ p.st ∧ p.st ≤ 9223372036854775807
  ins : TwIns w lo p.ins a
  flows : TwFlows w lo p.flows b
  outs : TwTexts w lo p.outs c
theorem TwPg.carry {w w' : World} {lo lo' : Nat} {p : Pg} {a b c : Value} (h : TwPg w lo p a b c) (hb : ∀ b, lo ≤ b → b < w.heap.size → w'.heap[b]? = w.heap[b]?) (hl : lo' ≤ lo) : TwPg w' lo' p a b c :=
  ⟨h.st, h.ins.carry hb hl, h.flows.carry hb hl, h.outs.carry hb hl⟩
theorem TwPg.keep {w w' : World} {lo : Nat} {p : Pg} {a b c : Value} (h : TwPg w lo p a b c) (hb : Below w.heap.size w w') : TwPg w' lo p a b c := h.carry (fun b _ hlt => hb.block b hlt) (Nat.le_refl _)
theorem TwPg.at {w : World} {lo : Nat} {p : Pg} {a b c : Value} (h : TwPg w lo p a b c) : PgAt w p a b c := ⟨h.st, h.ins.at, h.flows.at, h.outs.at⟩
/-! ### A row that is made -/
theorem flat_at {c : Nat} : ∀ {es : List (List Value)} {i : Nat} {e : List Value} {j : Nat} {rest : List Value}, (∀ e ∈ es, e.length = c) → es[i]? = some e → j < c → (es.flatten ++ rest)[i * c + j]? = e[j]?
  | [], i, e, j, rest, _, h, _ => by simp at h
  | x :: es, 0, e, j, rest, hl, h, hj => by
    simp at h
    subst h
    have := hl x (by simp)
    rw [List.flatten_cons, List.append_assoc, List.getElem?_append_left (by omega)]
    simp
  | x :: es, i + 1, e, j, rest, hl, h, hj => by
    have hx := hl x (by simp)
    rw [List.flatten_cons, List.append_assoc, List.getElem?_append_right (by rw [hx, Nat.add_mul]; omega), hx, show (i + 1) * c + j - c = i * c + j by rw [Nat.add_mul]; omega]
    exact flat_at (fun e he => hl e (by simp [he])) (by simpa using h) hj
theorem flat_len {c : Nat} : ∀ {es : List (List Value)}, (∀ e ∈ es, e.length = c) → es.flatten.length = es.length * c
  | [], _ => by simp
  | x :: es, hl => by
    have hx := hl x (by simp)
    rw [List.flatten_cons, List.length_append, flat_len (fun e he => hl e (by simp [he])), hx, List.length_cons, Nat.add_mul]
    omega
/-- While a row is made. -/
structure MkR (w : World) (t c n : Nat) (es : List (List Value)) (W : World) : Prop where
  below : Below w.heap.size w W
  row : W.ownsRow w.heap.size t c (.slice (some ⟨w.heap.size, 0, none⟩) es.length (n + 1)) es.length es.flatten
  each : ∀ e ∈ es, e.length = c
  size : w.heap.size < W.heap.size
theorem MkR.start {w w1 : World} {t c n : Nat} (hown : w1.ownsRow w.heap.size t c (.slice (some ⟨w.heap.size, 0, none⟩) 0 (n + 1)) 0 []) (hg : w.grownBy w1 none) : MkR w t c n [] w1 where
  below := (Below.refl _ _).grown hg (Nat.le_refl _) (fun k hk => by cases hk)
  row := hown
  each := fun p hp => by cases hp
  size := by
    rcases hown.2 with ⟨h, _⟩ | ⟨g, c, cur, e, _, hh, _⟩
    · cases h
    · injection e with e1 _ _
      injection e1 with e1
      injection e1 with e1 _ _
      subst e1
      exact (Array.getElem?_eq_some_iff.1 hh).1
theorem MkR.step {w W W' : World} {t c n : Nat} {es : List (List Value)} (h : MkR w t c n es W) (hb : Below W.heap.size W W') : MkR w t c n es W' :=
  ⟨bstep h.below hb, by
    have hr := h.row
    refine ⟨hr.1, ?_⟩
    rcases hr.2 with hn | ⟨g, cap, cur, e, hg0, hg, rest⟩
    · exact .inl hn
    · exact .inr ⟨g, cap, cur, e, hg0, (hb.block g (Array.getElem?_eq_some_iff.1 hg).1).trans hg, rest⟩, h.each, Nat.lt_of_lt_of_le h.size hb.size⟩
theorem MkR.grow {w W W' : World} {t c n k : Nat} {es : List (List Value)} {e : List Value} (h : MkR w t c n es W) (hk : es.length = k) (he : e.length = c)
    (hr : W'.ownsRow w.heap.size t c (.slice (some ⟨w.heap.size, 0, none⟩) (k + 1) (n + 1)) (k + 1) (es.flatten ++ e)) (hg : W.grownBy W' (some w.heap.size)) : MkR w t c n (es ++ [e]) W' where
  below := h.below.grown hg h.below.size (fun j hj => by cases hj; exact Nat.le_refl _)
  row := by
    have e1 : (es ++ [e]).length = k + 1 := by simp [hk]
    have e2 : (es ++ [e]).flatten = es.flatten ++ e := by simp
    rw [e1, e2]; exact hr
  each := fun p hp => by
    rcases List.mem_append.1 hp with hp | hp
    · exact h.each p hp
    · rw [List.mem_singleton.1 hp]; exact he
  size := Nat.lt_of_lt_of_le h.size hg.size
theorem Blk.of_row {W : World} {lo t c g n cap : Nat} {xs : List Value} (h : W.ownsRow lo t c (.slice (some ⟨g, 0, none⟩) n cap) n xs) : Blk W g t c cap := by
  rcases h.2 with ⟨h, _⟩ | ⟨g', c', cur, e, _, hh, _, h1, h2, _⟩
  · cases h
  · injection e with e1 _ e3
    injection e1 with e1
    injection e1 with e1 _ _
    subst e1 e3
    exact ⟨cur, hh, h2, h1⟩
/-- The cells of a row that was made, with the mark behind it. -/
theorem MkR.cells {w W' : World} {t c n k : Nat} {es : List (List Value)} {sp : List Value} (hl : ∀ e ∈ es, e.length = c) (hk : es.length = k) (hsp : sp.length = c)
    (hr : W'.ownsRow w.heap.size t c (.slice (some ⟨w.heap.size, 0, none⟩) (k + 1) (n + 1)) (k + 1) (es.flatten ++ sp)) :
    (∀ i e j v, es[i]? = some e → e[j]? = some v → W'.cell? ⟨w.heap.size, i * c + j, none⟩ = some v) ∧ ∀ j v, sp[j]? = some v → W'.cell? ⟨w.heap.size, k * c + j, none⟩ = some v := by
  have lt : ∀ {l : List Value} {j : Nat} {v : Value}, l[j]? = some v → j < l.length := fun h => (List.getElem?_eq_some_iff.1 h).1
  refine ⟨fun i e j v he hj => ?_, fun j v hj => ?_⟩
  · have hi : i < es.length := (List.getElem?_eq_some_iff.1 he).1
    have hj' := lt hj
    have hec := hl e (List.mem_of_getElem? he)
    have hb : i * c + j < (k + 1) * c := by
      have : (i + 1) * c ≤ k * c := Nat.mul_le_mul_right c (by omega)
      rw [Nat.add_mul] at this ⊢
      omega
    rw [hr.cellAt _ hb, flat_at hl he (by omega)]
    exact hj
  · have hj' := lt hj
    have hb : k * c + j < (k + 1) * c := by rw [Nat.add_mul]; omega
    rw [hr.cellAt _ hb, List.getElem?_append_right (by rw [flat_len hl, hk]; omega), flat_len hl, hk, show k * c + j - k * c = j by omega]
    exact hj
theorem next_cells (w : World) (l : List Value) (t : TypeId) : ∀ j u, l[j]? = some u → (w.alloc (.cells l.toArray t)).cell? ((⟨w.heap.size, 0, none⟩ : Addr).add j) = some u := by
  intro j u hj
  have hadd : (⟨w.heap.size, 0, none⟩ : Addr).add j = ⟨w.heap.size, j, none⟩ := by unfold Addr.add; split <;> simp_all
  rw [hadd, World.cell?_alloc_at _ _ _ _ rfl]
  simpa using hj
abbrev hdL (x : Hd) : List Value := [.string x.name, .int .u8 (x.ty : Int), .int .i64 x.st]
abbrev flL (x : Fl) (s : Value) : List Value := [.string x.name, .int .u8 (x.ty : Int), .int .i64 x.st, .int .i64 x.df, .int .u8 (x.body.op : Int), .int .i64 x.body.n, .string x.body.name, s]
end Go.Proofs.YtmlapodhpinhmaaDoor.Lex
namespace Go.Proofs.YtmlapodhpinhmaaDoor.Lex
open Go.ChangeShapes Go.WideShapes Go.ChangeAt Go.RowKit Go.Joins
attribute [local go_sem] Oper.semAt_some
def wisV (l : List Wi) : List Value := l.flatMap wiC
theorem wisV_snoc (l : List Wi) (x : Wi) : wisV (l ++ [x]) = wisV l ++ wiC x := by simp [wisV]
theorem infoW : (Tryd.prog.info? 73).map (fun i => (i.zero, i.size, i.bytes)) = some (some (.agg #[.int .i64 0, .string ByteArray.empty, .int .i64 0, .int .i64 0, .int .i64 0]), 5, 48) := by kernel_rfl
/-- A row stays where its block does. -/
theorem own_same {w w' : World} {base : Nat} {e : TypeId} {size n : Nat} {v : Value} {xs : List Value} (h : w.ownsRow base e size v n xs) (hb : ∀ b, v.ownBlock = some b → w'.heap[b]? = w.heap[b]?) : w'.ownsRow base e size v n xs := by
  refine ⟨h.1, ?_⟩
  rcases h.2 with hn | ⟨g, cap, cur, rfl, hg0, hg, rest⟩
  · exact .inl hn
  · exact .inr ⟨g, cap, cur, rfl, hg0, (hb g rfl).trans hg, rest⟩
theorem Buts.grown {own : Bl} {W W' : World} {row : Option Nat} (h : W.grownBy W' row) (ho : ∀ b, row = some b → own b) : Buts own W W' := ⟨h.os, h.tape, h.output, h.size, fun b hb hn => h.block b hb (fun e => hn (ho b e.symm))⟩
theorem pgOk_few {p : Pg} (h : nmErr p = 0) : p.ins.length ≤ 64 ∧ p.flows.length ≤ 128 := by
  unfold nmErr at h
  split at h
  · rename_i hk
    unfold pgOk roomOk at hk
    simp only [Bool.and_eq_true, decide_eq_true_eq] at hk
    exact ⟨hk.1.2.1, hk.1.2.2.1⟩
  · simp at h
/-- What holds between two rounds. -/
structure ColI (w : World) (pre : List Wi) (T : Bl) (V : World) : Prop where
  box : ∃ v, Boxed V w.heap.size 82 v ∧ V.ownsRow (w.heap.size + 1) 73 5 v pre.length (wisV pre) ∧ ∀ b, v.ownBlock = some b → T b
  below : Below w.heap.size w V
theorem ColI.far {w A C : World} {pre : List Wi} {T : Bl} {B : Nat} (h : ColI w pre T A) (hf : Far B T A C) (hB : w.heap.size + 1 ≤ B) : ColI w pre T C := by
  obtain ⟨v, h1, h2, h3⟩ := h.box
  exact ⟨⟨v, (hf.block _ h1.lt (.inl (by omega))).trans h1, own_same h2 (fun b hb => hf.block b (h2.lt b hb).2 (.inr (h3 b hb))), h3⟩, h.below.trans ⟨hf.os, hf.tape, hf.output, hf.size, fun b hb => hf.block b (by have := h.below.size; omega) (.inl (by omega))⟩⟩
set_option maxRecDepth 100000 in
set_option maxHeartbeats 2000000 in
theorem append_seq (Bp : Nat) (p : Pg) (a b c : Value) (W0 w : World) (hb : Below W0.heap.size W0 w) (hP : PgAt W0 p a b c) (hE : nmErr p = 0) (hBp : w.heap[Bp]? = some (.cells (pgC p a b c) 26 (0, 0))) :
    CallsIn Fence.wide 17 Tryd.prog 61 #[.slice none 0 0, .func (.func 57) #[] #[.pointer (some ⟨Bp, 0, none⟩)]] w fun e w' => ∃ v, e = .returned v ∧ w'.ownsRow (w.heap.size + 1) 73 5 v (allL p).length (wisV (allL p)) ∧ Below w.heap.size w w' := by
  have HNM := hid (nm_chk hE)
  have hlen : (allL p).length ≤ 25600 := by
    have h1 := allN_len (nm_chk hE) p.flows.length (Nat.le_refl _)
    have h2 := (pgOk_few hE).2
    unfold allL
    omega
  have HP := hid hP
  have hb1 : Below w.heap.size w (w.alloc (.cells #[.slice none 0 0] 82)) := (Below.refl _ w).alloc (Nat.le_refl _) _
  have hbp1 : (w.alloc (.cells #[.slice none 0 0] 82)).heap[Bp]? = some (.cells (pgC p a b c) 26 (0, 0)) := (hb1.block _ (Array.getElem?_eq_some_iff.1 hBp).1).trans hBp
  have hx1 : Boxed (w.alloc (.cells #[.slice none 0 0] 82)) w.heap.size 82 (.slice none 0 0) := Boxed.new w 82 (.slice none 0 0)
  have hbl := (Array.getElem?_eq_some_iff.1 hBp).1
  have hszb := hb.size
  obtain ⟨i0, hi, hz0, hz1, hz2⟩ := info_parts infoW
  clear hE hP hBp
  refine callsIn_of_wp_marks Tryd.func61 rfl trivial ?_ rfl
  simp only [Tryd.ntmps61, List.size_toArray, List.length_cons, List.length_nil, Nat.reduceAdd, Nat.reduceSub, Array.replicate_succ, Array.replicate_zero, List.push_toArray, List.append_toArray, List.nil_append, List.cons_append]
  gi_wp2
  obtain ⟨w1, hw1⟩ : ∃ w1, w1 = w.alloc (.cells #[.slice none 0 0] 82) := ⟨_, rfl⟩
  rw [← hw1] at hb1 hbp1 hx1 ⊢
  have hs1 : w1.heap.size = w.heap.size + 1 := by rw [hw1]; simp
  clear hw1
  have CI0 : ColI w [] (fun _ => False) w1 := ⟨⟨_, hx1, ⟨rfl, .inl ⟨rfl, rfl⟩⟩, fun b hb => by cases hb⟩, hb1⟩
  refine range_T rfl (by omega) (gf := 57) (lb := #[.pointer (some ⟨Bp, 0, none⟩)]) rfl trivial (enters_of Tryd.func57 (by kernel_rfl) rfl)
    (own := fun x => x = w.heap.size) (all_T 16 (by omega) Bp p _ _ _ W0 w1 (hb.trans (hb1.mono hszb)) HP.out HNM.out hbp1) (Below.refl _ _) (fun _ => rfl)
    (fun x hx => ⟨by omega, fun hk => by unfold keptA at hk; omega⟩) (fun x hx => by unfold keptA at hx; omega)
    (fun pre T V => ColI w pre T V)
    (fun c' pre _ V => False)
    (fun pre T A C h hf => h.far hf (by omega))
    (fun c' pre T A C h hf => h) CI0
    (fun x a' V => ∃ Bx, w1.heap.size + 2 ≤ Bx ∧ V.heap[Bx]? = some (.cells (wiC x).toArray 73 (0, 0)) ∧ a' = { tmps := #[.slice none 0 0, .func (.func 57) #[] #[.pointer (some ⟨Bp, 0, none⟩)], .pointer (some ⟨w.heap.size, 0, none⟩), undef, .slice none 0 0, .pointer (some ⟨Bx, 0, none⟩), .func (.func 57) #[] #[.pointer (some ⟨Bp, 0, none⟩)], wiV x, undef, undef, undef, undef, undef], defers := [] })
    (fun x a' V o hs hx => by obtain ⟨Bx, h1, h2, h3⟩ := hx; exact ⟨Bx, h1, (World.putObj_heap_other (by omega)).trans h2, h3⟩)
    ?assign ?body ?done ?stop
  case assign =>
    rintro l2 pre x T' V K hsV hI hK
    gi_wp2
    exact hK _ _ ((Below.refl _ V).alloc (Nat.le_refl _) _) ⟨V.heap.size, hsV, heap_alloc_new V _, rfl⟩
  case body =>
    rintro l2 pre x T a' V hsV hsn hC ⟨Bx, hBx, hRow, rfl⟩ hlen2 hpre
    obtain ⟨v, hbx, hrow, hT⟩ := hC.box
    have hv := hbx.cell
    have hvf := hbx.frozen
    have z0 : V.cell? ⟨Bx, 0, none⟩ = some (.int .i64 (x.flow : Int)) := by rw [cell_of_row _ _ _ _ 73 (0, 0) hRow]; rfl
    have z1 : V.cell? ⟨Bx, 1, none⟩ = some (.string x.rf.1) := by rw [cell_of_row _ _ _ _ 73 (0, 0) hRow]; rfl
    have z2 : V.cell? ⟨Bx, 2, none⟩ = some (.int .i64 (x.rf.2 : Int)) := by rw [cell_of_row _ _ _ _ 73 (0, 0) hRow]; rfl
    have z3 : V.cell? ⟨Bx, 3, none⟩ = some (.int .i64 x.of) := by rw [cell_of_row _ _ _ _ 73 (0, 0) hRow]; rfl
    have z4 : V.cell? ⟨Bx, 4, none⟩ = some (.int .i64 (x.way : Int)) := by rw [cell_of_row _ _ _ _ 73 (0, 0) hRow]; rfl
    have hal := (Below.refl V.heap.size V).alloc (Nat.le_refl _) (.cells (wiC x).toArray 73)
    have hrow1 := own_same hrow (fun b hb => hal.block b (hrow.lt b hb).2)
    have hbx1 : Boxed (V.alloc (.cells (wiC x).toArray 73)) w.heap.size 82 v := (hal.block _ hbx.lt).trans hbx
    have hlen3 : pre.length < 25600 := by omega
    have HROW := hid hrow1
    have HBX := hid hbx1
    have HT := hid hT
    have HC := hid hC.below
    have hsz2 := hC.below.size
    clear hRow hrow hrow1 hbx hbx1 hT hC hal hlen2 hpre
    gi_wp2_with
      (gi_at_builtin
       refine wpListIn_append_own_at _ rfl _ _ 82 rfl (w.heap.size + 1) 73 i0 (.agg #[.int .i64 0, .string ByteArray.empty, .int .i64 0, .int .i64 0, .int .i64 0]) 5 48 Tryd.underlying82 hi hz0 hz1 hz2 rfl (by decide) _ _ _ rfl HROW.out ⟨V.heap.size, 0, none⟩ 1 1 (wiC x) rfl rfl (next_cells V (wiC x) 73) (by simp [Value.oneCell']) (by simp [maxLen]; omega) (by omega) (by simp; omega) ?_
       intro v' w2 hown' hgrow _ hat
       obtain ⟨g', cap', rfl⟩ := ownsRow_succ hown'
       have hb2 : Boxed w2 w.heap.size 82 v := (hgrow.block _ HBX.out.lt (fun e => by have := HROW.out.lt _ e.symm; omega)).trans HBX.out
       have e5 := hb2.cell
       have e6 := hb2.frozen
       have HOWN := hid hown'
       have HGROW := hid hgrow
       have HAT := hid hat
       have HB2 := hid hb2
       clear hown' hgrow hat hb2)
    have hlt := HOWN.out.lt g' rfl
    have hgs := HGROW.out.size
    rw [World.size_alloc] at hgs
    have hal := (Below.refl V.heap.size V).alloc (Nat.le_refl _) (.cells (wiC x).toArray 73)
    have hbA := HC.out.alloc HC.out.size (.cells (wiC x).toArray 73)
    have hbB := hbA.grown HGROW.out hbA.size (fun b e => by have := HROW.out.lt b e; omega)
    refine ⟨fun b => b = g', fun b hb => ?_, (Buts.below hal).trans ((Buts.grown HGROW.out (fun b e => .inl (HT.out b e))).trans (Buts.set _ _ _ _ (.inr rfl))), ⟨_, HB2.out.set _, ?_, fun b hb => ?_⟩, hbB.setCell (p := ⟨w.heap.size, 0, none⟩) (Nat.le_refl _) _⟩
    · subst hb
      rcases HAT.out with e | e
      · exact .inl (HT.out _ e.symm)
      · have : b = (V.alloc (.cells (wiC x).toArray 73)).heap.size := by simpa [Value.ownBlock] using e
        rw [World.size_alloc] at this
        refine .inr ⟨by omega, ?_⟩
        simp [World.setCell]
        omega
    · rw [List.length_append, wisV_snoc]
      exact own_same HOWN.out (fun b hb => Below.heap_setCell _ _ _ _ (fun e => by have := HOWN.out.lt b hb; simp at e; omega))
    · simpa [Value.ownBlock] using hb.symm
  case done =>
    rintro D ys T' V rfl hsV rfl hsn hC hD
    obtain ⟨v, hbx, hrow, hT⟩ := hC.box
    have hv := hbx.cell
    have HROW := hid hrow
    have HT := hid hT
    have HD := hid hD
    have HB := hid hC.below
    have HS := hid hsn
    clear hC hbx hrow hT hD hsn
    gi_wp2
    refine ⟨by simp, .inl ⟨_, _, rfl, run_takeDeferred HD.out, ?_⟩⟩
    refine ⟨_, results_tmp rfl _ _ _, v, rfl, own_same HROW.out (fun b hb => World.putObj_heap_other (fun e => ?_)), HB.out.trans (belowK_b (w := w) (Nat.le_refl _) V _ _ _ (by omega) HD.out rfl rfl)⟩
    have := HS.out b (HT.out b hb)
    omega
  case stop =>
    rintro D c' pre T' V rfl hsV hSp hsn h hD
    exact h.elim
end Go.Proofs.YtmlapodhpinhmaaDoor.Lex
namespace Go.Proofs.YtmlapodhpinhmaaDoor.Lex
open Go.ChangeShapes Go.WideShapes Go.ChangeAt Go.RowKit Go.Joins
attribute [local go_sem] Oper.semAt_some
theorem collect (Bp : Nat) (p : Pg) (a b c : Value) (W0 w : World) (hb : Below W0.heap.size W0 w) (hP : PgAt W0 p a b c) (hE : nmErr p = 0) (hBp : w.heap[Bp]? = some (.cells (pgC p a b c) 26 (0, 0))) :
    CallsIn Fence.wide 18 Tryd.prog 39 #[.func (.func 57) #[] #[.pointer (some ⟨Bp, 0, none⟩)]] w fun e w' => ∃ v, e = .returned v ∧ w'.ownsRow (w.heap.size + 1) 73 5 v (allL p).length (wisV (allL p)) ∧ Below w.heap.size w w' := by
  have h61 : Fence.wide.fn 61 := trivial
  have cA := append_seq Bp p a b c W0 w hb hP hE hBp
  clear hP hE hBp hb
  generalize hn : (allL p).length = n at cA ⊢
  generalize wisV (allL p) = xs at cA ⊢
  clear hn
  refine callsIn_of_wp Tryd.func39 rfl trivial ?_ rfl
  simp only [Tryd.ntmps39, List.size_toArray, List.length_cons, List.length_nil, Nat.reduceAdd, Nat.reduceSub, Array.replicate_succ, Array.replicate_zero, List.push_toArray, List.append_toArray, List.nil_append, List.cons_append]
  gi_wp2_with (gi_at_call 61; refine cA.mono ?_; rintro e w2 ⟨v, rfl, hrow, hb2⟩; have HROW := hid hrow; have HB2 := hid hb2; clear hrow hb2 cA)
  go_ret
  exact ⟨v, rfl, HROW.out, HB2.out⟩
/-- Wishes in a row. -/
def WAt (w : World) (L : List Wi) (v : Value) : Prop :=
  ∃ a cap, v = .slice a L.length cap ∧ L.length ≤ 1000000 ∧ (L.length = 0 ∨ ∃ g, a = some ⟨g, 0, none⟩ ∧ ∀ i (h : i < L.length), w.cell? ⟨g, i * 5, none⟩ = some (.int .i64 (L[i].flow : Int)) ∧ w.cell? ⟨g, i * 5 + 1, none⟩ = some (.string L[i].rf.1) ∧ w.cell? ⟨g, i * 5 + 2, none⟩ = some (.int .i64 (L[i].rf.2 : Int)) ∧ w.cell? ⟨g, i * 5 + 3, none⟩ = some (.int .i64 L[i].of) ∧ w.cell? ⟨g, i * 5 + 4, none⟩ = some (.int .i64 (L[i].way : Int)))
theorem wisV_at (L : List Wi) (i j : Nat) (hi : i < L.length) (hj : j < 5) : (wisV L)[5 * i + j]? = (wiC L[i])[j]? := by
  induction L generalizing i with
  | nil => simp at hi
  | cons t ts ih =>
    have e : wisV (t :: ts) = wiC t ++ wisV ts := by simp [wisV]
    rw [e]
    have hl : (wiC t).length = 5 := rfl
    cases i with
    | zero => rw [List.getElem?_append_left (by omega)]; simp
    | succ i =>
      rw [List.getElem?_append_right (by omega), hl, show 5 * (i + 1) + j - 5 = 5 * i + j by omega]
      simpa using ih i (by simpa using hi)
theorem WAt.of_own {w : World} {B : Nat} {v : Value} {L : List Wi} (h : w.ownsRow B 73 5 v L.length (wisV L)) (hl : L.length ≤ 1000000) : WAt w L v := by
  rcases h.2 with ⟨rfl, h0⟩ | ⟨g, cap, cur, rfl, hg0, hg, rest⟩
  · exact ⟨none, 0, by rw [h0], hl, .inl h0⟩
  · refine ⟨_, cap, rfl, hl, .inr ⟨g, rfl, fun i hi => ?_⟩⟩
    have q : ∀ j, j < 5 → w.cell? ⟨g, i * 5 + j, none⟩ = (wiC L[i])[j]? := fun j hj => by rw [h.cellAt _ (by omega), ← wisV_at L i j hi hj, Nat.mul_comm]
    exact ⟨q 0 (by omega), q 1 (by omega), q 2 (by omega), q 3 (by omega), q 4 (by omega)⟩
theorem WAt.keep {w w' : World} {L : List Wi} {v : Value} (h : WAt w L v) (hb : Below w.heap.size w w') : WAt w' L v := by
  obtain ⟨a, cap, rfl, hl, h⟩ := h
  refine ⟨a, cap, rfl, hl, ?_⟩
  rcases h with h | ⟨g, e, h⟩
  · exact .inl h
  · exact .inr ⟨g, e, fun i hi => by obtain ⟨h1, h2, h3, h4, h5⟩ := h i hi; exact ⟨cell_kept h1 hb, cell_kept h2 hb, cell_kept h3 hb, cell_kept h4 hb, cell_kept h5 hb⟩⟩
theorem values_ (v : Value) (n : Nat) (w : World) (hv : ∃ a k c, v = .slice a k c) :
    CallsIn Fence.wide n Tryd.prog 41 #[v] w fun e w' => e = .returned (.func (.func 62) #[] #[.pointer (some ⟨w.heap.size, 0, none⟩)]) ∧ w' = w.alloc (.cells #[v] 82) := by
  obtain ⟨a, k, c, rfl⟩ := hv
  refine callsIn_of_wp Tryd.func41 rfl trivial ?_ rfl
  simp only [Tryd.ntmps41, List.size_toArray, List.length_cons, List.length_nil, Nat.reduceAdd, Nat.reduceSub, Array.replicate_succ, Array.replicate_zero, List.push_toArray, List.append_toArray, List.nil_append, List.cons_append]
  gi_wp2
  go_ret
  exact ⟨rfl, rfl⟩
/-- What holds between two rounds, but for what the caller says. -/
structure VS (n₀ B : Nat) (W0 : World) (T : Bl) (wr : World) : Prop where
  lo : n₀ ≤ B
  since : Since B T wr
  size : B ≤ wr.heap.size
  below : Below n₀ W0 wr
theorem VS.step {n₀ B : Nat} {W0 wr W' : World} {T : Bl} (h : VS n₀ B W0 T wr) (hb : Below wr.heap.size wr W') : VS n₀ B W0 T W' := by
  have hs := hb.size
  exact ⟨h.lo, fun x hx => by have := h.since x hx; omega, by have := h.size; omega, h.below.trans (hb.mono (Nat.le_trans h.lo h.size))⟩
theorem VS.round {n₀ B : Nat} {W0 wr W' : World} {T T' : Bl} (h : VS n₀ B W0 T wr) (hn : Newer T T' wr W') (hb : Buts (fun x => T x ∨ (x < B ∧ ¬ (x < n₀))) wr W') : VS n₀ B W0 T' W' := by
  have hs := hb.size
  have hsz := h.size
  have hlo := h.lo
  refine ⟨h.lo, fun x hx => ?_, by omega, h.below.trans (hb.low (fun x hx ho => ?_) (by omega))⟩
  · rcases hn x hx with e | e
    · have := h.since x e; omega
    · omega
  · rcases ho with ho | ho
    · have := (h.since x ho).1; omega
    · omega
set_option maxRecDepth 100000 in
set_option maxHeartbeats 2000000 in
theorem values1 (n : Nat) (hn : 3 ≤ n) (l Bs n₀ : Nat) (L : List Wi) (v : Value) (J Jx : List Wi → Bl → World → Prop) (W0 W : World) (hW0 : n₀ = W0.heap.size) (hW : Below n₀ W0 W) (hL : WAt W0 L v)
    (hJ : LowT W.heap.size J)
    (hY : ∀ pre x T W1, J pre T W1 → Since W.heap.size T W1 → W.heap.size ≤ W1.heap.size → pre.length < L.length → pre ++ [x] <+: L → YieldAt Fence.wide (n - 1) Tryd.prog l #[wiV x] W1 fun e W' =>
      (e = .returned (.bool true) ∧ ∃ T', Newer T T' W1 W' ∧ J (pre ++ [x]) T' W' ∧ Buts (fun x => T x ∨ (x < W.heap.size ∧ ¬ (x < n₀))) W1 W') ∨ (e = .returned (.bool false) ∧ Buts (fun x => T x ∨ (x < W.heap.size ∧ ¬ (x < n₀))) W1 W' ∧ ∃ T', Newer T T' W1 W' ∧ Jx (pre ++ [x]) T' W'))
    (hBs : W.heap[Bs]? = some (.cells #[v] 82 (0, 0))) (h0 : J [] (fun _ => False) W) :
    CallsIn Fence.wide n Tryd.prog 62 #[.func (.yield l) #[] #[], .pointer (some ⟨Bs, 0, none⟩)] W fun e W' => (∃ v, e = .returned v) ∧ ∃ T', Since W.heap.size T' W' ∧ W.heap.size ≤ W'.heap.size ∧
      ((∃ ys, ys = L ∧ J ys T' W') ∨ (∃ pre, pre <+: L ∧ Jx pre T' W')) := by
  have hn1 : 1 ≤ n := by omega
  subst hW0
  obtain ⟨a, cap, rfl, hlm, hc⟩ := hL
  have HC := hid hc
  have HJ := hid hJ
  have HY := hid hY
  have hsz0 := hW.size
  have x2 : W.cell? ⟨Bs, 0, none⟩ = some (.slice a L.length cap) := by rw [cell_of_row _ _ _ _ 82 (0, 0) hBs]; rfl
  have HW := hid hW
  have H0 := hid h0
  clear hc hJ hY hW h0 hBs
  refine callsIn_of_wp Tryd.func62 rfl trivial ?_ rfl
  simp only [Tryd.ntmps62, List.size_toArray, List.length_cons, List.length_nil, Nat.reduceAdd, Nat.reduceSub, Array.replicate_succ, Array.replicate_zero, List.push_toArray, List.append_toArray, List.nil_append, List.cons_append]
  gi_wp2
  gi_loopw [7] (fun i wr => ∃ (m : Nat) (T : Bl), m ≤ L.length ∧ i = .int .i64 (m : Int) ∧ Hid (J (L.take m) T wr) ∧ Hid (VS W0.heap.size W.heap.size W0 T wr)) (fun i wr => L.length - (intOf i).toNat)
  case atStart => exact ⟨0, fun _ => False, Nat.zero_le _, rfl, H0, hid ⟨hsz0, fun _ h => h.elim, Nat.le_refl _, HW.out⟩⟩
  case round =>
    obtain ⟨m, T, hm, rfl, hJ2, hS⟩ := hrel
    by_cases hml : m < L.length
    · have hml' : (m : Int) < (L.length : Int) := by omega
      have hm0 : (0 : Int) ≤ (m : Int) := by omega
      obtain ⟨g, rfl, hcc⟩ := HC.out.resolve_left (by omega)
      have HSM : Hid (L.take (m + 1) = L.take m ++ [L[m]]) := hid (List.take_succ_eq_append_getElem hml)
      have HPM : Hid (L.take m ++ [L[m]] <+: L) := hid (by rw [← HSM.out]; exact List.take_prefix _ _)
      obtain ⟨q0, q1, q2, q3, q4⟩ := hcc m hml
      have hbl := hS.out.below
      have u0 := cell_kept q0 hbl
      have u1 := cell_kept q1 hbl
      have u2 := cell_kept q2 hbl
      have u3 := cell_kept q3 hbl
      have u4 := cell_kept q4 hbl
      clear q0 q1 q2 q3 q4 hcc hbl
      generalize L[m] = z at *
      have hba := (Below.refl wr.heap.size wr).alloc (Nat.le_refl _) (.cells (wiC z).toArray 73)
      have hS1 := hS.out.step hba
      have hJ1 := HJ.out _ _ _ _ hJ2.out (Far.of_below hba)
      obtain ⟨fn, tmps, assign, body, hy, hR⟩ := HY.out _ z T _ hJ1 hS1.since hS1.size (by rw [List.length_take]; omega) HPM.out
      have HS1 := hid hS1
      have HR := hid hR
      clear hba hS1 hJ1 hR
      gi_wp2
      refine HR.out.mono ?_
      rintro e W3 (⟨rfl, T', hn', hJ3, hk3⟩ | ⟨rfl, hz, T', hn', hJx3⟩)
      · gi_wp2
        go_roundw
        case rel => exact ⟨m + 1, T', by omega, by go_num, hid (by rw [HSM.out]; exact hJ3), hid (HS1.out.round hn' hk3)⟩
        case measure => simp [intOf]; omega
      · gi_wp2
        refine bodyPost_ret (results_none rfl _ _ _) rfl ?_
        have h6 := HS1.out.size
        have hz' := hz.size
        exact ⟨⟨_, rfl⟩, T', fun b hb => (hn' b hb).elim (fun h => by have := HS1.out.since b h; omega) (fun h => by omega), by omega, .inr ⟨_, HPM.out, hJx3⟩⟩
    · have hml' : ¬ (m : Int) < (L.length : Int) := by omega
      gi_wp2
      go_end0
      refine ⟨⟨_, rfl⟩, T, hS.out.since, hS.out.size, .inl ?_⟩
      have := hJ2.out
      rw [List.take_of_length_le (by omega)] at this
      exact this
/-- It goes through the row. -/
theorem values_T (n : Nat) (hn : 3 ≤ n) (Bs : Nat) (L : List Wi) (v : Value) (W0 w : World) (hb : Below W0.heap.size W0 w) (hL : WAt W0 L v) (hBs : w.heap[Bs]? = some (.cells #[v] 82 (0, 0))) :
    SeqT Fence.wide n Tryd.prog 62 #[.pointer (some ⟨Bs, 0, none⟩)] (fun x : Wi => #[wiV x]) (fun b => b < W0.heap.size) (fun ys => ys = L) (fun pre => pre <+: L) L.length w := fun l J Jx W hW hJ _ hY h0 =>
  values1 n hn l Bs _ L v J Jx W0 W rfl (hb.trans (hW.mono hb.size)) hL hJ hY ((hW.block _ (Array.getElem?_eq_some_iff.1 hBs).1).trans hBs) h0
end Go.Proofs.YtmlapodhpinhmaaDoor.Lex
namespace Go.Proofs.YtmlapodhpinhmaaDoor.Lex
/-- One turn through the wishes: none, if one is too late. -/
def turn : List Wi → List Int → Bool → Option (List Int × Bool)
  | [], l, s => some (l, s)
  | x :: xs, l, s => if 0 ≤ ageV l x then turn xs l s else if outB (lateAt l x.flow - ageV l x) then none else turn xs (l.set x.flow (lateAt l x.flow - ageV l x)) false
/-- So many turns. -/
def leaF (L : List Wi) : Nat → List Int → Option (List Int)
  | 0, _ => none
  | k + 1, l => match turn L l true with | none => none | some (l', s) => if s then some l' else leaF L k l'
theorem turn_append : ∀ (a b : List Wi) (l : List Int) (s : Bool), turn (a ++ b) l s = match turn a l s with | none => none | some (l', s') => turn b l' s'
  | [], b, l, s => rfl
  | x :: a, b, l, s => by
    show (if 0 ≤ ageV l x then turn (a ++ b) l s else if outB (lateAt l x.flow - ageV l x) then none else turn (a ++ b) (l.set x.flow (lateAt l x.flow - ageV l x)) false) = _
    rw [turn_append a b l s, turn_append a b _ false]
    simp only [turn]
    split
    · rfl
    · split
      · rfl
      · rfl
theorem turn_snoc_keep {pre : List Wi} {x : Wi} {l l' : List Int} {s s' : Bool} (h : turn pre l s = some (l', s')) (ha : 0 ≤ ageV l' x) : turn (pre ++ [x]) l s = some (l', s') := by
  rw [turn_append, h]; simp [turn, ha]
theorem turn_snoc_out {pre : List Wi} {x : Wi} {l l' : List Int} {s s' : Bool} (h : turn pre l s = some (l', s')) (ha : ¬ 0 ≤ ageV l' x) (ho : outB (lateAt l' x.flow - ageV l' x) = true) : turn (pre ++ [x]) l s = none := by
  rw [turn_append, h]; simp [turn, ha, ho]
theorem turn_snoc_more {pre : List Wi} {x : Wi} {l l' : List Int} {s s' : Bool} (h : turn pre l s = some (l', s')) (ha : ¬ 0 ≤ ageV l' x) (ho : outB (lateAt l' x.flow - ageV l' x) = false) : turn (pre ++ [x]) l s = some (l'.set x.flow (lateAt l' x.flow - ageV l' x), false) := by
  rw [turn_append, h]; simp [turn, ha, ho]
theorem turn_prefix_none {pre L : List Wi} {l : List Int} {s : Bool} (h : turn pre l s = none) (hp : pre <+: L) : turn L l s = none := by
  obtain ⟨t, rfl⟩ := hp
  rw [turn_append, h]
/-- Each is a lateness. -/
def Fine (l : List Int) : Prop := ∀ a ∈ l, 0 ≤ a ∧ a ≤ 1000
theorem Fine.mild {l : List Int} (h : Fine l) : Mild l := fun a ha => by have := h a ha; omega
theorem Fine.at {l : List Int} (h : Fine l) (i : Int) : 0 ≤ lateAt l i ∧ lateAt l i ≤ 1000 := by
  unfold lateAt
  cases e : l[i.toNat]? with
  | none => show (0 : Int) ≤ 0 ∧ (0 : Int) ≤ 1000; omega
  | some a => exact h a (List.mem_of_getElem? e)
theorem Fine.set {l : List Int} (h : Fine l) (i : Nat) {z : Int} (hz : outB z = false) : Fine (l.set i z) := by
  intro a ha
  rcases List.mem_or_eq_of_mem_set ha with ha | rfl
  · exact h a ha
  · unfold outB at hz
    simp at hz
    omega
theorem Fine.zeros (n : Nat) : Fine (List.replicate n 0) := fun a ha => by rw [List.eq_of_mem_replicate ha]; omega
theorem Fine.out {l : List Int} (h : Fine l) : anyOut l = false := by
  unfold anyOut
  rw [List.any_eq_false]
  intro a ha
  have := h a ha
  unfold outB
  simp
  omega
theorem Fine.age {l : List Int} (h : Fine l) {x : Wi} {n : Nat} (hx : WiOk n x) : -2000 ≤ ageV l x ∧ ageV l x ≤ 2000 := by
  have h1 := h.at x.flow
  have h2 := h.at x.of
  have h3 := hx.ago
  have h4 := hx.way
  unfold ageV
  split <;> omega
theorem lateAt_nat (l : List Int) (i : Nat) (h : i < l.length) : lateAt l (i : Int) = l[i] := by unfold lateAt; simp [h]
end Go.Proofs.YtmlapodhpinhmaaDoor.Lex
namespace Go.Proofs.YtmlapodhpinhmaaDoor.Lex
open Go.ChangeShapes Go.WideShapes Go.ChangeAt Go.RowKit Go.Joins
attribute [local go_sem] Oper.semAt_some
/-- A row of numbers that is a block of its own. -/
def Rowl (W : World) (b : Nat) (l : List Int) : Prop := W.heap[b]? = some (.cells (l.map (fun a => Value.int .i64 a)).toArray 3 (0, 0))
theorem Rowl.cell {W : World} {b : Nat} {l : List Int} (h : Rowl W b l) (i : Nat) (hi : i < l.length) : W.cell? ⟨b, i, none⟩ = some (.int .i64 l[i]) := by
  rw [cell_of_row _ _ _ _ 3 (0, 0) h]; simp [hi]
theorem Rowl.at {W : World} {b : Nat} {l : List Int} (h : Rowl W b l) (hl : l.length ≤ 1000000) : IAt W l (.slice (some ⟨b, 0, none⟩) l.length l.length) :=
  ⟨_, _, rfl, ⟨Nat.le_refl _, by omega⟩, by
    by_cases e : l.length = 0
    · exact .inl e
    · exact .inr ⟨b, 0, rfl, fun i hi => by rw [Nat.zero_add]; exact h.cell i hi⟩⟩
theorem Rowl.set {W : World} {b : Nat} {l : List Int} (h : Rowl W b l) (i : Nat) (z : Int) : Rowl (W.setCell ⟨b, i, none⟩ (.int .i64 z)) b (l.set i z) := by
  unfold Rowl
  rw [set_same' h i (.int .i64 z)]
  congr 2
  apply Array.ext'
  simp [List.map_set]
theorem Rowl.frozen {W : World} {b : Nat} {l : List Int} (h : Rowl W b l) (i : Nat) : W.frozen? ⟨b, i, none⟩ = false := by
  unfold World.frozen?
  rw [h]
  rfl
theorem infI : (Tryd.prog.info? 3).map (fun i => (i.zero, i.size, i.bytes)) = some (some (.int .i64 0), 1, 8) := by kernel_rfl
theorem mk_ints (n : Nat) (hn : n ≤ 1099511627776) (w : World) : (Instr.makeSlice 27 (.int .i64 (n : Int)) (.int .i64 (n : Int))).run Tryd.prog w = .ok (.slice (some ⟨w.heap.size, 0, none⟩) n n) (w.alloc (.cells (madeCells #[.int .i64 0] n) 3)) :=
  run_make_row' 27 3 (.int .i64 0) 8 Tryd.underlying27 infI rfl .i64 .i64 n (by omega) (by omega) w
theorem made_zeros (W : World) (n : Nat) : Rowl (W.alloc (.cells (madeCells #[.int .i64 0] n) 3)) W.heap.size (List.replicate n 0) := by
  unfold Rowl
  rw [heap_alloc_new W _, List.map_replicate]
  congr 2
  apply Array.ext'
  refine List.ext_getElem? (fun i => ?_)
  by_cases hi : i < n
  · simp [madeCells, hi, Nat.mod_one]
  · rw [List.getElem?_eq_none (by rw [Array.length_toList, size_madeCells]; omega), List.getElem?_eq_none (by simp; omega)]
/-- What stands, whatever the turn: the row, the variable that holds it. -/
structure LI (w : World) (n bl : Nat) (l : List Int) (V : World) : Prop where
  row : Rowl V bl l
  box : V.heap[bl + 1]? = some (.cells #[.slice (some ⟨bl, 0, none⟩) n n] 27 (0, 0))
  len : l.length = n
  fine : Fine l
  below : Below w.heap.size w V
theorem LI.far {w A C : World} {n bl : Nat} {l : List Int} {B : Nat} {T : Bl} (h : LI w n bl l A) (hf : Far B T A C) (hB : bl + 2 ≤ B) (hw : w.heap.size ≤ bl) : LI w n bl l C :=
  ⟨(hf.block _ (Array.getElem?_eq_some_iff.1 h.row).1 (.inl (by omega))).trans h.row, (hf.block _ (Array.getElem?_eq_some_iff.1 h.box).1 (.inl (by omega))).trans h.box, h.len, h.fine, h.below.trans ⟨hf.os, hf.tape, hf.output, hf.size, fun b hb => hf.block b (by have := h.below.size; omega) (.inl (by omega))⟩⟩
theorem LI.step {w A C : World} {n bl : Nat} {l : List Int} (h : LI w n bl l A) (hb : Below A.heap.size A C) : LI w n bl l C :=
  ⟨(hb.block _ (Array.getElem?_eq_some_iff.1 h.row).1).trans h.row, (hb.block _ (Array.getElem?_eq_some_iff.1 h.box).1).trans h.box, h.len, h.fine, h.below.trans (hb.mono h.below.size)⟩
theorem LI.other {w A : World} {n bl : Nat} {l : List Int} (h : LI w n bl l A) (hw : w.heap.size ≤ bl) {b o : Nat} (hb : bl + 2 ≤ b) (u : Value) : LI w n bl l (A.setCell ⟨b, o, none⟩ u) :=
  ⟨(Below.heap_setCell _ _ _ _ (by simp; omega)).trans h.row, (Below.heap_setCell _ _ _ _ (by simp; omega)).trans h.box, h.len, h.fine, h.below.setCell (p := ⟨b, o, none⟩) (by simp; omega) _⟩
theorem LI.put {w A : World} {n bl : Nat} {l : List Int} (h : LI w n bl l A) (hw : w.heap.size ≤ bl) (i : Nat) {z : Int} (hz : outB z = false) : LI w n bl (l.set i z) (A.setCell ⟨bl, i, none⟩ (.int .i64 z)) :=
  ⟨h.row.set i z, (Below.heap_setCell _ _ _ _ (by simp)).trans h.box, by rw [List.length_set]; exact h.len, h.fine.set i hz, h.below.setCell (p := ⟨bl, i, none⟩) hw _⟩
set_option maxRecDepth 100000 in
set_option maxHeartbeats 2000000 in
theorem least_ (n Bs : Nat) (L : List Wi) (v : Value) (w : World) (hn : n ≤ 1000000) (hL : WAt w L v) (hOk : ∀ x ∈ L, WiOk n x) (hBs : w.heap[Bs]? = some (.cells #[v] 82 (0, 0))) :
    CallsIn Fence.wide 20 Tryd.prog 40 #[.int .i64 (n : Int), .func (.func 62) #[] #[.pointer (some ⟨Bs, 0, none⟩)]] w fun e w' => Below w.heap.size w w' ∧
      ((leaF L (n + 1) (List.replicate n 0) = none ∧ e = .returned (.tuple #[.slice none 0 0, .bool false])) ∨
       ∃ l, leaF L (n + 1) (List.replicate n 0) = some l ∧ e = .returned (.tuple #[.slice (some ⟨w.heap.size, 0, none⟩) n n, .bool true]) ∧ Rowl w' w.heap.size l ∧ l.length = n ∧ Fine l) := by
  have h28 : Fence.wide.fn 28 := trivial
  have h32 : Fence.wide.fn 32 := trivial
  have hmk := mk_ints n (by omega)
  obtain ⟨bl, hbl⟩ : ∃ bl, bl = w.heap.size := ⟨_, rfl⟩
  obtain ⟨RES, hRES⟩ : ∃ R, R = leaF L (n + 1) (List.replicate n 0) := ⟨_, rfl⟩
  have hA := (Below.refl w.heap.size w).alloc (Nat.le_refl _) (.cells (madeCells #[.int .i64 0] n) 3)
  have hAs : (w.alloc (.cells (madeCells #[.int .i64 0] n) 3)).heap.size = w.heap.size + 1 := by simp
  have hB := hA.alloc hA.size (.cells #[.slice (some ⟨w.heap.size, 0, none⟩) n n] 27)
  have hI0 : LI w n bl (List.replicate n 0) ((w.alloc (.cells (madeCells #[.int .i64 0] n) 3)).alloc (.cells #[.slice (some ⟨w.heap.size, 0, none⟩) n n] 27)) := by
    refine ⟨?_, ?_, List.length_replicate, Fine.zeros n, hB⟩
    · unfold Rowl; rw [hbl, Below.heap_alloc _ _ _ (by simp)]; exact made_zeros w n
    · rw [hbl, ← hAs]; exact heap_alloc_new _ _
  have HI0 := hid hI0
  have HL := hid hL
  have HOK := hid hOk
  have HBs := hid hBs
  have HR0 := hid hRES
  have hbsl := (Array.getElem?_eq_some_iff.1 hBs).1
  have hbl' := hid hbl
  clear hA hB hAs hI0 hL hOk hBs hRES
  refine callsIn_of_wp_marks Tryd.func40 rfl trivial ?_ rfl
  simp only [Tryd.ntmps40, List.size_toArray, List.length_cons, List.length_nil, Nat.reduceAdd, Nat.reduceSub, Array.replicate_succ, Array.replicate_zero, List.push_toArray, List.append_toArray, List.nil_append, List.cons_append]
  gi_wp2
  refine (wpIn_wide (n := 20)).2 (wp_scope_straight ((wpIn_wide (n := 20)).1 ?_))
  gi_wp2
  refine wpIn_label ?_
  have hw1 : wrap64 ((n : Int) + 1) = (n : Int) + 1 := wrap_in (by omega) (by omega)
  gi_wp2
  rw [← hbl'.out]
  rw [← hbl'.out] at HI0
  obtain ⟨W1, hW1⟩ : ∃ W1, W1 = (w.alloc (.cells (madeCells #[.int .i64 0] n) 3)).alloc (.cells #[.slice (some ⟨bl, 0, none⟩) n n] 27) := ⟨_, rfl⟩
  rw [← hW1] at HI0 ⊢
  clear hW1 hbl
  refine wpIn_loop_ghost (fun q a' wr => ∃ (k : Nat) (l : List Int) (ds : List Deferred) (u7 u15 u16 u38 u39 u40 : Value), q = n + 1 - k ∧ k ≤ n + 1 ∧ Hid (RES = leaF L (n + 1 - k) l) ∧ Hid (LI w n bl l wr) ∧ Hid (Mrk (bl + 2) (fun _ => False) ds wr) ∧ a' = { tmps := #[.int .i64 (n : Int), .func (.func 62) #[] #[.pointer (some ⟨Bs, 0, none⟩)], undef, undef, .slice none 0 0, .bool false, .pointer (some ⟨bl + 1, 0, none⟩), u7, undef, undef, .int .i64 (n : Int), .slice (some ⟨bl, 0, none⟩) n n, .int .i64 (n : Int), .int .i64 ((n : Int) + 1), .int .i64 (k : Int), u15, u16, undef, undef, undef, undef, undef, undef, undef, undef, undef, undef, undef, undef, undef, undef, undef, undef, undef, undef, undef, undef, undef, u38, u39, u40], defers := ds }) (n + 1) ⟨0, List.replicate n 0, [], _, _, _, _, _, _, by omega, by omega, HR0, HI0, hid (Mrk.nil _ _ _), rfl⟩ ?_
  rintro q a' wr ⟨k, l, ds, u7, u15, u16, u38, u39, u40, rfl, hk, hR, hLI, hMk, rfl⟩
  have hlo : w.heap.size ≤ bl := by have := hbl'.out; omega
  by_cases hkl : k < n + 1
  · have hkl' : (k : Int) < (n : Int) + 1 := by omega
    gi_wp2
    obtain ⟨w1, hw1⟩ : ∃ w1, w1 = wr.alloc (.cells #[.bool true] 4) := ⟨_, rfl⟩
    rw [← hw1]
    have hb1 : Below wr.heap.size wr w1 := by rw [hw1]; exact (Below.refl _ wr).alloc (Nat.le_refl _) _
    have hs1 : w1.heap.size = wr.heap.size + 1 := by rw [hw1]; simp
    have hx1 : Boxed w1 wr.heap.size 4 (.bool true) := by rw [hw1]; exact Boxed.new wr 4 (.bool true)
    have hI1 := hLI.out.step hb1
    have hM1 := hMk.out.step hb1
    have HMW := hid hMk.out
    have hbl2 : bl + 2 ≤ wr.heap.size := by have := (Array.getElem?_eq_some_iff.1 hLI.out.box).1; omega
    have hrl := (Array.getElem?_eq_some_iff.1 hLI.out.box).1
    have hbs1 : w1.heap[Bs]? = some (.cells #[v] 82 (0, 0)) := (hI1.below.block _ hbsl).trans HBs.out
    have HI1 := hid hI1
    have HM1 := hid hM1
    have HX1 := hid hx1
    have HBS1 := hid hbs1
    have hwl : w.heap.size ≤ wr.heap.size := hLI.out.below.size
    clear hw1 hb1 hx1 hI1 hM1 hbs1 hLI hMk
    refine range_T rfl (by omega) (gf := 62) (lb := #[.pointer (some ⟨Bs, 0, none⟩)]) rfl trivial (enters_of Tryd.func62 (by kernel_rfl) rfl)
      (own := fun x => x = bl ∨ x = wr.heap.size) (values_T 19 (by omega) Bs L v w w1 HI1.out.below HL.out HBS1.out) (Below.refl _ _) (fun _ => rfl)
      (fun x hx => ⟨by omega, by omega⟩) (fun x hx => by omega)
      (fun pre _ V => ∃ l' s, turn pre l true = some (l', s) ∧ LI w n bl l' V ∧ Boxed V wr.heap.size 4 (.bool s) ∧ Mrk (bl + 2) (fun _ => False) ds V)
      (fun c' pre _ V => c' = .exit 0 ∧ turn pre l true = none ∧ Below w.heap.size w V ∧ Mrk (bl + 2) (fun _ => False) ds V)
      (fun pre T A C h hf => by
        obtain ⟨l', s, h1, h2, h3, h4⟩ := h
        exact ⟨l', s, h1, h2.far hf (by omega) hlo, (hf.block _ h3.lt (.inl (by omega))).trans h3, h4.far HM1.out hf (Nat.le_refl _)⟩)
      (fun c' pre T A C h hf => ⟨h.1, h.2.1, h.2.2.1.trans ⟨hf.os, hf.tape, hf.output, hf.size, fun b hb => hf.block b (by have := h.2.2.1.size; omega) (.inl (by omega))⟩, h.2.2.2.far HM1.out hf (Nat.le_refl _)⟩)
      ⟨l, true, rfl, HI1.out, HX1.out, HM1.out⟩
      (fun x a' V => ∃ Bx, w1.heap.size + 2 ≤ Bx ∧ V.heap[Bx]? = some (.cells (wiC x).toArray 73 (0, 0)) ∧ a' = { tmps := #[.int .i64 (n : Int), .func (.func 62) #[] #[.pointer (some ⟨Bs, 0, none⟩)], undef, undef, .slice none 0 0, .bool false, .pointer (some ⟨bl + 1, 0, none⟩), .pointer (some ⟨wr.heap.size, 0, none⟩), .pointer (some ⟨Bx, 0, none⟩), undef, .int .i64 (n : Int), .slice (some ⟨bl, 0, none⟩) n n, .int .i64 (n : Int), .int .i64 ((n : Int) + 1), .int .i64 (k : Int), .bool true, .func (.func 62) #[] #[.pointer (some ⟨Bs, 0, none⟩)], wiV x, undef, undef, undef, undef, undef, undef, undef, undef, undef, undef, undef, undef, undef, undef, undef, undef, undef, undef, undef, undef, u38, u39, u40], defers := [] })
      (fun x a' V o hs hx => by obtain ⟨Bx, h1, h2, h3⟩ := hx; exact ⟨Bx, h1, (World.putObj_heap_other (by omega)).trans h2, h3⟩)
      ?assign ?body ?done ?stop
    case assign =>
      rintro l2 pre x T' V K hsV hI hK
      gi_wp2
      exact hK _ _ ((Below.refl _ V).alloc (Nat.le_refl _) _) ⟨V.heap.size, hsV, heap_alloc_new V _, rfl⟩
    case body =>
      rintro l2 pre x T' a' V hsV hsn ⟨l', s, ht, hI, hbx, hM⟩ ⟨Bx, hBx, hRow, rfl⟩ hlen hpre
      have HI := hid hI
      have HT := hid ht
      have hlen' := hI.len
      have hxm : x ∈ L := hpre.subset (by simp)
      have hok : WiOk l'.length x := by rw [hlen']; exact HOK.out x hxm
      have hia : IAt V l' (.slice (some ⟨bl, 0, none⟩) n n) := by have := hI.row.at (by omega); rwa [hlen'] at this
      have cA := CallsIn.inRound l2 ((callsIn_wide (n := 17)).2 (age_ x l' _ V hia hok hI.fine.mild))
      have hab := hI.fine.age hok
      have hfb := hI.fine.at (x.flow : Int)
      have hfl : x.flow < n := by have := hok.flow; omega
      have f0 : V.cell? ⟨bl, x.flow, none⟩ = some (.int .i64 (lateAt l' x.flow)) := by rw [lateAt_nat l' _ hok.flow]; exact hI.row.cell _ hok.flow
      have z0 : V.cell? ⟨Bx, 0, none⟩ = some (.int .i64 (x.flow : Int)) := by rw [cell_of_row _ _ _ _ 73 (0, 0) hRow]; rfl
      have z1 : V.cell? ⟨Bx, 1, none⟩ = some (.string x.rf.1) := by rw [cell_of_row _ _ _ _ 73 (0, 0) hRow]; rfl
      have z2 : V.cell? ⟨Bx, 2, none⟩ = some (.int .i64 (x.rf.2 : Int)) := by rw [cell_of_row _ _ _ _ 73 (0, 0) hRow]; rfl
      have z3 : V.cell? ⟨Bx, 3, none⟩ = some (.int .i64 x.of) := by rw [cell_of_row _ _ _ _ 73 (0, 0) hRow]; rfl
      have z4 : V.cell? ⟨Bx, 4, none⟩ = some (.int .i64 (x.way : Int)) := by rw [cell_of_row _ _ _ _ 73 (0, 0) hRow]; rfl
      have z5 : V.cell? ⟨bl + 1, 0, none⟩ = some (.slice (some ⟨bl, 0, none⟩) n n) := by rw [cell_of_row _ _ _ _ 27 (0, 0) hI.box]; rfl
      have HK : Hid (∀ a, a = ageV l' x → 0 ≤ a → turn (pre ++ [x]) l true = some (l', s)) := hid (fun a e h => turn_snoc_keep ht (by omega))
      have HO : Hid (∀ a f, a = ageV l' x → f = lateAt l' x.flow → ¬ 0 ≤ a → outB (f - a) = true → turn (pre ++ [x]) l true = none) := hid (fun a f e e2 h h2 => turn_snoc_out ht (by omega) (by rw [← e, ← e2]; exact h2))
      have HM : Hid (∀ a f, a = ageV l' x → f = lateAt l' x.flow → ¬ 0 ≤ a → outB (f - a) = false → turn (pre ++ [x]) l true = some (l'.set x.flow (f - a), false)) := hid (fun a f e e2 h h2 => by rw [e, e2]; exact turn_snoc_more ht (by omega) (by rw [← e, ← e2]; exact h2))
      have HK2 := hid (HK.out _ rfl)
      have HO2 := hid (HO.out _ _ rfl rfl)
      have HM2 := hid (HM.out _ _ rfl rfl)
      have HBX := hid hbx
      have HMK := hid hM
      have HRW := hid hRow
      have hBxs := (Array.getElem?_eq_some_iff.1 hRow).1
      have hn3 : 1 ≤ 20 - 1 - 1 := by omega
      have hll : l'.length = n := hlen'
      clear HK HO HM hI ht hlen' hxm hok hia hM hbx hRow hsn hlen hpre
      generalize ageV l' x = A at *
      generalize lateAt l' x.flow = F at *
      have hg1 : wrap64 (-A) = -A := wrap_in (by omega) (by omega)
      by_cases hA0 : 0 ≤ A
      · have HT2 := hid (HK2.out hA0)
        have hd : decide (-A ≤ 0) = true := by simp; omega
        have hd2 : -A ≤ 0 := by omega
        clear HK2 HO2 HM2
        gi_wp2_with
          (gi_at_call 28
           refine cA.mono ?_
           rintro e V2 ⟨rfl, hb2⟩
           have HI2 := hid (HI.out.step hb2)
           have HB2 := hid hb2
           clear hb2 cA)
        exact ⟨T', fun b hb => .inl hb, Buts.below HB2.out, l', s, HT2.out, HI2.out, (HB2.out.block _ HBX.out.lt).trans HBX.out, HMK.out.step HB2.out⟩
      · have hd : decide (-A ≤ 0) = false := by simp; omega
        have hd2 : ¬ -A ≤ 0 := by omega
        have hg2 : wrap64 (F + -A) = F - A := by rw [wrap_in (by omega) (by omega)]; omega
        have hfi : (x.flow : Int) < (n : Int) := by omega
        have hf0 : (0 : Int) ≤ (x.flow : Int) := by omega
        cases ho : outB (F - A) with
        | true =>
          have HT2 := hid (HO2.out hA0 ho)
          clear HK2 HO2 HM2
          gi_wp2_with (first
            | (gi_at_call 28
               refine cA.mono ?_
               rintro e V2 ⟨rfl, hb2⟩
               have y0 := cell_kept z0 hb2
               have y5 := cell_kept z5 hb2
               have g0 := cell_kept f0 hb2
               have hI2 := HI.out.step hb2
               have gf := hI2.row.frozen x.flow
               have hbx2 : Boxed V2 wr.heap.size 4 (.bool s) := (hb2.block _ HBX.out.lt).trans HBX.out
               have hbx3 : Boxed (V2.setCell ⟨bl, x.flow, none⟩ (.int .i64 (F - A))) wr.heap.size 4 (.bool s) := (Below.heap_setCell _ _ _ _ (by simp; omega)).trans hbx2
               have s0 : (V2.setCell ⟨bl, x.flow, none⟩ (.int .i64 (F - A))).cell? ⟨Bx, 0, none⟩ = some (.int .i64 (x.flow : Int)) := cell_same (Below.heap_setCell _ _ _ _ (by simp; omega)) y0
               have s5 : (V2.setCell ⟨bl, x.flow, none⟩ (.int .i64 (F - A))).cell? ⟨bl + 1, 0, none⟩ = some (.slice (some ⟨bl, 0, none⟩) n n) := cell_same (Below.heap_setCell _ _ _ _ (by simp)) y5
               have s1 : (V2.setCell ⟨bl, x.flow, none⟩ (.int .i64 (F - A))).cell? ⟨bl, x.flow, none⟩ = some (.int .i64 (F - A)) := World.cell?_setCell_same' _ _ _ (by rw [g0]; rfl)
               have s6 := hbx3.cell
               have s7 := hbx3.frozen
               have cO := CallsIn.inRound l2 ((callsIn_wide (n := 17)).2 (outside (F - A) (V2.setCell ⟨bl, x.flow, none⟩ (.int .i64 (F - A)))))
               rw [ho] at cO
               have HI2 := hid hI2
               have HB2 := hid hb2
               have HX3 := hid hbx3
               clear hb2 hI2 hbx2 hbx3 cA)
            | (gi_at_call 32; refine cO.mono ?_; rintro e V3 ⟨rfl, hv3⟩; subst hv3; clear cO))
          have hm2 := (HMK.out.step HB2.out).cell (o := x.flow) HMW.out (b := bl) (.inl (by omega)) (.int .i64 (F - A))
          exact ⟨T', fun b hb => .inl hb, (Buts.below HB2.out).trans (Buts.set _ _ _ _ (.inr (.inl rfl))), rfl, HT2.out, HI2.out.below.setCell (p := ⟨bl, x.flow, none⟩) hlo _, hm2⟩
        | false =>
          have HT2 := hid (HM2.out hA0 ho)
          clear HK2 HO2 HM2
          gi_wp2_with (first
            | (gi_at_call 28
               refine cA.mono ?_
               rintro e V2 ⟨rfl, hb2⟩
               have y0 := cell_kept z0 hb2
               have y5 := cell_kept z5 hb2
               have g0 := cell_kept f0 hb2
               have hI2 := HI.out.step hb2
               have gf := hI2.row.frozen x.flow
               have hbx2 : Boxed V2 wr.heap.size 4 (.bool s) := (hb2.block _ HBX.out.lt).trans HBX.out
               have hbx3 : Boxed (V2.setCell ⟨bl, x.flow, none⟩ (.int .i64 (F - A))) wr.heap.size 4 (.bool s) := (Below.heap_setCell _ _ _ _ (by simp; omega)).trans hbx2
               have s0 : (V2.setCell ⟨bl, x.flow, none⟩ (.int .i64 (F - A))).cell? ⟨Bx, 0, none⟩ = some (.int .i64 (x.flow : Int)) := cell_same (Below.heap_setCell _ _ _ _ (by simp; omega)) y0
               have s5 : (V2.setCell ⟨bl, x.flow, none⟩ (.int .i64 (F - A))).cell? ⟨bl + 1, 0, none⟩ = some (.slice (some ⟨bl, 0, none⟩) n n) := cell_same (Below.heap_setCell _ _ _ _ (by simp)) y5
               have s1 : (V2.setCell ⟨bl, x.flow, none⟩ (.int .i64 (F - A))).cell? ⟨bl, x.flow, none⟩ = some (.int .i64 (F - A)) := World.cell?_setCell_same' _ _ _ (by rw [g0]; rfl)
               have s6 := hbx3.cell
               have s7 := hbx3.frozen
               have cO := CallsIn.inRound l2 ((callsIn_wide (n := 17)).2 (outside (F - A) (V2.setCell ⟨bl, x.flow, none⟩ (.int .i64 (F - A)))))
               rw [ho] at cO
               have HI2 := hid hI2
               have HB2 := hid hb2
               have HX3 := hid hbx3
               clear hb2 hI2 hbx2 hbx3 cA)
            | (gi_at_call 32; refine cO.mono ?_; rintro e V3 ⟨rfl, hv3⟩; subst hv3; clear cO))
          have hm2 := (HMK.out.step HB2.out).cell (o := x.flow) HMW.out (b := bl) (.inl (by omega)) (.int .i64 (F - A))
          exact ⟨T', fun b hb => .inl hb, ((Buts.below HB2.out).trans (Buts.set _ _ _ _ (.inr (.inl rfl)))).trans (Buts.set _ _ _ _ (.inr (.inr rfl))), _, _, HT2.out, (HI2.out.put hlo x.flow ho).other hlo hbl2 _, HX3.out.set _, hm2.cell HMW.out (.inr (Nat.le_refl _)) _⟩
    case done =>
      rintro D ys T' V hD hsV rfl hsn ⟨l', s, ht, hI, hbx, hM⟩ hDf
      have hv := hbx.cell
      have HI := hid hI
      have HC := hid (hM.cons (by omega) (fun h => h) hDf (HM1.out.fresh (by omega)))
      have z5 : V.cell? ⟨bl + 1, 0, none⟩ = some (.slice (some ⟨bl, 0, none⟩) n n) := by rw [cell_of_row _ _ _ _ 27 (0, 0) hI.box]; rfl
      have HRS : Hid (RES = if s then some l' else leaF ys (n - k) l') := hid (by
        rw [hR.out, show n + 1 - k = (n - k) + 1 by omega]
        show (match turn ys l true with | none => none | some (l', s) => if s then some l' else leaF ys (n - k) l') = _
        rw [ht])
      clear hI hM ht hbx hDf hsn
      cases s with
      | true =>
        have HRT : Hid (RES = some l') := hid (by rw [HRS.out]; rfl)
        gi_wp2
        refine Mrk.leaves _ _ HC.out (fun w' hw' => ⟨_, results_tmp2 rfl _ _ _, ?_⟩)
        have hI' := HI.out.far hw' (Nat.le_refl _) hlo
        exact ⟨hI'.below, .inr ⟨l', by rw [← HR0.out, HRT.out], by rw [← hbl'.out]; rfl, by rw [← hbl'.out]; exact hI'.row, hI'.len, hI'.fine⟩⟩
      | false =>
        have HRT : Hid (RES = leaF ys (n + 1 - (k + 1)) l') := hid (by rw [HRS.out, show n + 1 - (k + 1) = n - k by omega]; rfl)
        gi_wp2
        have hk1 : (k : Int) + 1 = ((k + 1 : Nat) : Int) := by omega
        rw [hk1]
        exact ⟨n + 1 - (k + 1), by omega, k + 1, l', _, _, _, _, _, _, _, rfl, by omega, HRT, HI, HC, rfl⟩
    case stop =>
      rintro D c' pre T' V hD hsV hSp hsn ⟨rfl, ht, hB, hM⟩ hDf
      have HC := hid (hM.cons (by omega) (fun h => h) hDf (HM1.out.fresh (by omega)))
      have HB := hid hB
      have HRT : Hid (RES = none) := hid (by
        rw [hR.out, show n + 1 - k = (n - k) + 1 by omega]
        show (match turn L l true with | none => none | some (l', s) => if s then some l' else leaF L (n - k) l') = _
        rw [turn_prefix_none ht hSp])
      clear hM ht hB hDf hsn hSp
      gi_wp2
      refine Mrk.leaves _ _ HC.out (fun w' hw' => ⟨_, results_tmp2 rfl _ _ _, ?_⟩)
      exact ⟨HB.out.trans ⟨hw'.os, hw'.tape, hw'.output, hw'.size, fun b hb => hw'.block b (by have := HB.out.size; omega) (.inl (by omega))⟩, .inl ⟨by rw [← HR0.out, HRT.out], rfl⟩⟩
  · have hkl' : ¬ (k : Int) < (n : Int) + 1 := by omega
    have hke : k = n + 1 := by omega
    have HN : Hid (RES = none) := hid (by rw [hR.out, hke, Nat.sub_self]; rfl)
    gi_wp2
    refine Mrk.leaves _ _ hMk.out (fun w' hw' => ⟨_, results_tmp2 rfl _ _ _, ?_⟩)
    exact ⟨(hLI.out.far hw' (Nat.le_refl _) hlo).below, .inl ⟨by rw [← HR0.out, HN.out], rfl⟩⟩
end Go.Proofs.YtmlapodhpinhmaaDoor.Lex
