/-
  Does each name mean one thing: the contract of names.Check.
  How great a program is: whatever number is told, the calls return.
  A program in its variable.
  The twin of a program's rows: new memory, with a mark behind each row.
  Which flows something needs at once: the contract of neededBy, given what slices.Sort does.
  The names of flows at some places: the contract of namesOf.
  Contracts of library functions at this seat's translation.
  slices.Sort of a row of ints that the call has made, and with it the contract of neededBy.
  Two maps of rows of ints, side by side: what one more element at a key makes of them.
  great: where it says no, the rows are short.
  Who needs whom: the contract of needsOf.
-/
import Derived.Test.YtjdlmhkfaodkgaaDoorG4
import Derived.Test.YtjdlmhkfaodkgaaDoorG3
import Derived.Test.YtjdlmhkfaodkgaaDoorG2
import Derived.Test.YtjdlmhkfaodkgaaDoorG1
import Derived.Shelf.Small.Bits
import Derived.Shelf.Strconv.Itoa0
import Derived.Shelf.LaysM
import Derived.Shelf.Strconv.Clone
import Derived.Shelf.Sort.Plain
import Derived.Shelf.Slices.Turned
import Derived.Ground.Names2Prog
import Derived.Shelf.Slices.SearchI
import Derived.Shelf.Slices.In.SortNone
import Derived.Test.YtjdlmhkfaodkgaaDoorProg
import Derived.Sort.OwnSortedInts
import Derived.Maps.GroupsBeside
import Derived.Maps.AppendAt
import Derived.Deep.RegionLaw
namespace Go.Proofs.YtjdlmhkfaodkgaaDoor.Lex
open Go.ChangeShapes Go.WideShapes Go.ChangeAt Go.RowKit Go.Shelf
attribute [local go_sem] Oper.semAt_some
def twice (p : Pg) (s : ByteArray) : Bool := decide (1 < cntT (thingsL p) s.data.toList)
def none_ (p : Pg) (s : ByteArray) : Bool := decide (cntT (thingsL p) s.data.toList = 0)
def told (p : Pg) (s : ByteArray) : Bool := decide (1 < cntO p.outs s.data.toList)
/-- Does each name mean one thing, that is there? -/
def nmOk (p : Pg) : Bool := (thingsL p).all (fun x => !twice p x.2.name) && ((askedL p).all (fun s => !none_ p s) && p.outs.all (fun s => !(none_ p s || told p s)))
def nmErr (p : Pg) : Int := if pgOk p then (if nmOk p then 0 else 6) else 1
theorem pgOk_chk {p : Pg} (h : pgOk p = true) : ∀ f ∈ p.flows, chk f.body = true := fun f hf => by
  unfold pgOk at h
  simp only [Bool.and_eq_true, List.all_eq_true] at h
  have := h.2.2.1 f hf
  unfold flOk at this
  simp only [Bool.and_eq_true] at this
  exact this.2.2
/-- None of them is there twice. -/
def FineT (p : Pg) (pre : List Tg) : Prop := ∀ x ∈ pre, twice p x.1.2.name = false
theorem field61 (a b : Int) (W : World) : (Instr.field 63 (.agg #[.int .i64 a, .int .i64 b]) 0).run Tryd.prog W = .ok (.int .i64 a) W := by kernel_rfl
theorem nmOk_twice {p : Pg} {x : Int × Hd} (hx : x ∈ thingsL p) (h : twice p x.2.name = true) : nmOk p = false := by
  unfold nmOk
  have : (thingsL p).all (fun x => !twice p x.2.name) = false := by rw [List.all_eq_false]; exact ⟨x, hx, by simp [h]⟩
  rw [this]; rfl
theorem nmOk_none {p : Pg} {s : ByteArray} (hx : s ∈ askedL p) (h : none_ p s = true) : nmOk p = false := by
  unfold nmOk
  have : (askedL p).all (fun s => !none_ p s) = false := by rw [List.all_eq_false]; exact ⟨s, hx, by simp [h]⟩
  rw [this, Bool.false_and, Bool.and_false]
theorem nmOk_told {p : Pg} {s : ByteArray} (hx : s ∈ p.outs) (h : (none_ p s || told p s) = true) : nmOk p = false := by
  unfold nmOk
  have : p.outs.all (fun s => !(none_ p s || told p s)) = false := by rw [List.all_eq_false]; exact ⟨s, hx, by rw [h]; simp⟩
  rw [this, Bool.and_false, Bool.and_false]
theorem leave2 {w X : World} {D1 D2 r : Nat} {v : Value} (k2 : X.heap[D2]? = some (.deferred (some []))) (k1 : X.heap[D1]? = some (.deferred (some []))) (hne : D1 < D2) (hw : w.heap.size ≤ D1) (hb : Boxed X r 29 v) (hB : Below w.heap.size w X) :
    (X.putObj D2 (.deferred none)).heap[D1]? = some (.deferred (some [])) ∧ ((X.putObj D2 (.deferred none)).putObj D1 (.deferred none)).cell? ⟨r, 0, none⟩ = some v ∧ Below w.heap.size w ((X.putObj D2 (.deferred none)).putObj D1 (.deferred none)) := by
  have k1' : (X.putObj D2 (.deferred none)).heap[D1]? = some (.deferred (some [])) := ((grownBy_putObj' X D2 (.deferred none)).block D1 (Array.getElem?_eq_some_iff.1 k1).1 (by intro e; injection e with e; omega)).trans k1
  refine ⟨k1', ?_, ?_⟩
  · exact Go.cell_kept (Go.cell_kept hb.cell (grownBy_putObj' _ D2 (.deferred none)) (fun r e => by cases e; exact ⟨_, k2, rfl⟩)) (grownBy_putObj' _ D1 (.deferred none)) (fun r e => by cases e; exact ⟨_, k1', rfl⟩)
  · exact (hB.trans (belowK_b (w := w) (Nat.le_refl _) X D2 _ _ (by omega) k2 rfl rfl)).trans (belowK_b (w := w) (Nat.le_refl _) _ D1 _ _ (by omega) k1' rfl rfl)
/-- What stands while names are looked up. -/
structure CK (w : World) (p : Pg) (c4 : Array Value) (mb vb : Nat) (W : World) : Prop where
  map : ∃ n, TMap W mb n (tly (thingsL p) p.outs)
  var : W.heap[vb]? = some (.cells #[.map (some mb)] 55 (0, 0))
  res : Boxed W (w.heap.size + 1) 29 (.int .i64 0)
  prog : W.heap[w.heap.size]? = some (.cells c4 26 (0, 0))
  below : Below w.heap.size w W
theorem CK.keep {w W W' : World} {p : Pg} {c4 : Array Value} {mb vb : Nat} (h : CK w p c4 mb vb W) (hb : Below W.heap.size W W') : CK w p c4 mb vb W' := by
  obtain ⟨n, hm⟩ := h.map
  exact ⟨⟨n, hm.keep hb⟩, (hb.block _ (Array.getElem?_eq_some_iff.1 h.var).1).trans h.var, (hb.block _ h.res.lt).trans h.res, (hb.block _ (Array.getElem?_eq_some_iff.1 h.prog).1).trans h.prog, h.below.trans (hb.mono h.below.size)⟩
theorem CK.own {w : World} {p : Pg} {c4 : Array Value} {mb vb B0 : Nat} (hmb : mb < B0) (hw : w.heap.size ≤ B0) : OwnFrom B0 (fun (_ : Unit) W => CK w p c4 mb vb W) := fun _ X Y row hs hg hr => by
  obtain ⟨n, hm⟩ := hs.map
  exact ⟨⟨n, hm.kept hg (fun e => by have := (hr _ e.symm).1; omega)⟩, cells_turn hg (fun r e => (hr r e).2) hs.var, box_turn hs.res hg hr, cells_turn hg (fun r e => (hr r e).2) hs.prog,
    (ownFrom_below (w₀ := w) (Nat.le_refl _) hw : OwnFrom B0 (fun (_ : Unit) W => Below w.heap.size w W)) () X Y row hs.below hg hr⟩
set_option maxRecDepth 100000 in
set_option maxHeartbeats 2000000 in
theorem names_check (p : Pg) (w : World) (a b c : Value) (hP : PgAt w p a b c) (hR : TabR w) (hJ : TabJ w) :
    CallsIn Fence.wide 20 Tryd.prog 10 #[pgV p a b c] w fun e W' => e = .returned (.int .i64 (nmErr p)) ∧ Below w.heap.size w W' := by
  have h22 : Fence.wide.fn 21 := trivial
  have h23 : Fence.wide.fn 22 := trivial
  have h24 : Fence.wide.fn 23 := trivial
  have h25 : Fence.wide.fn 24 := trivial
  obtain ⟨a0, a1, rfl, hl1, _, ho1, _⟩ := hP.ins
  obtain ⟨b0, b1, _, rfl, hl2, _, ho2, _⟩ := hP.flows
  obtain ⟨c0, c1, rfl, hl3, _, ho3, hc3⟩ := hP.outs
  have HP := hid hP
  have HC3 := hid hc3
  have HO3 := hid ho3
  have W1B : Below w.heap.size w ((w.alloc (.cells (pgC p (.slice a0 p.ins.length a1) (.slice b0 p.flows.length b1) (.slice c0 p.outs.length c1)) 26)).alloc (.cells #[.int .i64 0] 29)) := ((Below.refl w.heap.size w).alloc (Nat.le_refl _) _).alloc (by simp) _
  have hbp : ((w.alloc (.cells (pgC p (.slice a0 p.ins.length a1) (.slice b0 p.flows.length b1) (.slice c0 p.outs.length c1)) 26)).alloc (.cells #[.int .i64 0] 29)).heap[w.heap.size]? = some (.cells (pgC p (.slice a0 p.ins.length a1) (.slice b0 p.flows.length b1) (.slice c0 p.outs.length c1)) 26 (0, 0)) := by
    rw [Below.heap_alloc _ _ _ (by simp)]; exact heap_alloc_new w _
  have hbr : Boxed ((w.alloc (.cells (pgC p (.slice a0 p.ins.length a1) (.slice b0 p.flows.length b1) (.slice c0 p.outs.length c1)) 26)).alloc (.cells #[.int .i64 0] 29)) (w.heap.size + 1) 29 (.int .i64 0) := by
    have := Boxed.new (w.alloc (.cells (pgC p (.slice a0 p.ins.length a1) (.slice b0 p.flows.length b1) (.slice c0 p.outs.length c1)) 26)) 29 (.int .i64 0)
    simpa using this
  have c22 := (callsIn_wide (n := 19)).2 (prog_check p _ _ _ _ (hP.keep W1B) (hR.below W1B) (hJ.below W1B))
  clear hP hc3 ho1 ho2 ho3 hR hJ
  have x0 : ((w.alloc (.cells (pgC p (.slice a0 p.ins.length a1) (.slice b0 p.flows.length b1) (.slice c0 p.outs.length c1)) 26)).alloc (.cells #[.int .i64 0] 29)).cell? ⟨w.heap.size, 0, none⟩ = some (.int .i64 p.st) := by rw [cell_of_row _ _ _ _ 26 (0, 0) hbp]; rfl
  have x1 : ((w.alloc (.cells (pgC p (.slice a0 p.ins.length a1) (.slice b0 p.flows.length b1) (.slice c0 p.outs.length c1)) 26)).alloc (.cells #[.int .i64 0] 29)).cell? ⟨w.heap.size, 1, none⟩ = some (.slice a0 p.ins.length a1) := by rw [cell_of_row _ _ _ _ 26 (0, 0) hbp]; rfl
  have x2 : ((w.alloc (.cells (pgC p (.slice a0 p.ins.length a1) (.slice b0 p.flows.length b1) (.slice c0 p.outs.length c1)) 26)).alloc (.cells #[.int .i64 0] 29)).cell? ⟨w.heap.size, 2, none⟩ = some (.slice b0 p.flows.length b1) := by rw [cell_of_row _ _ _ _ 26 (0, 0) hbp]; rfl
  have x3 : ((w.alloc (.cells (pgC p (.slice a0 p.ins.length a1) (.slice b0 p.flows.length b1) (.slice c0 p.outs.length c1)) 26)).alloc (.cells #[.int .i64 0] 29)).cell? ⟨w.heap.size, 3, none⟩ = some (.slice c0 p.outs.length c1) := by rw [cell_of_row _ _ _ _ 26 (0, 0) hbp]; rfl
  have HBP := hid hbp
  have HBR := hid hbr
  have HWB := hid W1B
  clear hbp hbr W1B
  refine callsIn_of_wp_marks Tryd.func10 rfl trivial ?_ rfl
  simp only [Tryd.ntmps10, List.size_toArray, List.length_cons, List.length_nil, Nat.reduceAdd, Nat.reduceSub, Array.replicate_succ, Array.replicate_zero, List.push_toArray, List.append_toArray, List.nil_append, List.cons_append]
  cases hk : pgOk p with
  | false =>
    rw [hk] at c22
    have HE : Hid (nmErr p = 1) := hid (by unfold nmErr; rw [hk]; rfl)
    clear hk
    gi_wp2_with (gi_at_call 21; refine c22.mono ?_; rintro e w3 ⟨rfl, hb3⟩; have hr3 : Boxed w3 (w.heap.size + 1) 29 (.int .i64 0) := (hb3.block _ HBR.out.lt).trans HBR.out; have d3 := hr3.cell; have f3 := hr3.frozen; have HR3 := hid hr3; have HB3 := hid hb3; clear hb3 hr3)
    have hr' := HR3.out.set (.int .i64 1)
    have e2 := hr'.cell
    exact ⟨.int .i64 1, by simp [results, Tryd.f10, go_sem, e2], by rw [HE.out], (HWB.out.trans (HB3.out.mono HWB.out.size)).setCell (p := ⟨w.heap.size + 1, 0, none⟩) (by simp) _⟩
  | true =>
    rw [hk] at c22
    have HE : Hid (nmErr p = if nmOk p then 0 else 6) := hid (by unfold nmErr; rw [hk]; rfl)
    have HCK := hid (pgOk_chk hk)
    have hrm : p.ins.length ≤ 64 ∧ p.flows.length ≤ 128 ∧ p.outs.length ≤ p.ins.length + p.flows.length := by
      unfold pgOk roomOk at hk
      simp only [Bool.and_eq_true, decide_eq_true_eq] at hk
      exact hk.1.2
    clear hk
    gi_wp2_with (first
      | (gi_at_call 21; refine c22.mono ?_; rintro e w3 ⟨rfl, hb3⟩; have hp3 := (hb3.block _ (Array.getElem?_eq_some_iff.1 HBP.out).1).trans HBP.out; have hw3 := HWB.out.trans (hb3.mono HWB.out.size)
         have y0 : w3.cell? ⟨w.heap.size, 0, none⟩ = some (.int .i64 p.st) := by rw [cell_of_row _ _ _ _ 26 (0, 0) hp3]; rfl
         have y1 : w3.cell? ⟨w.heap.size, 1, none⟩ = some (.slice a0 p.ins.length a1) := by rw [cell_of_row _ _ _ _ 26 (0, 0) hp3]; rfl
         have y2 : w3.cell? ⟨w.heap.size, 2, none⟩ = some (.slice b0 p.flows.length b1) := by rw [cell_of_row _ _ _ _ 26 (0, 0) hp3]; rfl
         have y3 : w3.cell? ⟨w.heap.size, 3, none⟩ = some (.slice c0 p.outs.length c1) := by rw [cell_of_row _ _ _ _ 26 (0, 0) hp3]; rfl
         have hr3 : Boxed w3 (w.heap.size + 1) 29 (.int .i64 0) := (hb3.block _ HBR.out.lt).trans HBR.out
         have c23 := counted_in Fence.wide 19 trivial trivial trivial rfl (by omega) p w3 _ _ _ (HP.out.keep hw3)
         have HP3 := hid hp3; have HR3 := hid hr3; have HW3 := hid hw3; clear hp3 hr3 hw3 hb3 c22)
      | (gi_at_call 22; refine c23.mono ?_; rintro e w4 ⟨rfl, hm4, hb4⟩; have hp4 := (Below.heap_alloc w4 (.cells #[.map (some (w3.heap.size + 1))] 55) _ (Nat.lt_of_lt_of_le (Array.getElem?_eq_some_iff.1 HP3.out).1 hb4.size)).trans ((hb4.block _ (Array.getElem?_eq_some_iff.1 HP3.out).1).trans HP3.out)
         have z0 : (w4.alloc (.cells #[.map (some (w3.heap.size + 1))] 55)).cell? ⟨w.heap.size, 0, none⟩ = some (.int .i64 p.st) := by rw [cell_of_row _ _ _ _ 26 (0, 0) hp4]; rfl
         have z1 : (w4.alloc (.cells #[.map (some (w3.heap.size + 1))] 55)).cell? ⟨w.heap.size, 1, none⟩ = some (.slice a0 p.ins.length a1) := by rw [cell_of_row _ _ _ _ 26 (0, 0) hp4]; rfl
         have z2 : (w4.alloc (.cells #[.map (some (w3.heap.size + 1))] 55)).cell? ⟨w.heap.size, 2, none⟩ = some (.slice b0 p.flows.length b1) := by rw [cell_of_row _ _ _ _ 26 (0, 0) hp4]; rfl
         have z3 : (w4.alloc (.cells #[.map (some (w3.heap.size + 1))] 55)).cell? ⟨w.heap.size, 3, none⟩ = some (.slice c0 p.outs.length c1) := by rw [cell_of_row _ _ _ _ 26 (0, 0) hp4]; rfl
         have HM4 := hid hm4; have HB4 := hid hb4; have HP4 := hid hp4; clear hm4 hb4 hp4 c23)
      | (gi_at_call 23; refine (things Fence.wide 19 trivial rfl p _ _ _ _).mono ?_; rintro e w' ⟨rfl, rfl⟩))
    clear y0 y1 y2 y3 z0 z1 z2 z3 x0 x1 x2 x3
    have hm4 := HM4.out
    have hlt4 := hm4.lt
    have hsz : ((w4.alloc (.cells #[.map (some (w3.heap.size + 1))] 55)).alloc (.cells (pgC p (.slice a0 p.ins.length a1) (.slice b0 p.flows.length b1) (.slice c0 p.outs.length c1)) 26)).heap.size = w4.heap.size + 2 := by simp
    have g1 := World.grownBy_alloc w4 (.cells #[.map (some (w3.heap.size + 1))] 55) none
    have g2 := World.grownBy_alloc (w4.alloc (.cells #[.map (some (w3.heap.size + 1))] 55)) (.cells (pgC p (.slice a0 p.ins.length a1) (.slice b0 p.flows.length b1) (.slice c0 p.outs.length c1)) 26) none
    have hw3 := HW3.out.size
    have hr4 : Boxed w4 (w.heap.size + 1) 29 (.int .i64 0) := (HB4.out.block _ HR3.out.lt).trans HR3.out
    have ck0 : CK w p (pgC p (.slice a0 p.ins.length a1) (.slice b0 p.flows.length b1) (.slice c0 p.outs.length c1)) (w3.heap.size + 1) w4.heap.size ((w4.alloc (.cells #[.map (some (w3.heap.size + 1))] 55)).alloc (.cells (pgC p (.slice a0 p.ins.length a1) (.slice b0 p.flows.length b1) (.slice c0 p.outs.length c1)) 26)) :=
      ⟨⟨_, (hm4.kept g1 (by simp)).kept g2 (by simp)⟩, (Below.heap_alloc _ _ _ (by simp)).trans (heap_alloc_new w4 _), (hr4.alloc _).alloc _, (Below.heap_alloc _ _ _ (Array.getElem?_eq_some_iff.1 HP4.out).1).trans HP4.out, (((HW3.out.trans (HB4.out.mono hw3)).alloc (by have := HB4.out.size; omega) _).alloc (by have := HB4.out.size; simp; omega) _)⟩
    have q0 : ((w4.alloc (.cells #[.map (some (w3.heap.size + 1))] 55)).alloc (.cells (pgC p (.slice a0 p.ins.length a1) (.slice b0 p.flows.length b1) (.slice c0 p.outs.length c1)) 26)).heap[w4.heap.size + 1]? = some (.cells (pgC p (.slice a0 p.ins.length a1) (.slice b0 p.flows.length b1) (.slice c0 p.outs.length c1)) 26 (0, 0)) := by
      have := heap_alloc_new (w4.alloc (.cells #[.map (some (w3.heap.size + 1))] 55)) (.cells (pgC p (.slice a0 p.ins.length a1) (.slice b0 p.flows.length b1) (.slice c0 p.outs.length c1)) 26)
      simpa using this
    have hr3l := HR3.out.lt
    obtain ⟨W0, hW0⟩ : ∃ W0, ((w4.alloc (.cells #[.map (some (w3.heap.size + 1))] 55)).alloc (.cells (pgC p (.slice a0 p.ins.length a1) (.slice b0 p.flows.length b1) (.slice c0 p.outs.length c1)) 26)) = W0 := ⟨_, rfl⟩
    rw [hW0] at hsz ck0 q0 ⊢
    clear hW0 g1 g2 hm4 hr4 HM4 HB4 HP4 HP3 HR3 HW3 HBP HBR HWB
    obtain ⟨mb, hmb⟩ : ∃ mb, w3.heap.size + 1 = mb := ⟨_, rfl⟩
    obtain ⟨vb, hvb⟩ : ∃ vb, w4.heap.size = vb := ⟨_, rfl⟩
    have hrb : w.heap.size + 1 < mb := by omega
    rw [hmb] at hlt4 ck0 ⊢
    rw [hvb] at hlt4 ck0 q0 hsz ⊢
    clear hmb hvb hr3l hw3
    refine wpIn_rangeFunc_ownH rfl (by omega) (gf := 42) (lb := #[.pointer (some ⟨vb + 1, 0, none⟩)]) rfl trivial (enters_of Tryd.func42 (by kernel_rfl) rfl)
      (things_stops2 Fence.wide 19 trivial rfl (by omega) (vb + 1) p _ _ _ w W0 HP.out ck0.below q0) KpT.trans (fun W l o o' hl ho hc hw => ⟨belowK_b (w := W0) (by omega) W l o o' hl ho hc hw, (grownBy_putObj' W l o').block _ (by have := (Array.getElem?_eq_some_iff.1 ho).1; omega) (by intro e; injection e with e; omega)⟩) (Below.refl _ _) (fun _ => rfl)
      (fun pre W => FineT p pre ∧ (CK w p (pgC p (.slice a0 p.ins.length a1) (.slice b0 p.flows.length b1) (.slice c0 p.outs.length c1)) mb vb W ∧ W0.heap.size ≤ W.heap.size))
      (fun c pre W => ∃ (q : List Tg) (x : Tg), (c = .ret ∧ pre = q ++ [x] ∧ twice p x.1.2.name = true) ∧ Boxed W (w.heap.size + 1) 29 (.int .i64 6) ∧ Below w.heap.size w W)
      (fun pre X Y row hs hg hr => ⟨hs.1, CK.own (by omega) (by omega) () X Y row hs.2.1 hg hr, Nat.le_trans hs.2.2 hg.size⟩)
      (fun c pre X Y row hs hg hr => by
        obtain ⟨q, x, e, e2, e3⟩ := hs
        exact ⟨q, x, e, box_turn e2 hg hr, (ownFrom_below (w₀ := w) (Nat.le_refl _) (by omega) : OwnFrom W0.heap.size (fun (_ : Unit) W => Below w.heap.size w W)) () X Y row e3 hg hr⟩)
      ⟨(fun _ h => by cases h), ck0, Nat.le_refl _⟩
      (fun x a' W => ∃ Bx, W0.heap.size ≤ Bx ∧ W.heap[Bx]? = some (.cells #[.string x.1.2.name, .int .u8 (x.1.2.ty : Int), .int .i64 x.1.2.st] 61 (0, 0)) ∧ a' = { tmps := #[pgV p (.slice a0 p.ins.length a1) (.slice b0 p.flows.length b1) (.slice c0 p.outs.length c1), .pointer (some ⟨w.heap.size, 0, none⟩), .pointer (some ⟨w.heap.size + 1, 0, none⟩), .pointer (some ⟨vb, 0, none⟩), undef, .pointer (some ⟨Bx, 0, none⟩), undef, undef, undef, undef, pgV p (.slice a0 p.ins.length a1) (.slice b0 p.flows.length b1) (.slice c0 p.outs.length c1), .bool true, .bool false, pgV p (.slice a0 p.ins.length a1) (.slice b0 p.flows.length b1) (.slice c0 p.outs.length c1), .map (some mb), pgV p (.slice a0 p.ins.length a1) (.slice b0 p.flows.length b1) (.slice c0 p.outs.length c1), .func (.func 42) #[] #[.pointer (some ⟨vb + 1, 0, none⟩)], .int .i64 x.1.1, hdV x.1.2, undef, undef, undef, undef, undef, undef, undef, undef, undef, undef, undef, undef, undef, undef, undef, undef, undef, undef, undef, undef, undef, undef, undef, undef, undef, undef, undef, undef, undef, undef, undef, undef, undef], defers := [] })
      (fun x a' _ X Y row hs hg hr => by obtain ⟨Bx, e1, e2, e3⟩ := hs; exact ⟨Bx, e1, cells_turn hg (fun r e => (hr r e).2) e2, e3⟩)
      ?assign ?body ?done ?stop
    case assign =>
      rintro l pre x W K ⟨hf, ck, hz⟩ hK
      gi_wp2
      exact hK _ _ ((KeepsOthers.alloc _ _).from _) ⟨(Below.refl _ W).alloc (by omega) _, Below.heap_alloc _ _ _ (by omega)⟩ ⟨hf, ck.keep ((Below.refl _ W).alloc (Nat.le_refl _) _), by simp; omega⟩ ⟨W.heap.size, hz, World.alloc_heap_new W _, rfl⟩
    case body =>
      rintro l pre x a' W hl _ ⟨hf, ck, hz⟩ ⟨Bx, hBx, hRow, rfl⟩ hlt
      have cV : W.cell? ⟨vb, 0, none⟩ = some (.map (some mb)) := by rw [cell_of_row _ _ _ _ 55 (0, 0) ck.var]; rfl
      have cN : W.cell? ⟨Bx, 0, none⟩ = some (.string x.1.2.name) := by rw [cell_of_row _ _ _ _ 61 (0, 0) hRow]; rfl
      have d3 := ck.res.cell
      have f3 := ck.res.frozen
      obtain ⟨nM, hM⟩ := ck.map
      have hlk := hM.look x.2
      have htl : tly (thingsL p) p.outs x.1.2.name.data.toList = ((cntT (thingsL p) x.1.2.name.data.toList : Int), (cntO p.outs x.1.2.name.data.toList : Int)) := rfl
      rw [htl] at hlk
      have HT : Hid (twice p x.1.2.name = decide (1 < cntT (thingsL p) x.1.2.name.data.toList)) := hid rfl
      generalize cntT (thingsL p) x.1.2.name.data.toList = N at *
      generalize cntO p.outs x.1.2.name.data.toList = M at *
      have HC := hid ck
      have HF := hid hf
      clear ck hM hRow htl hf
      dsimp only [tlV] at hlk
      have hfd := field61
      by_cases hN : 1 < N
      · have hN1 : (1 : Int) < (N : Int) := by omega
        gi_wp2_with (gi_at_lookup; refine wpListIn_look rfl (.tmp 19) (.tmp 21) 55 rfl _ hlk ?_)
        exact ⟨(KeepsOthers.setCell _ _ _).from _, pre, x, ⟨rfl, rfl, by rw [HT.out]; simpa using hN⟩, HC.out.res.set _, HC.out.below.setCell (p := ⟨w.heap.size + 1, 0, none⟩) (by simp) _⟩
      · have hN1 : ¬ (1 : Int) < (N : Int) := by omega
        gi_wp2_with (gi_at_lookup; refine wpListIn_look rfl (.tmp 19) (.tmp 21) 55 rfl _ hlk ?_)
        refine ⟨KeepsFrom.refl _ _, ⟨Below.refl _ _, rfl⟩, fun y hy => ?_, HC.out, by omega⟩
        rcases List.mem_append.1 hy with hy | hy
        · exact HF.out y hy
        · simp only [List.mem_singleton] at hy
          rw [hy, HT.out]; simpa using hN
    case done =>
      rintro D1 ys W hD hys ⟨hf, ck, hz⟩ hK
      have HT1 : Hid ((thingsL p).all (fun x => !twice p x.2.name) = true) := hid (by
        rw [List.all_eq_true]
        intro x hx
        rw [← hys] at hx
        obtain ⟨y, hy, rfl⟩ := List.mem_map.1 hx
        simp [hf y hy])
      clear hf hys ck0 q0
      have s0 : W.cell? ⟨w.heap.size, 0, none⟩ = some (.int .i64 p.st) := by rw [cell_of_row _ _ _ _ 26 (0, 0) ck.prog]; rfl
      have s1 : W.cell? ⟨w.heap.size, 1, none⟩ = some (.slice a0 p.ins.length a1) := by rw [cell_of_row _ _ _ _ 26 (0, 0) ck.prog]; rfl
      have s2 : W.cell? ⟨w.heap.size, 2, none⟩ = some (.slice b0 p.flows.length b1) := by rw [cell_of_row _ _ _ _ 26 (0, 0) ck.prog]; rfl
      have s3 : W.cell? ⟨w.heap.size, 3, none⟩ = some (.slice c0 p.outs.length c1) := by rw [cell_of_row _ _ _ _ 26 (0, 0) ck.prog]; rfl
      have hal : Below W.heap.size W (W.alloc (.cells (pgC p (.slice a0 p.ins.length a1) (.slice b0 p.flows.length b1) (.slice c0 p.outs.length c1)) 26)) := (Below.refl _ W).alloc (Nat.le_refl _) _
      have ck1 := ck.keep hal
      have q1 := heap_alloc_new W (.cells (pgC p (.slice a0 p.ins.length a1) (.slice b0 p.flows.length b1) (.slice c0 p.outs.length c1)) 26)
      have hD1 := (Array.getElem?_eq_some_iff.1 hK).1
      have hK1 := (Below.heap_alloc W (.cells (pgC p (.slice a0 p.ins.length a1) (.slice b0 p.flows.length b1) (.slice c0 p.outs.length c1)) 26) _ hD1).trans hK
      have hsz5 : (W.alloc (.cells (pgC p (.slice a0 p.ins.length a1) (.slice b0 p.flows.length b1) (.slice c0 p.outs.length c1)) 26)).heap.size = W.heap.size + 1 := by simp
      have CK1 := hid ck1
      have Q1 := hid q1
      have HK1 := hid hK1
      have HSZ5 := hid hsz5
      clear ck ck1 q1 hK hK1 hsz5 hal
      gi_wp2_with (gi_at_call 24; refine (asked 19 p _ _ _ _).mono ?_; rintro e w' ⟨rfl, rfl⟩)
      clear s0 s1 s2 s3
      obtain ⟨W5, hW5⟩ : ∃ W5, (W.alloc (.cells (pgC p (.slice a0 p.ins.length a1) (.slice b0 p.flows.length b1) (.slice c0 p.outs.length c1)) 26)) = W5 := ⟨_, rfl⟩
      obtain ⟨bn, hbn⟩ : ∃ bn, W.heap.size = bn := ⟨_, rfl⟩
      rw [hW5] at CK1 Q1 HK1 HSZ5 ⊢
      rw [hbn] at hz hD1 Q1 HSZ5 ⊢
      clear hW5 hbn
      have ck1 := CK1.out
      have q1 := Q1.out
      have hK1 := HK1.out
      have hsz5 := HSZ5.out
      refine wpIn_rangeFunc_ownH rfl (by omega) (gf := 43) (lb := #[.pointer (some ⟨bn, 0, none⟩)]) rfl trivial (enters_of Tryd.func43 (by kernel_rfl) rfl)
        (asked_stops 19 (by omega) bn p _ _ _ w W5 HP.out HCK.out ck1.below q1) KpA.trans (fun W l o o' hl ho hc hw => ⟨belowK_b (w := W5) (by omega) W l o o' hl ho hc hw, fun a v e => Go.cell_kept e (grownBy_putObj' W l o') (fun r e => by cases e; exact ⟨_, ho, hc⟩)⟩) (Below.refl _ _) (fun _ => rfl)
        (fun pre V => (∀ x ∈ pre, none_ p x.1 = false) ∧ (CK w p (pgC p (.slice a0 p.ins.length a1) (.slice b0 p.flows.length b1) (.slice c0 p.outs.length c1)) mb vb V ∧ V.heap[D1]? = some (.deferred (some []))))
        (fun c pre V => ∃ (q : List Ts) (x : Ts), (c = .ret ∧ pre = q ++ [x] ∧ none_ p x.1 = true) ∧ Boxed V (w.heap.size + 1) 29 (.int .i64 6) ∧ Below w.heap.size w V ∧ V.heap[D1]? = some (.deferred (some [])))
        (fun pre X Y row hs hg hr => ⟨hs.1, CK.own (by omega) (by omega) () X Y row hs.2.1 hg hr, (hg.block D1 (Array.getElem?_eq_some_iff.1 hs.2.2).1 (fun e => by have := (hr _ e.symm).1; omega)).trans hs.2.2⟩)
        (fun c pre X Y row hs hg hr => by
          obtain ⟨q, x, e, e2, e3, e4⟩ := hs
          exact ⟨q, x, e, box_turn e2 hg hr, (ownFrom_below (w₀ := w) (Nat.le_refl _) (by omega) : OwnFrom W5.heap.size (fun (_ : Unit) W => Below w.heap.size w W)) () X Y row e3 hg hr, (hg.block D1 (Array.getElem?_eq_some_iff.1 e4).1 (fun e => by have := (hr _ e.symm).1; omega)).trans e4⟩)
        ⟨(by simp), ck1, hK1⟩
        (fun x a' V => a' = { tmps := #[pgV p (.slice a0 p.ins.length a1) (.slice b0 p.flows.length b1) (.slice c0 p.outs.length c1), .pointer (some ⟨w.heap.size, 0, none⟩), .pointer (some ⟨w.heap.size + 1, 0, none⟩), .pointer (some ⟨vb, 0, none⟩), undef, undef, .string x.1, undef, undef, undef, pgV p (.slice a0 p.ins.length a1) (.slice b0 p.flows.length b1) (.slice c0 p.outs.length c1), .bool true, .bool false, pgV p (.slice a0 p.ins.length a1) (.slice b0 p.flows.length b1) (.slice c0 p.outs.length c1), .map (some mb), pgV p (.slice a0 p.ins.length a1) (.slice b0 p.flows.length b1) (.slice c0 p.outs.length c1), .func (.func 42) #[] #[.pointer (some ⟨vb + 1, 0, none⟩)], undef, undef, undef, undef, undef, undef, undef, undef, pgV p (.slice a0 p.ins.length a1) (.slice b0 p.flows.length b1) (.slice c0 p.outs.length c1), .func (.func 43) #[] #[.pointer (some ⟨bn, 0, none⟩)], .string x.1, undef, undef, undef, undef, undef, undef, undef, undef, undef, undef, undef, undef, undef, undef, undef, undef, undef, undef, undef, undef, undef, undef, undef, undef], defers := [] })
        (fun x a' _ X Y row hs hg hr => hs)
        ?assign2 ?body2 ?done2 ?stop2
      case assign2 =>
        rintro l pre x V K hI hK
        gi_wp2
        exact hK _ _ (KeepsFrom.refl _ _) ⟨Below.refl _ _, fun _ _ h => h⟩ hI rfl
      case body2 =>
        rintro l pre x a' V hl _ ⟨hf, ck, hk1⟩ rfl hlt
        have cV : V.cell? ⟨vb, 0, none⟩ = some (.map (some mb)) := by rw [cell_of_row _ _ _ _ 55 (0, 0) ck.var]; rfl
        have d3 := ck.res.cell
        have f3 := ck.res.frozen
        obtain ⟨nM, hM⟩ := ck.map
        have hlk := hM.look x.2
        have htl : tly (thingsL p) p.outs x.1.data.toList = ((cntT (thingsL p) x.1.data.toList : Int), (cntO p.outs x.1.data.toList : Int)) := rfl
        rw [htl] at hlk
        have HT : Hid (none_ p x.1 = decide (cntT (thingsL p) x.1.data.toList = 0)) := hid rfl
        generalize cntT (thingsL p) x.1.data.toList = N at *
        generalize cntO p.outs x.1.data.toList = M at *
        have HC := hid ck
        have HF := hid hf
        have HK0 := hid hk1
        clear ck hM htl hf hk1
        dsimp only [tlV] at hlk
        have hfd := field61
        by_cases hN : N = 0
        · have hN1 : ((N : Int) == 0) = true := by simp [hN]
          have HN := hid hN
          clear hN
          gi_wp2_with (gi_at_lookup; refine wpListIn_look rfl (.tmp 28) (.tmp 29) 55 rfl _ hlk ?_)
          exact ⟨(KeepsOthers.setCell _ _ _).from _, pre, x, ⟨rfl, rfl, by rw [HT.out]; simpa using HN.out⟩, HC.out.res.set _, HC.out.below.setCell (p := ⟨w.heap.size + 1, 0, none⟩) (by simp) _, ((KeepsOthers.setCell _ _ _).same _ _ HK0.out rfl)⟩
        · have hN1 : ((N : Int) == 0) = false := by simp [hN]
          have HN := hid hN
          clear hN
          gi_wp2_with (gi_at_lookup; refine wpListIn_look rfl (.tmp 28) (.tmp 29) 55 rfl _ hlk ?_)
          refine ⟨KeepsFrom.refl _ _, ⟨Below.refl _ _, fun _ _ h => h⟩, fun y hy => ?_, HC.out, HK0.out⟩
          rcases List.mem_append.1 hy with hy | hy
          · exact HF.out y hy
          · simp only [List.mem_singleton] at hy
            rw [hy, HT.out]; simpa using HN.out
      case done2 =>
        rintro D2 ys V hD2 hys ⟨hf, ck, hk1⟩ hk2
        have HT2 : Hid ((askedL p).all (fun s => !none_ p s) = true) := hid (by
          rw [List.all_eq_true]
          intro s hs
          rw [← hys] at hs
          obtain ⟨y, hy, rfl⟩ := List.mem_map.1 hs
          simp [hf y hy])
        clear hf hys ck1 q1 hK1 CK1 Q1 HK1
        have cP : V.cell? ⟨w.heap.size, 3, none⟩ = some (.slice c0 p.outs.length c1) := by rw [cell_of_row _ _ _ _ 26 (0, 0) ck.prog]; rfl
        have HC := hid ck
        have HK1 := hid hk1
        have HK2 := hid hk2
        clear ck hk1 hk2
        gi_wp2
        gi_loopw [36] (fun i wr => ∃ k : Nat, k ≤ p.outs.length ∧ i = .int .i64 (k : Int) ∧ Hid ((p.outs.take k).all (fun s => !(none_ p s || told p s)) = true) ∧ Hid (Below V.heap.size V wr)) (fun i wr => p.outs.length - (intOf i).toNat)
        case atStart => exact ⟨0, Nat.zero_le _, rfl, hid rfl, hid (Below.refl _ _)⟩
        case round =>
          obtain ⟨k, hk, rfl, hA, hB⟩ := hrel
          have ck := HC.out.keep hB.out
          by_cases hlt : k < p.outs.length
          · have hlt' : (k : Int) < (p.outs.length : Int) := by omega
            have hk0 : (0 : Int) ≤ (k : Int) := by omega
            obtain ⟨bb, o, rfl, hcc⟩ := HC3.out.resolve_left (by omega)
            have v0 := cell_kept (hcc k hlt) ck.below
            have hy := HO3.out p.outs[k] (List.getElem_mem hlt)
            have HM : Hid (p.outs[k] ∈ p.outs) := hid (List.getElem_mem hlt)
            have cV : wr.cell? ⟨vb, 0, none⟩ = some (.map (some mb)) := by rw [cell_of_row _ _ _ _ 55 (0, 0) ck.var]; rfl
            obtain ⟨nM, hM⟩ := ck.map
            have hlk := hM.look hy
            have htl : tly (thingsL p) p.outs p.outs[k].data.toList = ((cntT (thingsL p) p.outs[k].data.toList : Int), (cntO p.outs p.outs[k].data.toList : Int)) := rfl
            rw [htl] at hlk
            have HN : Hid (none_ p p.outs[k] = decide (cntT (thingsL p) p.outs[k].data.toList = 0)) := hid rfl
            have HO : Hid (told p p.outs[k] = decide (1 < cntO p.outs p.outs[k].data.toList)) := hid rfl
            have HTK : Hid ((none_ p p.outs[k] || told p p.outs[k]) = false → (p.outs.take (k + 1)).all (fun s => !(none_ p s || told p s)) = true) := hid (fun h => by
              rw [List.take_succ_eq_append_getElem hlt, List.all_append, hA.out, Bool.true_and]
              simp only [List.all_cons, List.all_nil, Bool.and_true]
              rw [h]; rfl)
            clear hcc htl hM hy
            generalize p.outs[k] = y at *
            generalize cntT (thingsL p) y.data.toList = N at *
            generalize cntO p.outs y.data.toList = M at *
            have hB1 := hB.out.alloc hB.out.size (.cells #[.int .i64 (N : Int), .int .i64 (M : Int)] 63)
            have hr1 := ck.res.alloc (.cells #[.int .i64 (N : Int), .int .i64 (M : Int)] 63)
            have d3 := hr1.cell
            have f3 := hr1.frozen
            have HB1 := hid hB1
            have HR1 := hid hr1
            clear hB1 hr1 ck
            dsimp only [tlV] at hlk
            by_cases hg : (none_ p y || told p y) = true
            · have HG := hid (nmOk_told HM.out hg)
              have hor : ((N : Int) == 0) = true ∨ (((N : Int) == 0) = false ∧ (1 : Int) < (M : Int)) := by
                rw [HN.out, HO.out] at hg
                by_cases hN0 : N = 0
                · exact .inl (by simp [hN0])
                · refine .inr ⟨by simp [hN0], ?_⟩
                  simp [hN0] at hg
                  omega
              clear hg
              rcases hor with hN1 | ⟨hN1, hM1⟩
              · gi_wp2_with (gi_at_lookup; refine wpListIn_look rfl (.tmp 40) (.tmp 41) 55 rfl _ hlk ?_)
                obtain ⟨l1, l2, l3⟩ := leave2 (w := w) (v := .int .i64 6) ((KeepsOthers.setCell _ _ _).same _ _ ((HB1.out.block _ (Array.getElem?_eq_some_iff.1 HK2.out).1).trans HK2.out) rfl) ((KeepsOthers.setCell _ _ _).same _ _ ((HB1.out.block _ (Array.getElem?_eq_some_iff.1 HK1.out).1).trans HK1.out) rfl) (by omega) (by omega) (HR1.out.set (.int .i64 6)) ((HC.out.below.trans (HB1.out.mono HC.out.below.size)).setCell (p := ⟨w.heap.size + 1, 0, none⟩) (by simp) _)
                refine ⟨by simp, .inl ⟨_, _, rfl, run_takeDeferred ((KeepsOthers.setCell _ _ _).same _ _ ((HB1.out.block _ (Array.getElem?_eq_some_iff.1 HK2.out).1).trans HK2.out) rfl), ⟨by simp, .inl ⟨_, _, rfl, run_takeDeferred l1, ?_⟩⟩⟩⟩
                exact ⟨.int .i64 6, by simp [results, Tryd.f10, go_sem, l2], by rw [HE.out, HG.out]; rfl, l3⟩
              · gi_wp2_with (gi_at_lookup; refine wpListIn_look rfl (.tmp 40) (.tmp 41) 55 rfl _ hlk ?_)
                obtain ⟨l1, l2, l3⟩ := leave2 (w := w) (v := .int .i64 6) ((KeepsOthers.setCell _ _ _).same _ _ ((HB1.out.block _ (Array.getElem?_eq_some_iff.1 HK2.out).1).trans HK2.out) rfl) ((KeepsOthers.setCell _ _ _).same _ _ ((HB1.out.block _ (Array.getElem?_eq_some_iff.1 HK1.out).1).trans HK1.out) rfl) (by omega) (by omega) (HR1.out.set (.int .i64 6)) ((HC.out.below.trans (HB1.out.mono HC.out.below.size)).setCell (p := ⟨w.heap.size + 1, 0, none⟩) (by simp) _)
                refine ⟨by simp, .inl ⟨_, _, rfl, run_takeDeferred ((KeepsOthers.setCell _ _ _).same _ _ ((HB1.out.block _ (Array.getElem?_eq_some_iff.1 HK2.out).1).trans HK2.out) rfl), ⟨by simp, .inl ⟨_, _, rfl, run_takeDeferred l1, ?_⟩⟩⟩⟩
                exact ⟨.int .i64 6, by simp [results, Tryd.f10, go_sem, l2], by rw [HE.out, HG.out]; rfl, l3⟩
            · have hg0 : (none_ p y || told p y) = false := by simpa using hg
              have HG := hid (HTK.out hg0)
              have hor : ((N : Int) == 0) = false ∧ ¬ (1 : Int) < (M : Int) := by
                rw [HN.out, HO.out] at hg0
                simp at hg0
                exact ⟨by simp; omega, by omega⟩
              clear hg hg0
              obtain ⟨hN1, hM1⟩ := hor
              gi_wp2_with (gi_at_lookup; refine wpListIn_look rfl (.tmp 40) (.tmp 41) 55 rfl _ hlk ?_)
              go_roundw
              case rel => exact ⟨k + 1, by omega, by go_num, HG, HB1⟩
              case measure => simp [intOf]; omega
          · have hlt' : ¬ (k : Int) < (p.outs.length : Int) := by omega
            have HN : Hid (nmOk p = true) := hid (by
              have h3 := hA.out
              rw [List.take_of_length_le (by omega)] at h3
              unfold nmOk
              rw [HT1.out, HT2.out, h3]; rfl)
            have d3 := ck.res.cell
            have f3 := ck.res.frozen
            have HR1 := hid ck.res
            clear ck
            gi_wp2
            obtain ⟨l1, l2, l3⟩ := leave2 (w := w) (v := .int .i64 0) ((KeepsOthers.setCell _ _ _).same _ _ ((hB.out.block _ (Array.getElem?_eq_some_iff.1 HK2.out).1).trans HK2.out) rfl) ((KeepsOthers.setCell _ _ _).same _ _ ((hB.out.block _ (Array.getElem?_eq_some_iff.1 HK1.out).1).trans HK1.out) rfl) (by omega) (by omega) (HR1.out.set (.int .i64 0)) ((HC.out.below.trans (hB.out.mono HC.out.below.size)).setCell (p := ⟨w.heap.size + 1, 0, none⟩) (by simp) _)
            refine ⟨by simp, .inl ⟨_, _, rfl, run_takeDeferred ((KeepsOthers.setCell _ _ _).same _ _ ((hB.out.block _ (Array.getElem?_eq_some_iff.1 HK2.out).1).trans HK2.out) rfl), ⟨by simp, .inl ⟨_, _, rfl, run_takeDeferred l1, ?_⟩⟩⟩⟩
            exact ⟨.int .i64 0, by simp [results, Tryd.f10, go_sem, l2], by rw [HE.out, HN.out]; rfl, l3⟩
      case stop2 =>
        rintro D2 c pre V hD2 hpre ⟨q, x, ⟨rfl, rfl, hx⟩, hr, hB1, hk1⟩ hK2
        have HN := hid (nmOk_none (hpre.subset (by simp)) hx)
        clear hpre hx
        gi_wp2
        obtain ⟨l1, l2, l3⟩ := leave2 hK2 hk1 (by omega) (by omega) hr hB1
        refine ⟨by simp, .inl ⟨_, _, rfl, run_takeDeferred hK2, ⟨by simp, .inl ⟨_, _, rfl, run_takeDeferred l1, ?_⟩⟩⟩⟩
        exact ⟨.int .i64 6, by simp [results, Tryd.f10, go_sem, l2], by rw [HE.out, HN.out]; rfl, l3⟩
    case stop =>
      rintro D1 c pre W hD hpre ⟨q, x, ⟨rfl, rfl, hx⟩, hr, hB1⟩ hK
      have HN := hid (nmOk_twice (hpre.subset (by simp)) hx)
      clear hpre hx
      gi_wp2
      refine ⟨by simp, .inl ⟨_, _, rfl, run_takeDeferred hK, ?_⟩⟩
      have e2 : (W.putObj D1 (.deferred none)).cell? ⟨w.heap.size + 1, 0, none⟩ = some (.int .i64 6) := Go.cell_kept hr.cell (grownBy_putObj' _ D1 (.deferred none)) (fun r e => by cases e; exact ⟨_, hK, rfl⟩)
      exact ⟨.int .i64 6, by simp [results, Tryd.f10, go_sem, e2], by rw [HE.out, HN.out]; rfl, hB1.trans (belowK_b (w := w) (Nat.le_refl _) W D1 _ _ (by omega) hK rfl rfl)⟩
end Go.Proofs.YtjdlmhkfaodkgaaDoor.Lex
namespace Go.Proofs.YtjdlmhkfaodkgaaDoor.Lex
open Go.ChangeShapes Go.WideShapes Go.ChangeAt Go.RowKit Go.Joins
set_option maxRecDepth 100000 in
set_option maxHeartbeats 1000000 in
theorem ins_size (l : List Hd) (w : World) (s : Value) (hS : InsAt w l s) :
    Calls Tryd.prog 33 #[s] w fun e w' => (∃ m : Int, e = .returned (.int .i64 m)) ∧ Below w.heap.size w w' := by
  obtain ⟨ao, cap, rfl, hlen, _, hok, hc⟩ := hS
  have HC := hid hc
  have HO := hid hok
  clear hc hok
  go_enter Tryd.func33, Tryd.ntmps33
  go_wp2
  go_loopw [3, 4] (fun n i wr => ∃ (z : Int) (k : Nat), k ≤ l.length ∧ n = .int .i64 z ∧ i = .int .i64 (k : Int) ∧ Hid (Below w.heap.size w wr)) (fun _ i _ => l.length - (intOf i).toNat)
  case atStart => exact ⟨_, 0, Nat.zero_le _, rfl, rfl, Below.refl _ _⟩
  case round =>
    obtain ⟨z, k, hk, rfl, rfl, hB⟩ := hrel
    by_cases hlt : k < l.length
    · have hlt' : (k : Int) < (l.length : Int) := by omega
      have hk0 : (0 : Int) ≤ (k : Int) := by omega
      by_cases hz : z ≤ 1048576
      · obtain ⟨b, o, rfl, hc⟩ := HC.out.resolve_left (by omega)
        obtain ⟨y0, y1, y2⟩ := (hc k hlt).keep hB.out
        clear hc
        generalize l[k] = y at *
        go_wp2
        go_roundw
        case rel => exact ⟨_, k + 1, by omega, rfl, by go_num, hB⟩
        case measure => simp [intOf]; omega
      · go_wp2
        go_ret
        exact ⟨⟨_, rfl⟩, hB.out⟩
    · have hlt' : ¬ (k : Int) < (l.length : Int) := by omega
      go_wp2
      go_ret
      exact ⟨⟨_, rfl⟩, hB.out⟩
set_option maxRecDepth 100000 in
set_option maxHeartbeats 1000000 in
theorem texts_size (l : List ByteArray) (w : World) (s : Value) (hS : TextsAt w l s) :
    Calls Tryd.prog 35 #[s] w fun e w' => (∃ m : Int, e = .returned (.int .i64 m)) ∧ Below w.heap.size w w' := by
  obtain ⟨ao, cap, rfl, hlen, _, hok, hc⟩ := hS
  have HC := hid hc
  have HO := hid hok
  clear hc hok
  go_enter Tryd.func35, Tryd.ntmps35
  go_wp2
  go_loopw [3, 4] (fun n i wr => ∃ (z : Int) (k : Nat), k ≤ l.length ∧ n = .int .i64 z ∧ i = .int .i64 (k : Int) ∧ Hid (Below w.heap.size w wr)) (fun _ i _ => l.length - (intOf i).toNat)
  case atStart => exact ⟨_, 0, Nat.zero_le _, rfl, rfl, Below.refl _ _⟩
  case round =>
    obtain ⟨z, k, hk, rfl, rfl, hB⟩ := hrel
    by_cases hlt : k < l.length
    · have hlt' : (k : Int) < (l.length : Int) := by omega
      have hk0 : (0 : Int) ≤ (k : Int) := by omega
      by_cases hz : z ≤ 1048576
      · obtain ⟨b, o, rfl, hc⟩ := HC.out.resolve_left (by omega)
        have y0 := cell_kept (hc k hlt) hB.out
        clear hc
        generalize l[k] = y at *
        go_wp2
        go_roundw
        case rel => exact ⟨_, k + 1, by omega, rfl, by go_num, hB⟩
        case measure => simp [intOf]; omega
      · go_wp2
        go_ret
        exact ⟨⟨_, rfl⟩, hB.out⟩
    · have hlt' : ¬ (k : Int) < (l.length : Int) := by omega
      go_wp2
      go_ret
      exact ⟨⟨_, rfl⟩, hB.out⟩
set_option maxRecDepth 100000 in
theorem flow_size (x : Fl) (w : World) (s : Value) (hok : x.ok) (hS : St w x.body s) :
    Calls Tryd.prog 51 #[flV x s] w fun e w' => (∃ m : Int, e = .returned (.int .i64 m)) ∧ Below w.heap.size w w' := by
  obtain ⟨ao, cap, sl, rfl, _⟩ := hS.out
  obtain ⟨hnm, _, _, _⟩ := hok
  have HS := hid hS
  clear hS
  by_cases hle : (1 : Int) + (x.name.size : Int) ≤ 1048576
  · go_enter Tryd.func51, Tryd.ntmps51
    go_wp2_with (go_at_call 60; refine (size_any _ x.body (Nat.le_refl _) _ _ (HS.out.keep ((Below.refl _ _).alloc (Nat.le_refl _) _))).mono ?_; rintro e w2 ⟨⟨m, rfl⟩, hb2⟩)
    go_ret
    exact ⟨⟨_, rfl⟩, bstep ((Below.refl _ _).alloc (Nat.le_refl _) _) hb2⟩
  · go_enter Tryd.func51, Tryd.ntmps51
    go_wp2
    go_ret
    exact ⟨⟨_, rfl⟩, (Below.refl _ _).alloc (Nat.le_refl _) _⟩
set_option maxRecDepth 100000 in
set_option maxHeartbeats 1000000 in
theorem flows_size (l : List Fl) (w : World) (s : Value) (hS : FlowsAt w l s) :
    Calls Tryd.prog 34 #[s] w fun e w' => (∃ m : Int, e = .returned (.int .i64 m)) ∧ Below w.heap.size w w' := by
  obtain ⟨ao, cap, sl, rfl, hlen, _, hok, hc, hs⟩ := hS
  have HC := hid hc
  have HO := hid hok
  have HS := hid hs
  clear hc hok hs
  go_enter Tryd.func34, Tryd.ntmps34
  go_wp2
  go_loopw [3, 4] (fun n i wr => ∃ (z : Int) (k : Nat), k ≤ l.length ∧ n = .int .i64 z ∧ i = .int .i64 (k : Int) ∧ Hid (Below w.heap.size w wr)) (fun _ i _ => l.length - (intOf i).toNat)
  case atStart => exact ⟨_, 0, Nat.zero_le _, rfl, rfl, Below.refl _ _⟩
  case round =>
    obtain ⟨z, k, hk, rfl, rfl, hB⟩ := hrel
    by_cases hlt : k < l.length
    · have hlt' : (k : Int) < (l.length : Int) := by omega
      have hk0 : (0 : Int) ≤ (k : Int) := by omega
      by_cases hz : z ≤ 1048576
      · obtain ⟨b, o, rfl, hc⟩ := HC.out.resolve_left (by omega)
        obtain ⟨y0, y1, y2, y3, y4, y5, y6, y7⟩ := (hc k hlt).keep hB.out
        have c := flow_size l[k] wr (sl k) (HO.out _ (List.getElem_mem hlt)) ((HS.out k hlt).keep hB.out)
        clear hc
        generalize l[k] = y at *
        go_wp2_with (go_at_call 51; refine c.mono ?_; rintro e w2 ⟨⟨m, rfl⟩, hb2⟩)
        go_roundw
        case rel => exact ⟨_, k + 1, by omega, rfl, by go_num, bstep hB.out hb2⟩
        case measure => simp [intOf]; omega
      · go_wp2
        go_ret
        exact ⟨⟨_, rfl⟩, hB.out⟩
    · have hlt' : ¬ (k : Int) < (l.length : Int) := by omega
      go_wp2
      go_ret
      exact ⟨⟨_, rfl⟩, hB.out⟩
set_option maxRecDepth 100000 in
set_option maxHeartbeats 1000000 in
theorem prog_size (p : Pg) (w : World) (a b c : Value) (hP : PgAt w p a b c) :
    Calls Tryd.prog 20 #[pgV p a b c] w fun e w' => (∃ m : Int, e = .returned (.int .i64 m)) ∧ Below w.heap.size w w' := by
  obtain ⟨a0, a1, rfl, _⟩ := hP.ins
  obtain ⟨b0, b1, _, rfl, _⟩ := hP.flows
  obtain ⟨c0, c1, rfl, _⟩ := hP.outs
  have B0 := hid ((Below.refl w.heap.size w).alloc (Nat.le_refl _) (.cells (pgC p (.slice a0 p.ins.length a1) (.slice b0 p.flows.length b1) (.slice c0 p.outs.length c1)) 26))
  have P0 := hid (hP.keep B0.out)
  have bx := fun j v => box_at w (pgC p (.slice a0 p.ins.length a1) (.slice b0 p.flows.length b1) (.slice c0 p.outs.length c1)) 26 j v
  have x1 := bx 1 _ rfl
  have x2 := bx 2 _ rfl
  have x3 := bx 3 _ rfl
  clear hP bx
  go_enter Tryd.func20, Tryd.ntmps20
  go_wp2_with (first
    | (go_at_call 33; refine (ins_size _ _ _ P0.out.ins).mono ?_; rintro e w1 ⟨⟨m1, rfl⟩, hb1⟩; have y2 := cell_kept x2 hb1; have y3 := cell_kept x3 hb1; have P1 := hid (P0.out.keep hb1); have B1 := hid (bstep B0.out hb1); clear x1 x2 x3 P0 hb1)
    | (go_at_call 34; refine (flows_size _ _ _ P1.out.flows).mono ?_; rintro e w2 ⟨⟨m2, rfl⟩, hb2⟩; have z3 := cell_kept y3 hb2; have P2 := hid (P1.out.keep hb2); have B2 := hid (bstep B1.out hb2); clear y2 y3 P1 hb2)
    | (go_at_call 35; refine (texts_size _ _ _ P2.out.outs).mono ?_; rintro e w3 ⟨⟨m3, rfl⟩, hb3⟩; have B3 := hid (bstep B2.out hb3); clear z3 P2 hb3))
  all_goals (go_ret; first | exact ⟨⟨_, rfl⟩, B3.out⟩ | exact ⟨⟨_, rfl⟩, B2.out⟩ | exact ⟨⟨_, rfl⟩, B1.out⟩)
/-- great returns yes or no; where it says no, the rows are short. -/
def GreatP (p : Pg) (e : Ending) : Prop := ∃ g : Bool, e = .returned (.bool g) ∧ (g = false → p.ins.length ≤ 300 ∧ p.flows.length ≤ 300 ∧ p.outs.length ≤ 1000)
end Go.Proofs.YtjdlmhkfaodkgaaDoor.Lex
namespace Go.Proofs.YtjdlmhkfaodkgaaDoor.Lex
open Go.ChangeShapes Go.WideShapes Go.ChangeAt Go.RowKit Go.Shelf
theorem row4 {W : World} {k : Nat} {st : Int} {A B C : Value} (h : W.heap[k]? = some (.cells #[.int .i64 st, A, B, C] 26 (0, 0))) : W.cell? ⟨k, 0, none⟩ = some (.int .i64 st) ∧ W.cell? ⟨k, 1, none⟩ = some A ∧ W.cell? ⟨k, 2, none⟩ = some B ∧ W.cell? ⟨k, 3, none⟩ = some C :=
  ⟨(cell_of_row _ _ _ _ 26 (0, 0) h).trans rfl, (cell_of_row _ _ _ _ 26 (0, 0) h).trans rfl, (cell_of_row _ _ _ _ 26 (0, 0) h).trans rfl, (cell_of_row _ _ _ _ 26 (0, 0) h).trans rfl⟩
theorem keep_row {W W' : World} {k : Nat} {o : Obj} (h : W.heap[k]? = some o) (hb : Below W.heap.size W W') : W'.heap[k]? = some o := (hb.block _ (Array.getElem?_eq_some_iff.1 h).1).trans h
/-- A program in its variable. -/
structure FV (w : World) (p : Pg) (A B C : Value) (W : World) : Prop where
  row : W.heap[w.heap.size]? = some (.cells (pgC p A B C) 26 (0, 0))
  P : PgAt W p A B C
  R : TabR W
  J : TabJ W
  below : Below w.heap.size w W
theorem FV.keep {w W W' : World} {p : Pg} {A B C : Value} (h : FV w p A B C W) (hb : Below W.heap.size W W') : FV w p A B C W' := ⟨keep_row h.row hb, h.P.keep hb, h.R.below hb, h.J.below hb, h.below.trans (hb.mono h.below.size)⟩
theorem FV.new {w : World} {p : Pg} {A B C : Value} (hP : PgAt w p A B C) (hR : TabR w) (hJ : TabJ w) : FV w p A B C (w.alloc (.cells (pgC p A B C) 26)) := by
  have hb := (Below.refl w.heap.size w).alloc (Nat.le_refl _) (.cells (pgC p A B C) 26)
  exact ⟨heap_alloc_new w _, hP.keep hb, hR.below hb, hJ.below hb, hb⟩
end Go.Proofs.YtjdlmhkfaodkgaaDoor.Lex
namespace Go.Proofs.YtjdlmhkfaodkgaaDoor.Lex
open Go.ChangeShapes Go.WideShapes Go.ChangeAt Go.RowKit Go.Joins
abbrev spareFl : Fl := ⟨spare, 0, 0, 0, ⟨0, 0, ⟨#[]⟩, []⟩⟩
/-- A row's block: all of it may be written. -/
def Blk (w : World) (b t c cap : Nat) : Prop := ∃ cur : Array Value, w.heap[b]? = some (.cells cur t (0, 0)) ∧ cur.size = cap * c ∧ cap ≤ maxLen
/-- A twin of a row of heads, in a block from some one on. -/
def TwIns (w : World) (lo : Nat) (l : List Hd) (s : Value) : Prop :=
  ∃ (b cap : Nat), s = .slice (some ⟨b, 0, none⟩) l.length cap ∧ lo ≤ b ∧ l.length ≤ 4398046510976 ∧ l.length < cap ∧ (∀ x ∈ l, x.ok) ∧ (∀ i (h : i < l.length), HdCells w b (i * 3) l[i]) ∧ HdCells w b (l.length * 3) ⟨spare, 0, 0⟩ ∧ Blk w b 61 3 cap
/-- A twin of a row of flows. -/
def TwFlows (w : World) (lo : Nat) (l : List Fl) (s : Value) : Prop :=
  ∃ (b cap : Nat) (sl : Nat → Value), s = .slice (some ⟨b, 0, none⟩) l.length cap ∧ lo ≤ b ∧ l.length ≤ 1466015503658 ∧ l.length < cap ∧ (∀ x ∈ l, x.ok) ∧ (∀ i (h : i < l.length), FlCells w b (i * 8) l[i] (sl i)) ∧ FlCells w b (l.length * 8) spareFl (.slice none 0 0) ∧ (∀ i (h : i < l.length), Tw w (b + 1) l[i].body (sl i)) ∧ Blk w b 51 8 cap
/-- A twin of a row of texts. -/
def TwTexts (w : World) (lo : Nat) (l : List ByteArray) (s : Value) : Prop :=
  ∃ (b cap : Nat), s = .slice (some ⟨b, 0, none⟩) l.length cap ∧ lo ≤ b ∧ l.length ≤ 8796093021952 ∧ l.length < cap ∧ (∀ x ∈ l, x.size ≤ 140737488355328) ∧ (∀ i (h : i < l.length), w.cell? ⟨b, i, none⟩ = some (.string l[i])) ∧ w.cell? ⟨b, l.length, none⟩ = some (.string spare) ∧ Blk w b 9 1 cap
theorem cell_carry {w w' : World} {lo b o : Nat} {v : Value} (hb : ∀ b, lo ≤ b → b < w.heap.size → w'.heap[b]? = w.heap[b]?) (hlo : lo ≤ b) (h : w.cell? ⟨b, o, none⟩ = some v) : w'.cell? ⟨b, o, none⟩ = some v := by
  rw [World.cell?_of_block (w := w) (a := ⟨b, o, none⟩) (hb b hlo (World.block_lt_of_cell? w _ h))]
  exact h
theorem Blk.carry {w w' : World} {lo b t c cap : Nat} (h : Blk w b t c cap) (hb : ∀ b, lo ≤ b → b < w.heap.size → w'.heap[b]? = w.heap[b]?) (hlo : lo ≤ b) : Blk w' b t c cap := by
  obtain ⟨cur, h1, h2⟩ := h
  exact ⟨cur, (hb b hlo (Array.getElem?_eq_some_iff.1 h1).1).trans h1, h2⟩
theorem HdCells.carry {w w' : World} {lo b p : Nat} {x : Hd} (h : HdCells w b p x) (hb : ∀ b, lo ≤ b → b < w.heap.size → w'.heap[b]? = w.heap[b]?) (hlo : lo ≤ b) : HdCells w' b p x :=
  ⟨cell_carry hb hlo h.1, cell_carry hb hlo h.2.1, cell_carry hb hlo h.2.2⟩
theorem FlCells.carry {w w' : World} {lo b p : Nat} {x : Fl} {s : Value} (h : FlCells w b p x s) (hb : ∀ b, lo ≤ b → b < w.heap.size → w'.heap[b]? = w.heap[b]?) (hlo : lo ≤ b) : FlCells w' b p x s :=
  ⟨cell_carry hb hlo h.1, cell_carry hb hlo h.2.1, cell_carry hb hlo h.2.2.1, cell_carry hb hlo h.2.2.2.1, cell_carry hb hlo h.2.2.2.2.1, cell_carry hb hlo h.2.2.2.2.2.1, cell_carry hb hlo h.2.2.2.2.2.2.1, cell_carry hb hlo h.2.2.2.2.2.2.2⟩
theorem TwIns.carry {w w' : World} {lo lo' : Nat} {l : List Hd} {s : Value} (h : TwIns w lo l s) (hb : ∀ b, lo ≤ b → b < w.heap.size → w'.heap[b]? = w.heap[b]?) (hl : lo' ≤ lo) : TwIns w' lo' l s := by
  obtain ⟨b, cap, rfl, h1, h2, h3, h4, h5, h6, h8⟩ := h
  exact ⟨b, cap, rfl, by omega, h2, h3, h4, fun i hi => (h5 i hi).carry hb h1, h6.carry hb h1, h8.carry hb h1⟩
theorem TwTexts.carry {w w' : World} {lo lo' : Nat} {l : List ByteArray} {s : Value} (h : TwTexts w lo l s) (hb : ∀ b, lo ≤ b → b < w.heap.size → w'.heap[b]? = w.heap[b]?) (hl : lo' ≤ lo) : TwTexts w' lo' l s := by
  obtain ⟨b, cap, rfl, h1, h2, h3, h4, h5, h6, h8⟩ := h
  exact ⟨b, cap, rfl, by omega, h2, h3, h4, fun i hi => cell_carry hb h1 (h5 i hi), cell_carry hb h1 h6, h8.carry hb h1⟩
theorem TwFlows.carry {w w' : World} {lo lo' : Nat} {l : List Fl} {s : Value} (h : TwFlows w lo l s) (hb : ∀ b, lo ≤ b → b < w.heap.size → w'.heap[b]? = w.heap[b]?) (hl : lo' ≤ lo) : TwFlows w' lo' l s := by
  obtain ⟨b, cap, sl, rfl, h1, h2, h3, h4, h5, h6, h7, h8⟩ := h
  exact ⟨b, cap, sl, rfl, by omega, h2, h3, h4, fun i hi => (h5 i hi).carry hb h1, h6.carry hb h1, fun i hi => Tw.carryN (fun b' hb' hlt => hb b' (by omega) hlt) (Nat.le_refl _) _ _ _ (Nat.le_refl _) (h7 i hi), h8.carry hb h1⟩
theorem TwIns.at {w : World} {lo : Nat} {l : List Hd} {s : Value} (h : TwIns w lo l s) : InsAt w l s := by
  obtain ⟨b, cap, rfl, h1, h2, h3, h4, h5, h6⟩ := h
  exact ⟨_, cap, rfl, h2, by omega, h4, .inr ⟨b, 0, rfl, fun i hi => by simpa using h5 i hi⟩⟩
theorem TwTexts.at {w : World} {lo : Nat} {l : List ByteArray} {s : Value} (h : TwTexts w lo l s) : TextsAt w l s := by
  obtain ⟨b, cap, rfl, h1, h2, h3, h4, h5, h6⟩ := h
  exact ⟨_, cap, rfl, h2, by omega, h4, .inr ⟨b, 0, rfl, fun i hi => by simpa using h5 i hi⟩⟩
theorem TwFlows.at {w : World} {lo : Nat} {l : List Fl} {s : Value} (h : TwFlows w lo l s) : FlowsAt w l s := by
  obtain ⟨b, cap, sl, rfl, h1, h2, h3, h4, h5, h6, h7, h8⟩ := h
  exact ⟨_, cap, sl, rfl, h2, by omega, h4, .inr ⟨b, 0, rfl, fun i hi => by simpa using h5 i hi⟩, fun i hi => (h7 i hi).st⟩
/-- A twin of a program. -/
structure TwPg (w : World) (lo : Nat) (p : Pg) (a b c : Value) : Prop where
  st : -9223372036854775808 ≤ p.st ∧ p.st ≤ 9223372036854775807
  ins : TwIns w lo p.ins a
  flows : TwFlows w lo p.flows b
  outs : TwTexts w lo p.outs c
theorem TwPg.carry {w w' : World} {lo lo' : Nat} {p : Pg} {a b c : Value} (h : TwPg w lo p a b c) (hb : ∀ b, lo ≤ b → b < w.heap.size → w'.heap[b]? = w.heap[b]?) (hl : lo' ≤ lo) : TwPg w' lo' p a b c :=
  ⟨h.st, h.ins.carry hb hl, h.flows.carry hb hl, h.outs.carry hb hl⟩
theorem TwPg.keep {w w' : World} {lo : Nat} {p : Pg} {a b c : Value} (h : TwPg w lo p a b c) (hb : Below w.heap.size w w') : TwPg w' lo p a b c := h.carry (fun b _ hlt => hb.block b hlt) (Nat.le_refl _)
theorem TwPg.at {w : World} {lo : Nat} {p : Pg} {a b c : Value} (h : TwPg w lo p a b c) : PgAt w p a b c := ⟨h.st, h.ins.at, h.flows.at, h.outs.at⟩
/-! ### A row that is made -/
theorem flat_at {c : Nat} : ∀ {es : List (List Value)} {i : Nat} {e : List Value} {j : Nat} {rest : List Value}, (∀ e ∈ es, e.length = c) → es[i]? = some e → j < c → (es.flatten ++ rest)[i * c + j]? = e[j]?
  | [], i, e, j, rest, _, h, _ => by simp at h
  | x :: es, 0, e, j, rest, hl, h, hj => by
    simp at h
    subst h
    have := hl x (by simp)
    rw [List.flatten_cons, List.append_assoc, List.getElem?_append_left (by omega)]
    simp
  | x :: es, i + 1, e, j, rest, hl, h, hj => by
    have hx := hl x (by simp)
    rw [List.flatten_cons, List.append_assoc, List.getElem?_append_right (by rw [hx, Nat.add_mul]; omega), hx, show (i + 1) * c + j - c = i * c + j by rw [Nat.add_mul]; omega]
    exact flat_at (fun e he => hl e (by simp [he])) (by simpa using h) hj
theorem flat_len {c : Nat} : ∀ {es : List (List Value)}, (∀ e ∈ es, e.length = c) → es.flatten.length = es.length * c
  | [], _ => by simp
  | x :: es, hl => by
    have hx := hl x (by simp)
    rw [List.flatten_cons, List.length_append, flat_len (fun e he => hl e (by simp [he])), hx, List.length_cons, Nat.add_mul]
    omega
/-- While a row is made. -/
structure MkR (w : World) (t c n : Nat) (es : List (List Value)) (W : World) : Prop where
  below : Below w.heap.size w W
  row : W.ownsRow w.heap.size t c (.slice (some ⟨w.heap.size, 0, none⟩) es.length (n + 1)) es.length es.flatten
  each : ∀ e ∈ es, e.length = c
  size : w.heap.size < W.heap.size
theorem MkR.start {w w1 : World} {t c n : Nat} (hown : w1.ownsRow w.heap.size t c (.slice (some ⟨w.heap.size, 0, none⟩) 0 (n + 1)) 0 []) (hg : w.grownBy w1 none) : MkR w t c n [] w1 where
  below := (Below.refl _ _).grown hg (Nat.le_refl _) (fun k hk => by cases hk)
  row := hown
  each := fun p hp => by cases hp
  size := by
    rcases hown.2 with ⟨h, _⟩ | ⟨g, c, cur, e, _, hh, _⟩
    · cases h
    · injection e with e1 _ _
      injection e1 with e1
      injection e1 with e1 _ _
      subst e1
      exact (Array.getElem?_eq_some_iff.1 hh).1
theorem MkR.step {w W W' : World} {t c n : Nat} {es : List (List Value)} (h : MkR w t c n es W) (hb : Below W.heap.size W W') : MkR w t c n es W' :=
  ⟨bstep h.below hb, by
    have hr := h.row
    refine ⟨hr.1, ?_⟩
    rcases hr.2 with hn | ⟨g, cap, cur, e, hg0, hg, rest⟩
    · exact .inl hn
    · exact .inr ⟨g, cap, cur, e, hg0, (hb.block g (Array.getElem?_eq_some_iff.1 hg).1).trans hg, rest⟩, h.each, Nat.lt_of_lt_of_le h.size hb.size⟩
theorem MkR.grow {w W W' : World} {t c n k : Nat} {es : List (List Value)} {e : List Value} (h : MkR w t c n es W) (hk : es.length = k) (he : e.length = c)
    (hr : W'.ownsRow w.heap.size t c (.slice (some ⟨w.heap.size, 0, none⟩) (k + 1) (n + 1)) (k + 1) (es.flatten ++ e)) (hg : W.grownBy W' (some w.heap.size)) : MkR w t c n (es ++ [e]) W' where
  below := h.below.grown hg h.below.size (fun j hj => by cases hj; exact Nat.le_refl _)
  row := by
    have e1 : (es ++ [e]).length = k + 1 := by simp [hk]
    have e2 : (es ++ [e]).flatten = es.flatten ++ e := by simp
    rw [e1, e2]; exact hr
  each := fun p hp => by
    rcases List.mem_append.1 hp with hp | hp
    · exact h.each p hp
    · rw [List.mem_singleton.1 hp]; exact he
  size := Nat.lt_of_lt_of_le h.size hg.size
theorem Blk.of_row {W : World} {lo t c g n cap : Nat} {xs : List Value} (h : W.ownsRow lo t c (.slice (some ⟨g, 0, none⟩) n cap) n xs) : Blk W g t c cap := by
  rcases h.2 with ⟨h, _⟩ | ⟨g', c', cur, e, _, hh, _, h1, h2, _⟩
  · cases h
  · injection e with e1 _ e3
    injection e1 with e1
    injection e1 with e1 _ _
    subst e1 e3
    exact ⟨cur, hh, h2, h1⟩
/-- The cells of a row that was made, with the mark behind it. -/
theorem MkR.cells {w W' : World} {t c n k : Nat} {es : List (List Value)} {sp : List Value} (hl : ∀ e ∈ es, e.length = c) (hk : es.length = k) (hsp : sp.length = c)
    (hr : W'.ownsRow w.heap.size t c (.slice (some ⟨w.heap.size, 0, none⟩) (k + 1) (n + 1)) (k + 1) (es.flatten ++ sp)) :
    (∀ i e j v, es[i]? = some e → e[j]? = some v → W'.cell? ⟨w.heap.size, i * c + j, none⟩ = some v) ∧ ∀ j v, sp[j]? = some v → W'.cell? ⟨w.heap.size, k * c + j, none⟩ = some v := by
  have lt : ∀ {l : List Value} {j : Nat} {v : Value}, l[j]? = some v → j < l.length := fun h => (List.getElem?_eq_some_iff.1 h).1
  refine ⟨fun i e j v he hj => ?_, fun j v hj => ?_⟩
  · have hi : i < es.length := (List.getElem?_eq_some_iff.1 he).1
    have hj' := lt hj
    have hec := hl e (List.mem_of_getElem? he)
    have hb : i * c + j < (k + 1) * c := by
      have : (i + 1) * c ≤ k * c := Nat.mul_le_mul_right c (by omega)
      rw [Nat.add_mul] at this ⊢
      omega
    rw [hr.cellAt _ hb, flat_at hl he (by omega)]
    exact hj
  · have hj' := lt hj
    have hb : k * c + j < (k + 1) * c := by rw [Nat.add_mul]; omega
    rw [hr.cellAt _ hb, List.getElem?_append_right (by rw [flat_len hl, hk]; omega), flat_len hl, hk, show k * c + j - k * c = j by omega]
    exact hj
theorem next_cells (w : World) (l : List Value) (t : TypeId) : ∀ j u, l[j]? = some u → (w.alloc (.cells l.toArray t)).cell? ((⟨w.heap.size, 0, none⟩ : Addr).add j) = some u := by
  intro j u hj
  have hadd : (⟨w.heap.size, 0, none⟩ : Addr).add j = ⟨w.heap.size, j, none⟩ := by unfold Addr.add; split <;> simp_all
  rw [hadd, World.cell?_alloc_at _ _ _ _ rfl]
  simpa using hj
abbrev hdL (x : Hd) : List Value := [.string x.name, .int .u8 (x.ty : Int), .int .i64 x.st]
abbrev flL (x : Fl) (s : Value) : List Value := [.string x.name, .int .u8 (x.ty : Int), .int .i64 x.st, .int .i64 x.df, .int .u8 (x.body.op : Int), .int .i64 x.body.n, .string x.body.name, s]
end Go.Proofs.YtjdlmhkfaodkgaaDoor.Lex
namespace Go.Proofs.YtjdlmhkfaodkgaaDoor.Lex
open Go.ChangeShapes Go.WideShapes Go.ChangeAt Go.RowKit Go.Joins
/-- The place that one ref asks for at once. -/
def nb1 (p : Pg) (r : Rf) : Option Int := if 0 < r.2 then none else match findT (thingsL p) r.1 with
  | some z => if 0 ≤ z.1 then some z.1 else none
  | none => none
def nb (p : Pg) (L : List Rf) : List Int := L.filterMap (nb1 p)
def srt (l : List Int) : List Int := l.mergeSort fun x y => decide (x ≤ y)
theorem srt_len (l : List Int) : (srt l).length = l.length := List.length_mergeSort _
def ints (l : List Int) : List Value := l.map (Value.int .i64)
theorem nb_snoc (p : Pg) (L : List Rf) (r : Rf) : nb p (L ++ [r]) = nb p L ++ (nb1 p r).toList := by
  unfold nb
  rw [List.filterMap_append]
  cases h : nb1 p r <;> simp [h]
theorem nb_len (p : Pg) (L : List Rf) : (nb p L).length ≤ L.length := List.length_filterMap_le _ _
theorem own_carry9 {w W : World} {lo t c n : Nat} {v : Value} {xs : List Value} (h : w.ownsRow lo t c v n xs) (hb : ∀ b, lo ≤ b → b < w.heap.size → W.heap[b]? = w.heap[b]?) : W.ownsRow lo t c v n xs := by
  obtain ⟨h1, h2 | ⟨g, cap, cur, e, hg, hr, h3⟩⟩ := h
  · exact ⟨h1, .inl h2⟩
  · exact ⟨h1, .inr ⟨g, cap, cur, e, hg, (hb g hg (Array.getElem?_eq_some_iff.1 hr).1).trans hr, h3⟩⟩
theorem own_lo9 {w : World} {lo t c n : Nat} {v : Value} {xs : List Value} (h : w.ownsRow lo t c v n xs) : ∀ b, v.ownBlock = some b → lo ≤ b ∧ b < w.heap.size := fun b e => by
  obtain ⟨_, ⟨h2, _⟩ | ⟨g, cap, cur, e2, hg, hr, _⟩⟩ := h
  · rw [h2] at e; cases e
  · rw [e2] at e
    obtain rfl : g = b := by simpa [Value.ownBlock] using e
    exact ⟨hg, (Array.getElem?_eq_some_iff.1 hr).1⟩
/-- A row of ints, while it is made. -/
structure IL (w1 : World) (l : List Int) (v : Value) (W : World) : Prop where
  below : Below w1.heap.size w1 W
  own : W.ownsRow w1.heap.size 3 1 v l.length (ints l)
theorem IL.start (w1 : World) : IL w1 [] (.slice none 0 0) w1 := ⟨Below.refl _ _, rfl, .inl ⟨rfl, rfl⟩⟩
theorem IL.keep {w1 W W' : World} {l : List Int} {v : Value} (h : IL w1 l v W) (hb : Below W.heap.size W W') : IL w1 l v W' := ⟨h.below.trans (hb.mono h.below.size), own_carry9 h.own (fun b _ hlt => hb.block b hlt)⟩
theorem IL.grow {w1 W W' : World} {l : List Int} {v v' : Value} {s : Int} (h : IL w1 l v W) (hown : W'.ownsRow w1.heap.size 3 1 v' (l.length + 1) (ints l ++ [.int .i64 s])) (hg : W.grownBy W' v.ownBlock) : IL w1 (l ++ [s]) v' W' where
  below := h.below.grown hg h.below.size (fun j hj => (own_lo9 h.own j hj).1)
  own := by
    have e1 : (l ++ [s]).length = l.length + 1 := by simp
    have e2 : ints (l ++ [s]) = ints l ++ [.int .i64 s] := by simp [ints]
    rw [e1, e2]
    exact hown
theorem IL.up {w w1 W : World} {l : List Int} {v : Value} (h : IL w1 l v W) (hb : Below w.heap.size w w1) : IL w l v W := ⟨hb.trans (h.below.mono hb.size), ownsRow_mono h.own hb.size⟩
theorem inf3 : (Tryd.prog.info? 3).map (fun i => (i.zero, i.size, i.bytes)) = some (some (.int .i64 0), 1, 8) := by kernel_rfl
/-- What slices.Sort does with a row of ints that is its own. -/
def SortC : Prop := ∀ (w1 w : World) (l : List Int) (v : Value), IL w1 l v w → l.length ≤ 1048576 → Calls Tryd.prog 55 #[v] w fun e w' => e = .returned (.tuple #[]) ∧ IL w1 (srt l) v w'
/-- The two variables of neededBy. -/
structure NX (w : World) (p : Pg) (A B C : Value) (W : World) : Prop where
  row : W.heap[w.heap.size]? = some (.cells (pgC p A B C) 26 (0, 0))
  P : PgAt W p A B C
  below : Below w.heap.size w W
theorem NX.keep {w W W' : World} {p : Pg} {A B C : Value} (h : NX w p A B C W) (hb : Below W.heap.size W W') : NX w p A B C W' := ⟨keep_row h.row hb, h.P.keep hb, h.below.trans (hb.mono h.below.size)⟩
set_option maxRecDepth 100000 in
set_option maxHeartbeats 4000000 in
theorem needed_by (HSort : SortC) (p : Pg) (k : Nat) (x : Ex) (w : World) (s a b c : Value) (hP : PgAt w p a b c) (hS : St w x s) (hNm : NmOk k x) (hk : k ≤ 1048576) (hc : cnt k x ≤ 1048576) :
    Calls Tryd.prog 44 #[pgV p a b c, exV x s] w fun e w' => ∃ v, e = .returned v ∧ IL w (srt (nb p (gat k x 0 []))) v w' := by
  obtain ⟨a0, a1, rfl, _⟩ := hP.ins
  obtain ⟨b0, b1, _, rfl, _⟩ := hP.flows
  obtain ⟨c0, c1, rfl, _⟩ := hP.outs
  obtain ⟨ao, cap, _, rfl, _⟩ := hS.out
  have B2 := bstep ((Below.refl w.heap.size w).alloc (Nat.le_refl _) (.cells (pgC p (.slice a0 p.ins.length a1) (.slice b0 p.flows.length b1) (.slice c0 p.outs.length c1)) 26)) ((Below.refl _ _).alloc (Nat.le_refl _) (.cells #[.int .u8 (x.op : Int), .int .i64 x.n, .string x.name, .slice ao x.args.length cap] 49))
  have X0 := hid (NX.mk (w := w) (W := ((w.alloc (.cells (pgC p (.slice a0 p.ins.length a1) (.slice b0 p.flows.length b1) (.slice c0 p.outs.length c1)) 26)).alloc (.cells #[.int .u8 (x.op : Int), .int .i64 x.n, .string x.name, .slice ao x.args.length cap] 49))) (push_old (push_new _ _ _ rfl)) (hP.keep B2) B2)
  have hrx : ((w.alloc (.cells (pgC p (.slice a0 p.ins.length a1) (.slice b0 p.flows.length b1) (.slice c0 p.outs.length c1)) 26)).alloc (.cells #[.int .u8 (x.op : Int), .int .i64 x.n, .string x.name, .slice ao x.args.length cap] 49)).heap[w.heap.size + 1]? = some (.cells #[.int .u8 (x.op : Int), .int .i64 x.n, .string x.name, .slice ao x.args.length cap] 49 (0, 0)) := push_new _ _ _ (by simp)
  have q0 : ((w.alloc (.cells (pgC p (.slice a0 p.ins.length a1) (.slice b0 p.flows.length b1) (.slice c0 p.outs.length c1)) 26)).alloc (.cells #[.int .u8 (x.op : Int), .int .i64 x.n, .string x.name, .slice ao x.args.length cap] 49)).cell? ⟨w.heap.size + 1, 0, none⟩ = some (.int .u8 (x.op : Int)) := (cell_of_row _ _ _ _ 49 (0, 0) hrx).trans rfl
  have q1 : ((w.alloc (.cells (pgC p (.slice a0 p.ins.length a1) (.slice b0 p.flows.length b1) (.slice c0 p.outs.length c1)) 26)).alloc (.cells #[.int .u8 (x.op : Int), .int .i64 x.n, .string x.name, .slice ao x.args.length cap] 49)).cell? ⟨w.heap.size + 1, 1, none⟩ = some (.int .i64 x.n) := (cell_of_row _ _ _ _ 49 (0, 0) hrx).trans rfl
  have q2 : ((w.alloc (.cells (pgC p (.slice a0 p.ins.length a1) (.slice b0 p.flows.length b1) (.slice c0 p.outs.length c1)) 26)).alloc (.cells #[.int .u8 (x.op : Int), .int .i64 x.n, .string x.name, .slice ao x.args.length cap] 49)).cell? ⟨w.heap.size + 1, 2, none⟩ = some (.string x.name) := (cell_of_row _ _ _ _ 49 (0, 0) hrx).trans rfl
  have q3 : ((w.alloc (.cells (pgC p (.slice a0 p.ins.length a1) (.slice b0 p.flows.length b1) (.slice c0 p.outs.length c1)) 26)).alloc (.cells #[.int .u8 (x.op : Int), .int .i64 x.n, .string x.name, .slice ao x.args.length cap] 49)).cell? ⟨w.heap.size + 1, 3, none⟩ = some (.slice ao x.args.length cap) := (cell_of_row _ _ _ _ 49 (0, 0) hrx).trans rfl
  have c29 := refs k x _ _ (hS.keep B2) hNm (by omega) (by omega)
  have HLL : Hid ((gat k x 0 []).length ≤ 1048576) := hid (by have h1 := gat_len k x 0 []; simp at h1; omega)
  clear hrx B2 hP hS hNm hk hc
  generalize gat k x 0 [] = G at *
  obtain ⟨i0, hi, hz0, hz1, hz2⟩ := info_parts inf3
  go_enter Tryd.func44, Tryd.ntmps44
  go_wp2_with (fail)
  refine c29.mono ?_
  rintro e w1 ⟨v, rfl, hrow, hb1⟩
  obtain ⟨ra, rc, rfl, hrf⟩ := RfAt.of_own hrow
  have HRF := hid hrf
  have X1 := hid (X0.out.keep hb1)
  clear hrow hrf hb1 X0 q0 q1 q2 q3 c29
  have hLl := HLL.out
  go_wp2_with (fail)
  go_loopw [5, 15] (fun v i wr => ∃ r : Nat, r ≤ G.length ∧ i = .int .i64 (r : Int) ∧ Hid (IL w1 (nb p (G.take r)) v wr)) (fun _ i _ => G.length - (intOf i).toNat)
  case atStart => exact ⟨0, Nat.zero_le _, rfl, hid (by simpa [nb] using IL.start w1)⟩
  case round =>
    obtain ⟨r, hr, rfl, HI⟩ := hrel
    by_cases hrl : r < G.length
    · have hrl' : (r : Int) < (G.length : Int) := by omega
      have hr0 : (0 : Int) ≤ (r : Int) := by omega
      obtain ⟨gb, rfl, hcc⟩ := HRF.out.resolve_left (by omega)
      have y0 := cell_kept (hcc r hrl).1 HI.out.below
      have y1 := cell_kept (hcc r hrl).2 HI.out.below
      have HTK : Hid (nb p (G.take (r + 1)) = nb p (G.take r) ++ (nb1 p G[r]).toList) := hid (by rw [List.take_succ_eq_append_getElem hrl, nb_snoc])
      have hll : (nb p (G.take r)).length ≤ 1048576 := by have h1 := nb_len p (G.take r); have h2 : (G.take r).length ≤ r := by simp; omega
                                                          omega
      clear hcc
      generalize G[r] = z at *
      obtain ⟨z1, z2⟩ := z
      simp only at y0 y1
      have hbz := (Below.refl wr.heap.size wr).alloc (Nat.le_refl _) (.cells #[.string z1, .int .i64 (z2 : Int)] 78)
      have IZ := hid (HI.out.keep hbz)
      have hrz : (wr.alloc (.cells #[.string z1, .int .i64 (z2 : Int)] 78)).heap[wr.heap.size]? = some (.cells #[.string z1, .int .i64 (z2 : Int)] 78 (0, 0)) := push_new _ _ _ rfl
      have z0c : (wr.alloc (.cells #[.string z1, .int .i64 (z2 : Int)] 78)).cell? ⟨wr.heap.size, 0, none⟩ = some (.string z1) := (cell_of_row _ _ _ _ 78 (0, 0) hrz).trans rfl
      have z1c : (wr.alloc (.cells #[.string z1, .int .i64 (z2 : Int)] 78)).cell? ⟨wr.heap.size, 1, none⟩ = some (.int .i64 (z2 : Int)) := (cell_of_row _ _ _ _ 78 (0, 0) hrz).trans rfl
      by_cases hz : 0 < z2
      · have hz' : (0 : Int) < (z2 : Int) := by omega
        have HN : Hid (nb p (G.take (r + 1)) = nb p (G.take r)) := hid (by rw [HTK.out, nb1, if_pos hz]; simp)
        clear hrz hbz
        go_wp2_with (fail)
        go_roundw
        case rel => exact ⟨r + 1, by omega, by go_num, hid (by rw [HN.out]; exact IZ.out)⟩
        case measure => simp [intOf]; omega
      · have hz' : ¬ (0 : Int) < (z2 : Int) := by omega
        have XZ := hid (X1.out.keep IZ.out.below)
        obtain ⟨s0, s1, s2, s3⟩ := row4 XZ.out.row
        have c18 := find p z1 _ _ _ _ XZ.out.P
        clear hrz hbz
        cases hf : findT (thingsL p) z1 with
        | none =>
          rw [hf] at c18
          have HN : Hid (nb p (G.take (r + 1)) = nb p (G.take r)) := hid (by rw [HTK.out, nb1, if_neg hz, hf]; simp)
          clear hf hz
          go_wp2_with (fail)
          simp only [foV] at c18
          refine c18.mono ?_
          rintro e w2 ⟨rfl, hb2⟩
          have I2 := hid (IZ.out.keep hb2)
          clear hb2
          go_wp2_with (fail)
          go_roundw
          case rel => exact ⟨r + 1, by omega, by go_num, hid (by rw [HN.out]; exact I2.out)⟩
          case measure => simp [intOf]; omega
        | some y =>
          rw [hf] at c18
          obtain ⟨y1, y2⟩ := y
          by_cases hy : 0 ≤ y1
          · have HN : Hid (nb p (G.take (r + 1)) = nb p (G.take r) ++ [y1]) := hid (by rw [HTK.out, nb1, if_neg hz, hf]; simp [hy])
            clear hf hz
            go_wp2_with (fail)
            simp only [foV] at c18
            refine c18.mono ?_
            rintro e w2 ⟨rfl, hb2⟩
            have I2 := hid (IZ.out.keep hb2)
            clear hb2
            generalize nb p (G.take r) = ll at *
            have N2 := hid (I2.out.keep ((Below.refl _ _).alloc (Nat.le_refl _) (.cells #[.int .i64 y1] 3)))
            have W2 := hid (next_cells w2 [.int .i64 y1] 3)
            have hmx : ll.length + 1 ≤ maxLen := by unfold maxLen; omega
            go_wp2_with (at_builtin; refine wpList_append_own _ rfl (.tmp 36) (.tmp 38) 35 rfl w1.heap.size 3 i0 _ 1 8 Tryd.underlying35 hi hz0 hz1 hz2 rfl (by decide) _ _ _ rfl N2.out.own ⟨w2.heap.size, 0, none⟩ 1 1 [.int .i64 y1] rfl rfl W2.out (by simp [Value.oneCell']) hmx (by omega) N2.out.below.size ?_; intro v' w' hown1 hgrow1 _; have N3 := hid (N2.out.grow hown1 hgrow1); clear hown1 hgrow1)
            go_roundw
            case rel => exact ⟨r + 1, by omega, by go_num, hid (by rw [HN.out]; exact N3.out)⟩
            case measure => simp [intOf]; omega
          · have HN : Hid (nb p (G.take (r + 1)) = nb p (G.take r)) := hid (by rw [HTK.out, nb1, if_neg hz, hf]; simp [hy])
            clear hf hz
            go_wp2_with (fail)
            simp only [foV] at c18
            refine c18.mono ?_
            rintro e w2 ⟨rfl, hb2⟩
            have I2 := hid (IZ.out.keep hb2)
            clear hb2
            go_wp2_with (fail)
            go_roundw
            case rel => exact ⟨r + 1, by omega, by go_num, hid (by rw [HN.out]; exact I2.out)⟩
            case measure => simp [intOf]; omega
    · have hrl' : ¬ (r : Int) < (G.length : Int) := by omega
      obtain rfl : r = G.length := by omega
      have HI2 : Hid (IL w1 (nb p G) u5 wr) := hid (by have := HI.out; rwa [List.take_length] at this)
      have HL2 : Hid ((nb p G).length ≤ 1048576) := hid (Nat.le_trans (nb_len p G) hLl)
      go_wp2_with (fail)
      refine (HSort _ _ _ _ HI2.out HL2.out).mono ?_
      rintro e w3 ⟨rfl, hi3⟩
      have H3 := hid hi3
      clear hi3
      go_wp2_with (fail)
      go_ret
      exact ⟨_, rfl, H3.out.up X1.out.below⟩
end Go.Proofs.YtjdlmhkfaodkgaaDoor.Lex
namespace Go.Proofs.YtjdlmhkfaodkgaaDoor.Lex
open Go.ChangeShapes Go.WideShapes Go.ChangeAt Go.RowKit Go.Joins
/-- A row of ints that is read. -/
def IAt (w : World) (v : Value) (l : List Int) : Prop := ∃ ao cap, v = .slice ao l.length cap ∧ (l.length = 0 ∨ ∃ g o, ao = some ⟨g, o, none⟩ ∧ ∀ i (hi : i < l.length), w.cell? ⟨g, o + i, none⟩ = some (.int .i64 l[i]))
theorem IAt.of_own {w : World} {lo : Nat} {l : List Int} {v : Value} (hown : w.ownsRow lo 3 1 v l.length (ints l)) : IAt w v l := by
  rcases hown.2 with ⟨e, e0⟩ | ⟨g, cap, cur, e, _⟩
  · exact ⟨none, 0, by rw [e, e0], .inl e0⟩
  · subst e
    refine ⟨_, cap, rfl, .inr ⟨g, 0, rfl, fun i hi => ?_⟩⟩
    rw [Nat.zero_add, hown.cellAt i (by omega)]
    simp [ints, hi]
def nameAt (p : Pg) (z : Int) : ByteArray := (p.flows[z.toNat]?.map Fl.name).getD ByteArray.empty
/-- A row of names, while it is made. -/
structure NL (w1 : World) (l : List ByteArray) (v : Value) (W : World) : Prop where
  below : Below w1.heap.size w1 W
  own : W.ownsRow w1.heap.size 9 1 v l.length (l.map Value.string)
theorem NL.start (w1 : World) : NL w1 [] (.slice none 0 0) w1 := ⟨Below.refl _ _, rfl, .inl ⟨rfl, rfl⟩⟩
theorem NL.keep {w1 W W' : World} {l : List ByteArray} {v : Value} (h : NL w1 l v W) (hb : Below W.heap.size W W') : NL w1 l v W' := ⟨h.below.trans (hb.mono h.below.size), own_carry9 h.own (fun b _ hlt => hb.block b hlt)⟩
theorem NL.up {w w1 W : World} {l : List ByteArray} {v : Value} (h : NL w1 l v W) (hb : Below w.heap.size w w1) : NL w l v W := ⟨hb.trans (h.below.mono hb.size), ownsRow_mono h.own hb.size⟩
theorem NL.grow {w1 W W' : World} {l : List ByteArray} {v v' : Value} {s : ByteArray} (h : NL w1 l v W) (hown : W'.ownsRow w1.heap.size 9 1 v' (l.length + 1) (l.map Value.string ++ [.string s])) (hg : W.grownBy W' v.ownBlock) : NL w1 (l ++ [s]) v' W' where
  below := h.below.grown hg h.below.size (fun j hj => (own_lo9 h.own j hj).1)
  own := by
    have e1 : (l ++ [s]).length = l.length + 1 := by simp
    rw [e1, List.map_append]
    exact hown
theorem inf9N : (Tryd.prog.info? 9).map (fun i => (i.zero, i.size, i.bytes)) = some (some (.string ByteArray.empty), 1, 16) := by kernel_rfl
set_option maxRecDepth 100000 in
set_option maxHeartbeats 4000000 in
theorem names_of (p : Pg) (l : List Int) (w : World) (v a b c : Value) (hP : PgAt w p a b c) (hl : IAt w v l) (hll : l.length ≤ 1048576) (hz : ∀ z ∈ l, 0 ≤ z ∧ z < (p.flows.length : Int)) (hnm : ∀ f ∈ p.flows, f.name.size ≤ 65536) :
    Calls Tryd.prog 27 #[pgV p a b c, v] w fun e w' => ∃ u, e = .returned u ∧ NL w (l.map (nameAt p)) u w' := by
  obtain ⟨a0, a1, rfl, _⟩ := hP.ins
  obtain ⟨b0, b1, sl, rfl, _, _, _, hfc, _⟩ := hP.flows
  obtain ⟨c0, c1, rfl, _⟩ := hP.outs
  obtain ⟨la, lc, rfl, hlc⟩ := hl
  have HFC := hid hfc
  have HLC := hid hlc
  have HZ := hid hz
  have HNM := hid hnm
  have B0 := hid ((Below.refl w.heap.size w).alloc (Nat.le_refl _) (.cells (pgC p (.slice a0 p.ins.length a1) (.slice b0 p.flows.length b1) (.slice c0 p.outs.length c1)) 26))
  have R0 := hid (show (w.alloc (.cells (pgC p (.slice a0 p.ins.length a1) (.slice b0 p.flows.length b1) (.slice c0 p.outs.length c1)) 26)).heap[w.heap.size]? = some (.cells (pgC p (.slice a0 p.ins.length a1) (.slice b0 p.flows.length b1) (.slice c0 p.outs.length c1)) 26 (0, 0)) from push_new _ _ _ rfl)
  clear hP hfc hlc hz hnm
  obtain ⟨i0, hi, hz0, hz1, hz2⟩ := info_parts inf9N
  go_enter Tryd.func27, Tryd.ntmps27
  go_wp2_with (fail)
  generalize (w.alloc (.cells (pgC p (.slice a0 p.ins.length a1) (.slice b0 p.flows.length b1) (.slice c0 p.outs.length c1)) 26)) = W0 at *
  go_loopw [5, 10] (fun u i wr => ∃ j : Nat, j ≤ l.length ∧ i = .int .i64 (j : Int) ∧ Hid (NL W0 ((l.take j).map (nameAt p)) u wr)) (fun _ i _ => l.length - (intOf i).toNat)
  case atStart => exact ⟨0, Nat.zero_le _, rfl, hid (NL.start W0)⟩
  case round =>
    obtain ⟨j, hj, rfl, HN⟩ := hrel
    by_cases hjl : j < l.length
    · have hjl' : (j : Int) < (l.length : Int) := by omega
      have hj0 : (0 : Int) ≤ (j : Int) := by omega
      obtain ⟨g, o, rfl, hcc⟩ := HLC.out.resolve_left (by omega)
      have HBW := hid (B0.out.trans (HN.out.below.mono B0.out.size))
      have y0 := cell_kept (hcc j hjl) HBW.out
      have HT : Hid ((l.take (j + 1)).map (nameAt p) = (l.take j).map (nameAt p) ++ [nameAt p l[j]]) := hid (by rw [List.take_succ_eq_append_getElem hjl, List.map_append]; rfl)
      have hlen : ((l.take j).map (nameAt p)).length ≤ 1048576 := by simp; omega
      obtain ⟨m, hm, hml⟩ : ∃ m : Nat, l[j] = (m : Int) ∧ m < p.flows.length := by
        have := HZ.out _ (List.getElem_mem hjl)
        exact ⟨l[j].toNat, by omega, by omega⟩
      rw [hm] at y0 HT
      have HNA : Hid (nameAt p (m : Int) = p.flows[m].name) := hid (by unfold nameAt; simp [hml])
      rw [HNA.out] at HT
      obtain ⟨fb, fo, rfl, hfc⟩ := HFC.out.resolve_left (by omega)
      have y1 := cell_kept (hfc m hml).1 HBW.out
      have c47 := clone p.flows[m].name wr (HNM.out _ (List.getElem_mem hml))
      obtain ⟨s0, s1, s2, s3⟩ := row4 (keep_row R0.out HN.out.below)
      have hm0 : (0 : Int) ≤ (m : Int) := by omega
      have hml' : (m : Int) < (p.flows.length : Int) := by omega
      clear hcc hfc hm
      generalize p.flows[m].name = nm at *
      generalize (l.take j).map (nameAt p) = ll at *
      go_wp2_with (fail)
      refine c47.mono ?_
      rintro e w2 ⟨rfl, hb2⟩
      have N1 := hid (HN.out.keep hb2)
      have N2 := hid (N1.out.keep ((Below.refl _ _).alloc (Nat.le_refl _) (.cells #[.string nm] 9)))
      have W2 := hid (next_cells w2 [.string nm] 9)
      have hmx : ll.length + 1 ≤ maxLen := by unfold maxLen; omega
      clear hb2 c47
      go_wp2_with (at_builtin; refine wpList_append_own _ rfl (.tmp 14) (.tmp 22) 24 rfl W0.heap.size 9 i0 _ 1 16 Tryd.underlying24 hi hz0 hz1 hz2 rfl (by decide) _ _ _ rfl N2.out.own ⟨w2.heap.size, 0, none⟩ 1 1 [.string nm] rfl rfl W2.out (by simp [Value.oneCell']) hmx (by omega) N2.out.below.size ?_; intro v' w' hown1 hgrow1 _; have N3 := hid (N2.out.grow hown1 hgrow1); clear hown1 hgrow1)
      go_roundw
      case rel => exact ⟨j + 1, by omega, by go_num, hid (by rw [HT.out]; exact N3.out)⟩
      case measure => simp [intOf]; omega
    · have hjl' : ¬ (j : Int) < (l.length : Int) := by omega
      obtain rfl : j = l.length := by omega
      have HE : Hid (NL W0 (l.map (nameAt p)) u5 wr) := hid (by have := HN.out; rwa [List.take_length] at this)
      clear HN
      go_wp2_with (fail)
      go_ret
      exact ⟨_, rfl, HE.out.up B0.out⟩
end Go.Proofs.YtjdlmhkfaodkgaaDoor.Lex
namespace Go.Proofs
open Go.Shelf
def Tryd.lays189_ren : Go.Shelf.Ren := ⟨fun | 189 => 55 | 125 => 66 | 257 => 65 | 128 => 80 | 129 => 81 | 294 => 71 | 295 => 72 | 296 => 73 | 297 => 74 | 298 => 75 | 299 => 76 | 216 => 77 | 300 => 78 | 301 => 79 | 328 => 83 | 329 => 84 | 330 => 85 | 331 => 86 | 332 => 87 | 215 => 88 | 343 => 89 | n => n, fun | 28 => 35 | 3 => 3 | 46 => 117 | 0 => 0 | 51 => 130 | 53 => 132 | 4 => 4 | 183 => 124 | 182 => 123 | 131 => 108 | 5 => 5 | 9 => 9 | 218 => 139 | 222 => 105 | 228 => 145 | 229 => 146 | n => n, fun | n => n⟩
theorem Tryd.lays189 : Go.Proofs.Lays.n189 Tryd.prog Tryd.lays189_ren := {
  mixed := by kernel_rfl
  f125 := Tryd.func66.trans (congrArg some (by kernel_rfl))
  f128 := Tryd.func80.trans (congrArg some (by kernel_rfl))
  f129 := Tryd.func81.trans (congrArg some (by kernel_rfl))
  f189 := Tryd.func55.trans (congrArg some (by kernel_rfl))
  f215 := Tryd.func88.trans (congrArg some (by kernel_rfl))
  f216 := Tryd.func77.trans (congrArg some (by kernel_rfl))
  f257 := Tryd.func65.trans (congrArg some (by kernel_rfl))
  f294 := Tryd.func71.trans (congrArg some (by kernel_rfl))
  f295 := Tryd.func72.trans (congrArg some (by kernel_rfl))
  f296 := Tryd.func73.trans (congrArg some (by kernel_rfl))
  f297 := Tryd.func74.trans (congrArg some (by kernel_rfl))
  f298 := Tryd.func75.trans (congrArg some (by kernel_rfl))
  f299 := Tryd.func76.trans (congrArg some (by kernel_rfl))
  f300 := Tryd.func78.trans (congrArg some (by kernel_rfl))
  f301 := Tryd.func79.trans (congrArg some (by kernel_rfl))
  f328 := Tryd.func83.trans (congrArg some (by kernel_rfl))
  f329 := Tryd.func84.trans (congrArg some (by kernel_rfl))
  f330 := Tryd.func85.trans (congrArg some (by kernel_rfl))
  f331 := Tryd.func86.trans (congrArg some (by kernel_rfl))
  f332 := Tryd.func87.trans (congrArg some (by kernel_rfl))
  f343 := Tryd.func89.trans (congrArg some (by kernel_rfl))
  t0 := Tryd.underlying0
  a0 := Tryd.isAgg0
  z0 := Tryd.sizeOf0
  v0 := Tryd.zeroValue0
  t3 := Tryd.underlying3
  a3 := Tryd.isAgg3
  z3 := Tryd.sizeOf3
  v3 := Tryd.zeroValue3
  t4 := Tryd.underlying4
  a4 := Tryd.isAgg4
  z4 := Tryd.sizeOf4
  v4 := Tryd.zeroValue4
  t5 := Tryd.underlying5
  a5 := Tryd.isAgg5
  z5 := Tryd.sizeOf5
  v5 := Tryd.zeroValue5
  t9 := Tryd.underlying9
  a9 := Tryd.isAgg9
  z9 := Tryd.sizeOf9
  v9 := Tryd.zeroValue9
  t28 := Tryd.underlying35
  a28 := Tryd.isAgg35
  z28 := Tryd.sizeOf35
  v28 := Tryd.zeroValue35
  t46 := Tryd.underlying117
  a46 := Tryd.isAgg117
  z46 := Tryd.sizeOf117
  v46 := Tryd.zeroValue117
  t51 := Tryd.underlying130
  a51 := Tryd.isAgg130
  z51 := Tryd.sizeOf130
  v51 := Tryd.zeroValue130
  t53 := Tryd.underlying132
  a53 := Tryd.isAgg132
  z53 := Tryd.sizeOf132
  v53 := Tryd.zeroValue132
  t131 := Tryd.underlying108
  a131 := Tryd.isAgg108
  z131 := Tryd.sizeOf108
  v131 := Tryd.zeroValue108
  t182 := Tryd.underlying123
  a182 := Tryd.isAgg123
  z182 := Tryd.sizeOf123
  v182 := Tryd.zeroValue123
  t183 := Tryd.underlying124
  a183 := Tryd.isAgg124
  z183 := Tryd.sizeOf124
  v183 := Tryd.zeroValue124
  t218 := Tryd.underlying139
  a218 := Tryd.isAgg139
  z218 := Tryd.sizeOf139
  v218 := Tryd.zeroValue139
  t222 := Tryd.underlying105
  a222 := Tryd.isAgg105
  z222 := Tryd.sizeOf105
  v222 := Tryd.zeroValue105
  t228 := Tryd.underlying145
  a228 := Tryd.isAgg145
  z228 := Tryd.sizeOf145
  v228 := Tryd.zeroValue145
  t229 := Tryd.underlying146
  a229 := Tryd.isAgg146
  z229 := Tryd.sizeOf146
  v229 := Tryd.zeroValue146 }
open Go.Sort Go.RowKit in
theorem Tryd.slices_Sort_int (blk off cap : Nat) (zs : List Int) (w : World) (hH : Holds (Value.int .i64) w blk off zs.toArray) (hblk : blk < w.heap.size) (hsz : zs.length < 4611686018427387904) :
    Calls Tryd.prog 55 #[.slice (some ⟨blk, off, none⟩) zs.length cap] w fun e w' =>
      e = .returned (.tuple #[]) ∧ ∃ n os, w' = grow (putRow (Value.int .i64) (Sort.ahead w n) blk off (zs.mergeSort fun x y => decide (x ≤ y)).toArray) os := Any.slices_Sort_int Tryd.lays189 blk off cap zs w hH hblk hsz
def Tryd.lays108_ren : Go.Shelf.Ren := ⟨fun | 108 => 57 | n => n, fun | 28 => 35 | 3 => 3 | 0 => 0 | 4 => 4 | n => n, fun | n => n⟩
theorem Tryd.lays108 : Go.Proofs.Lays.n108 Tryd.prog Tryd.lays108_ren := {
  mixed := by kernel_rfl
  f108 := Tryd.func57.trans (congrArg some (by kernel_rfl))
  t0 := Tryd.underlying0
  a0 := Tryd.isAgg0
  z0 := Tryd.sizeOf0
  v0 := Tryd.zeroValue0
  t3 := Tryd.underlying3
  a3 := Tryd.isAgg3
  z3 := Tryd.sizeOf3
  v3 := Tryd.zeroValue3
  t4 := Tryd.underlying4
  a4 := Tryd.isAgg4
  z4 := Tryd.sizeOf4
  v4 := Tryd.zeroValue4
  t28 := Tryd.underlying35
  a28 := Tryd.isAgg35
  z28 := Tryd.sizeOf35
  v28 := Tryd.zeroValue35 }
open Go.Lib in
theorem Tryd.slices_Index_int (b off n c : Nat) (zs : List Int) (x : Int) (w : World) (hz : n ≤ zs.length) (hbig : n ≤ 9223372036854775807) (hc : ∀ j, j < zs.length → w.cell? ⟨b, off + j, none⟩ = some (.int .i64 (zs.getD j 0))) :
    Calls Tryd.prog 57 #[.slice (some ⟨b, off, none⟩) n c, .int .i64 x] w fun e w' => e = .returned (.int .i64 (Lib.idxOf (zs.take n) x)) ∧ w' = w := Any.slices_Index_int Tryd.lays108 b off n c zs x w hz hbig hc
open Go.Lib in
theorem Tryd.slices_Index_int_empty (a : Option Addr) (c : Nat) (x : Int) (w : World) :
    Calls Tryd.prog 57 #[.slice a 0 c, .int .i64 x] w fun e w' => e = .returned (.int .i64 (Lib.idxOf [] x)) ∧ w' = w := Any.slices_Index_int_empty Tryd.lays108 a c x w
def Tryd.lays107_ren : Go.Shelf.Ren := ⟨fun | 107 => 46 | 108 => 57 | n => n, fun | 28 => 35 | 3 => 3 | 4 => 4 | 0 => 0 | n => n, fun | n => n⟩
theorem Tryd.lays107 : Go.Proofs.Lays.n107 Tryd.prog Tryd.lays107_ren := {
  mixed := by kernel_rfl
  f107 := Tryd.func46.trans (congrArg some (by kernel_rfl))
  f108 := Tryd.func57.trans (congrArg some (by kernel_rfl))
  t0 := Tryd.underlying0
  a0 := Tryd.isAgg0
  z0 := Tryd.sizeOf0
  v0 := Tryd.zeroValue0
  t3 := Tryd.underlying3
  a3 := Tryd.isAgg3
  z3 := Tryd.sizeOf3
  v3 := Tryd.zeroValue3
  t4 := Tryd.underlying4
  a4 := Tryd.isAgg4
  z4 := Tryd.sizeOf4
  v4 := Tryd.zeroValue4
  t28 := Tryd.underlying35
  a28 := Tryd.isAgg35
  z28 := Tryd.sizeOf35
  v28 := Tryd.zeroValue35 }
open Go.Lib in
theorem Tryd.slices_Contains_int (b off n c : Nat) (zs : List Int) (x : Int) (w : World) (hz : n ≤ zs.length) (hbig : n ≤ 9223372036854775807) (hc : ∀ j, j < zs.length → w.cell? ⟨b, off + j, none⟩ = some (.int .i64 (zs.getD j 0))) :
    Calls Tryd.prog 46 #[.slice (some ⟨b, off, none⟩) n c, .int .i64 x] w fun e w' => e = .returned (.bool ((zs.take n).contains x)) ∧ w' = w := Any.slices_Contains_int Tryd.lays107 b off n c zs x w hz hbig hc
open Go.Lib in
theorem Tryd.slices_Contains_int_empty (a : Option Addr) (c : Nat) (x : Int) (w : World) :
    Calls Tryd.prog 46 #[.slice a 0 c, .int .i64 x] w fun e w' => e = .returned (.bool false) ∧ w' = w := Any.slices_Contains_int_empty Tryd.lays107 a c x w
open Go.RowKit Go.Sort in
theorem Tryd.slices_Sort_int_none (p : Option Addr) (cap : Nat) (w : World) :
    Calls Tryd.prog 55 #[.slice p 0 cap] w fun e w' => e = .returned (.tuple #[]) ∧ w' = w := Any.slices_Sort_int_none Tryd.lays189 p cap w
end Go.Proofs
namespace Go.Proofs.YtjdlmhkfaodkgaaDoor.Lex
open Go.ChangeShapes Go.WideShapes Go.ChangeAt Go.RowKit Go.Joins
theorem sort_c : SortC := by
  intro w1 w l v h hl
  obtain ⟨h1, ⟨rfl, h0⟩ | ⟨g, cap, cur, rfl, hg, hr, hn, hcap, hsz, htk⟩⟩ := h.own
  · obtain rfl : l = [] := List.length_eq_zero_iff.1 h0
    refine (Tryd.slices_Sort_int_none none 0 w).mono ?_
    rintro e w' ⟨rfl, rfl⟩
    exact ⟨rfl, by rw [show srt [] = [] by simp [srt]]; exact h⟩
  · rw [Nat.mul_one] at htk
    refine (Tryd.slices_Sort_int g 0 cap l w (holds_of_blockI hr htk) (Array.getElem?_eq_some_iff.1 hr).1 (by omega)).mono ?_
    rintro e w' ⟨rfl, n, os, rfl⟩
    have hl2 : (srt l).length = l.length := srt_len l
    refine ⟨rfl, h.below.grown (grownBy_sortedI (srt l).toArray) h.below.size (fun j hj => ?_), ?_⟩
    · obtain rfl : g = j := by simpa using hj
      exact hg
    · rw [hl2]
      exact ownsRow_sortedI (ts := srt l) hl2 hg hr hn hcap hsz
/-- The places of the flows that a body needs at once, in their order. -/
def need (p : Pg) (k : Nat) (x : Ex) : List Int := srt (nb p (gat k x 0 []))
theorem needed (p : Pg) (k : Nat) (x : Ex) (w : World) (s a b c : Value) (hP : PgAt w p a b c) (hS : St w x s) (hNm : NmOk k x) (hk : k ≤ 1048576) (hc : cnt k x ≤ 1048576) :
    Calls Tryd.prog 44 #[pgV p a b c, exV x s] w fun e w' => ∃ v, e = .returned v ∧ IL w (need p k x) v w' := needed_by sort_c p k x w s a b c hP hS hNm hk hc
end Go.Proofs.YtjdlmhkfaodkgaaDoor.Lex
namespace Go.Proofs.YtjdlmhkfaodkgaaDoor.Lex
open Go.ChangeShapes Go.WideShapes Go.ChangeAt Go.RowKit Go.Joins Go.Maps Go.WideElems Go.MapKept
theorem keyed3 : Keyed Tryd.prog 3 := int_keyed Tryd.underlying3
/-- What a map of rows says of a key. -/
def rowD (l : List Int) : DataW Unit := if l = [] then .nil else .slice (lits .i64 l) []
def LD (D : DataW Unit) (F : Int → List Int) : Prop := IsMap D ∧ ∀ z, D.atKey (.int .i64 z) .nil = rowD (F z)
def upF (F : Int → List Int) (k x : Int) : Int → List Int := fun z => if z = k then F z ++ [x] else F z
theorem lits_inj {a b : List Int} (h : (lits .i64 a : List (DataW Unit)) = lits .i64 b) : a = b := by
  unfold lits at h
  refine (List.map_inj_right (fun x y e => ?_)).1 h
  injection e with e
  injection e
theorem LD.put {D : DataW Unit} {F : Int → List Int} (h : LD D F) (k x : Int) : LD (D.put (.int .i64 k) (.slice (lits .i64 (F k ++ [x])) [])) (upF F k x) := by
  obtain ⟨⟨es, rfl⟩, h2⟩ := h
  refine ⟨⟨_, rfl⟩, fun z => ?_⟩
  by_cases e : z = k
  · subst e
    rw [atKey_put_same ⟨es, rfl⟩ (show WideAt.IsKeyLit (.int .i64 z) from trivial)]
    unfold upF rowD
    rw [if_pos rfl, if_neg (by simp)]
  · rw [atKey_put_other (fun e2 => e (by injection e2)), h2 z]
    unfold upF
    rw [if_neg e]
abbrev Grp (W : World) (base b n : Nat) (D : DataW Unit) : Prop := W.ownsGroups Tryd.prog 3 base 3 .i64 b n D
theorem Grp.mono {W : World} {base b n m : Nat} {D : DataW Unit} (h : Grp W base b n D) (hm : n ≤ m) : Grp W base b m D := by
  obtain ⟨es, clock, hb, F, hs, e, hbb, hlen, hap⟩ := h
  exact ⟨es, clock, hb, F, Nat.le_trans hs hm, e, hbb, fun x hx zs ho => Nat.le_trans (hlen x hx zs ho) hm, hap⟩
/-- The blocks of a map's rows. -/
def rowsOf (W : World) (b g : Nat) : Prop := ∃ es clock, W.heap[b]? = some (.map es clock) ∧ ∃ x ∈ es.toList, x.val.ownBlock = some g
/-- Two maps of rows, no row of one a row of the other. -/
structure Two (W : World) (base b b' n : Nat) (F F' : Int → List Int) : Prop where
  m : ∃ D, Grp W base b n D ∧ LD D F
  m' : ∃ D, Grp W base b' n D ∧ LD D F'
  sep : W.Shuns b (rowsOf W b')
  ne : b ≠ b'
theorem Two.swap {W : World} {base b b' n : Nat} {F F' : Int → List Int} (h : Two W base b b' n F F') : Two W base b' b n F' F := by
  refine ⟨h.m', h.m, ?_, h.ne.symm⟩
  intro es clock hb x hx g hg ⟨es2, clock2, hb2, y, hy, hyg⟩
  exact h.sep es2 clock2 hb2 y hy g hyg ⟨es, clock, hb, x, hx, hg⟩
theorem rowsOf_lt {W : World} {base b n : Nat} {D : DataW Unit} (h : Grp W base b n D) {g : Nat} (hr : rowsOf W b g) : base ≤ g ∧ g < W.heap.size := by
  obtain ⟨es, clock, hb, F, _⟩ := h
  obtain ⟨es2, clock2, hb2, x, hx, hg⟩ := hr
  obtain ⟨rfl, rfl⟩ : es = es2 ∧ clock = clock2 := by rw [hb] at hb2; simpa using hb2
  obtain ⟨y, hy⟩ := F.reads x hx
  obtain ⟨z, hz, _⟩ := rd_val hy
  obtain ⟨zs, ho, _⟩ := rowElem_inv hz
  exact own_lo9 ho.1 g hg
theorem rowsOf_same {W W' : World} {b : Nat} (h : W'.heap[b]? = W.heap[b]?) : rowsOf W' b = rowsOf W b := by
  funext g
  unfold rowsOf
  rw [h]
theorem Grp.lt {W : World} {base b n : Nat} {D : DataW Unit} (h : Grp W base b n D) : b < W.heap.size ∧ b < base := by
  obtain ⟨es, clock, hb, _, _, _, hbb, _⟩ := h
  exact ⟨(Array.getElem?_eq_some_iff.1 hb).1, hbb⟩
theorem zero35 (w : World) : (zeroValue 35).run Tryd.prog w = .ok (.slice none 0 0) w := by kernel_rfl
theorem Two.keep {W W' : World} {base b b' n : Nat} {F F' : Int → List Int} (h : Two W base b b' n F F') (hb : Below W.heap.size W W') : Two W' base b b' n F F' := by
  obtain ⟨D, hD, hL⟩ := h.m
  obtain ⟨D', hD', hL'⟩ := h.m'
  have hg : W.grownBy W' none := ⟨hb.os, hb.tape, hb.output, hb.size, fun k hk _ => hb.block k hk⟩
  have hno : ∀ {es : Array MapEntry} {clock c : Nat}, W.heap[c]? = some (.map es clock) → ∀ x ∈ es.toList, x.val.ownBlock = none ∨ x.val.ownBlock ≠ none := fun _ x _ => by
    cases x.val.ownBlock with
    | none => exact .inl rfl
    | some g => exact .inr (by simp)
  refine ⟨⟨D, hD.kept hg (by simp) (fun es clock he x hx => hno he x hx), hL⟩, ⟨D', hD'.kept hg (by simp) (fun es clock he x hx => hno he x hx), hL'⟩, ?_, h.ne⟩
  rw [rowsOf_same (hb.block b' hD'.lt.1)]
  exact h.sep.kept hg hD.lt.1 (by simp)
theorem uniqK : ∀ {l : List MapEntry}, l.Pairwise (fun x y => x.key ≠ y.key) → ∀ {x y : MapEntry}, x ∈ l → y ∈ l → x.key = y.key → x = y
  | [], _, _, _, hx, _, _ => by cases hx
  | a :: l, h, x, y, hx, hy, e => by
    obtain ⟨h1, h2⟩ := List.pairwise_cons.1 h
    rcases List.mem_cons.1 hx with ex | hx2
    · rcases List.mem_cons.1 hy with ey | hy2
      · rw [ex, ey]
      · subst ex; exact (h1 y hy2 e).elim
    · rcases List.mem_cons.1 hy with ey | hy2
      · subst ey; exact (h1 x hx2 e.symm).elim
      · exact uniqK h2 hx2 hy2 e
set_option maxRecDepth 100000 in
/-- One element more at a key. -/
theorem Two.more {w : World} {base b b' n : Nat} {F F' : Int → List Int} (h : Two w base b b' n F F') (hn : n < 1099511627776) (k : Int) (hk : -9223372036854775808 ≤ k ∧ k ≤ 9223372036854775807) (x : Int) (hx : -9223372036854775808 ≤ x ∧ x ≤ 9223372036854775807) :
    ∃ v, (∀ W, W.heap[b]? = w.heap[b]? → (Instr.lookup 68 (.map (some b)) (.int .i64 k) false).run Tryd.prog W = .ok v W) ∧ w.ownsRow base 3 1 v (F k).length (ints (F k)) ∧ (F k).length ≤ n ∧ (∀ g, v.ownBlock = some g → rowsOf w b g) ∧
      ∀ (w1 : World) (v' : Value), w.grownBy w1 v.ownBlock → w1.ownsRow base 3 1 v' ((F k).length + 1) (ints (F k) ++ [.int .i64 x]) → (v'.ownBlock = v.ownBlock ∨ ∃ g, v'.ownBlock = some g ∧ w.heap.size ≤ g) →
        ∃ w2, (Instr.mapUpdate 68 (.map (some b)) (.int .i64 k) v').run Tryd.prog w1 = .ok () w2 ∧ Two w2 base b b' (n + 1) (upF F k x) F' ∧ w1.grownBy w2 (some b) ∧ (∀ g, rowsOf w2 b g → rowsOf w b g ∨ w.heap.size ≤ g) ∧ rowsOf w2 b' = rowsOf w b' := by
  obtain ⟨D, hD, hL⟩ := h.m
  obtain ⟨D', hD', hL'⟩ := h.m'
  have hmax : n < maxLen := by unfold maxLen; omega
  have hwf : ∀ z : Int, -9223372036854775808 ≤ z ∧ z ≤ 9223372036854775807 → (Lit.int .i64 z).wf = true := fun z hz => by simp [Lit.wf, IntKind.min, IntKind.max, IntKind.signed, IntKind.bits]; omega
  have hkey : keyOf Tryd.prog 3 (.int .i64 k) = some (.int .i64 k) := by
    simp [keyOf, mapKey, Tryd.underlying3, hwf k hk]
  obtain ⟨v, zs, hrun, hat, hoi, hzl, hback⟩ := hD.at keyed3 Tryd.underlying68 (zero35 w) hmax hkey
  have hzs : zs = F k := by
    rw [hL.2 k] at hat
    unfold rowD at hat
    rcases hoi.datum (H := Unit) with ⟨h1, h2⟩ | h1
    · rw [h1] at hat
      split at hat
      · rename_i e; rw [e, h2]
      · cases hat
    · rw [h1] at hat
      split at hat
      · cases hat
      · injection hat with e
        exact (lits_inj e).symm
  subst hzs
  have hsame : ∀ W, W.heap[b]? = w.heap[b]? → (Instr.lookup 68 (.map (some b)) (.int .i64 k) false).run Tryd.prog W = .ok v W := by
    intro W hW
    obtain ⟨es, clock, hb, Ft, _⟩ := hD
    have hbW : W.heap[b]? = some (.map es clock) := hW.trans hb
    rcases fit_look false keyed3 Tryd.underlying68 (zero35 w) hb Ft hkey with ⟨r0, n0, _⟩ | ⟨e0, y0, m0, k0, r0, _⟩
    · rcases fit_look false keyed3 Tryd.underlying68 (zero35 W) hbW Ft hkey with ⟨r1, n1, _⟩ | ⟨e1, y1, m1, k1, r1, _⟩
      · rw [hrun] at r0
        obtain rfl : v = .slice none 0 0 := by simpa using r0
        simpa using r1
      · exact (n0 e1 m1 k1).elim
    · rcases fit_look false keyed3 Tryd.underlying68 (zero35 W) hbW Ft hkey with ⟨r1, n1, _⟩ | ⟨e1, y1, m1, k1, r1, _⟩
      · exact (n1 e0 m0 k0).elim
      · rw [hrun] at r0
        obtain rfl : v = e0.val := by simpa using r0
        obtain rfl : e0 = e1 := uniqK (((stamped_iff es clock).1 Ft.stamped).2.2) m0 m1 (k0.trans k1.symm)
        simpa using r1
  have hv : ∀ g, v.ownBlock = some g → rowsOf w b g := by
    intro g hgv
    obtain ⟨es, clock, hb, Ft, _⟩ := hD
    rcases fit_look false keyed3 Tryd.underlying68 (zero35 w) hb Ft hkey with ⟨r0, n0, _⟩ | ⟨e0, y0, m0, k0, r0, _⟩
    · rw [hrun] at r0
      obtain rfl : v = .slice none 0 0 := by simpa using r0
      cases hgv
    · rw [hrun] at r0
      obtain rfl : v = e0.val := by simpa using r0
      exact ⟨es, clock, hb, e0, m0, hgv⟩
  refine ⟨v, hsame, hoi.1, hzl, hv, fun w1 v' hg hown hloc => ?_⟩
  have hown' : w1.ownsInts base 3 .i64 v' (F k ++ [x]) := hoi.appended hown (hwf x hx)
  obtain ⟨w2, hrun2, hD2, hg2⟩ := hback w1 v' (F k ++ [x]) hg hown' (by simp; omega) hloc
  rw [hown'.datum_pos (by simp)] at hD2
  have hvno : ∀ g, v.ownBlock = some g → ¬ rowsOf w b' g := fun g hgv hr => by
    obtain ⟨es, clock, hb, e0, m0, he⟩ := hv g hgv
    exact h.sep es clock hb e0 m0 g he hr
  have hb'v : some b' ≠ v.ownBlock := fun e => by have := (own_lo9 hoi.1 b' e.symm).1; have := hD'.lt.2; omega
  have hD1' : Grp w1 base b' n D' := hD'.kept hg hb'v (fun es clock he y hy => by
    cases hy2 : y.val.ownBlock with
    | none => exact .inl rfl
    | some g => exact .inr (fun e => hvno g e.symm ⟨es, clock, he, y, hy, hy2⟩))
  have hD2' : Grp w2 base b' n D' := hD1'.kept hg2 (by intro e; injection e with e; exact h.ne e.symm) (fun es clock he y hy => by
    cases hy2 : y.val.ownBlock with
    | none => exact .inl rfl
    | some g => exact .inr (fun e => by
        injection e with e
        have h1 := (rowsOf_lt hD1' (g := g) ⟨es, clock, he, y, hy, hy2⟩).1
        have h2 := hD.lt.2
        omega))
  have hrows : rowsOf w2 b' = rowsOf w b' := rowsOf_same ((hg2.block b' hD1'.lt.1 (by intro e; injection e with e; exact h.ne e.symm)).trans (hg.block b' hD'.lt.1 hb'v))
  have hnew : ∀ g, rowsOf w2 b g → rowsOf w b g ∨ w.heap.size ≤ g := by
    have hbb : b < base := Grp.lt hD |>.2
    obtain ⟨es, clock, hb, Ft, hs, _⟩ := hD
    have hb1 : w1.heap[b]? = some (.map es clock) := (hg.block b (Array.getElem?_eq_some_iff.1 hb).1 (fun e => by have := (own_lo9 hoi.1 b e.symm).1; omega)).trans hb
    obtain ⟨es', clock', hb2, hwho⟩ := stored_who keyed3 Tryd.underlying68 hb1 Ft (Nat.lt_of_le_of_lt hs hmax) hkey hrun2
    intro g ⟨es2, clock2, hb2', y, hy, hyg⟩
    obtain ⟨rfl, rfl⟩ : es' = es2 ∧ clock' = clock2 := by rw [hb2] at hb2'; simpa using hb2'
    rcases hwho y hy with ⟨hy0, _⟩ | ⟨_, hval⟩
    · exact .inl ⟨es, clock, hb, y, hy0, hyg⟩
    · rw [hval] at hyg
      rcases hloc with e | ⟨g2, e, hge⟩
      · exact .inl (hv g (e ▸ hyg))
      · rw [e] at hyg
        injection hyg with hyg
        exact .inr (by omega)
  refine ⟨w2, hrun2, ⟨⟨_, hD2, hL.put k x⟩, ⟨D', hD2'.mono (Nat.le_succ n), hL'⟩, ?_, h.ne⟩, hg2, hnew, hrows⟩
  rw [hrows]
  intro es2 clock2 hb2' y hy g hyg hr
  rcases hnew g ⟨es2, clock2, hb2', y, hy, hyg⟩ with ⟨es, clock, hb, e0, m0, he⟩ | hge
  · exact h.sep es clock hb e0 m0 g he hr
  · have := (rowsOf_lt hD' hr).2
    omega
end Go.Proofs.YtjdlmhkfaodkgaaDoor.Lex
namespace Go.Proofs.YtjdlmhkfaodkgaaDoor.Lex
open Go.ChangeShapes Go.WideShapes Go.ChangeAt Go.RowKit Go.Joins
/-- Where it says no, the rows are short. -/
def GreatC (p : Pg) (e : Ending) : Prop := ∃ g : Bool, e = .returned (.bool g) ∧ (g = false → p.ins.length ≤ 100 ∧ p.flows.length ≤ 130 ∧ p.outs.length ≤ 300)
set_option maxRecDepth 100000 in
set_option maxHeartbeats 1000000 in
theorem great (p : Pg) (w : World) (a b c : Value) (hP : PgAt w p a b c) :
    Calls Tryd.prog 9 #[pgV p a b c] w fun e w' => GreatC p e ∧ Below w.heap.size w w' := by
  obtain ⟨a0, a1, rfl, _⟩ := hP.ins
  obtain ⟨b0, b1, _, rfl, _⟩ := hP.flows
  obtain ⟨c0, c1, rfl, _⟩ := hP.outs
  have B0 := hid ((Below.refl w.heap.size w).alloc (Nat.le_refl _) (.cells (pgC p (.slice a0 p.ins.length a1) (.slice b0 p.flows.length b1) (.slice c0 p.outs.length c1)) 26))
  have P0 := hid (hP.keep B0.out)
  have bx := fun j v => box_at w (pgC p (.slice a0 p.ins.length a1) (.slice b0 p.flows.length b1) (.slice c0 p.outs.length c1)) 26 j v
  have x0 := bx 0 _ rfl
  have x1 := bx 1 _ rfl
  have x2 := bx 2 _ rfl
  have x3 := bx 3 _ rfl
  clear hP bx
  go_enter Tryd.func9, Tryd.ntmps9
  go_wp2_with (go_at_call 20; refine (prog_size _ _ _ _ _ P0.out).mono ?_; rintro e w1 ⟨⟨m1, rfl⟩, hb1⟩; have B1 := hid (bstep B0.out hb1); clear P0 hb1)
  all_goals (go_ret; first | exact ⟨⟨_, rfl, fun h => by simp at *; try omega⟩, B1.out⟩ | exact ⟨⟨_, rfl, fun h => by simp at *; try omega⟩, B0.out⟩)
end Go.Proofs.YtjdlmhkfaodkgaaDoor.Lex
namespace Go.Proofs.YtjdlmhkfaodkgaaDoor.Lex
open Go.ChangeShapes Go.WideShapes Go.ChangeAt Go.RowKit Go.Joins Go.Maps Go.WideElems Go.MapKept
def whomF (E : List (Int × Int)) (z : Int) : List Int := E.filterMap fun e => if e.1 = z then some e.2 else none
def whoF (E : List (Int × Int)) (z : Int) : List Int := E.filterMap fun e => if e.2 = z then some e.1 else none
theorem whom_snoc (E : List (Int × Int)) (e : Int × Int) : whomF (E ++ [e]) = upF (whomF E) e.1 e.2 := by
  funext z
  unfold whomF upF
  rw [List.filterMap_append]
  by_cases h : z = e.1
  · rw [if_pos h]; simp [h]
  · rw [if_neg h]; simp [Ne.symm h]
theorem who_snoc (E : List (Int × Int)) (e : Int × Int) : whoF (E ++ [e]) = upF (whoF E) e.2 e.1 := by
  funext z
  unfold whoF upF
  rw [List.filterMap_append]
  by_cases h : z = e.2
  · rw [if_pos h]; simp [h]
  · rw [if_neg h]; simp [Ne.symm h]
/-- The needs of the flows, each with what it needs, in their order. -/
def edgesOf (p : Pg) (d : Nat) (k : Nat) (h : k < p.flows.length) : List (Int × Int) := (need p d p.flows[k].body).map fun z => ((k : Int), z)
def edges (p : Pg) (d : Nat) : Nat → List (Int × Int)
  | 0 => []
  | k + 1 => edges p d k ++ (if h : k < p.flows.length then edgesOf p d k h else [])
/-- The variables of needsOf, and the two maps. -/
structure NS (w : World) (p : Pg) (A B C : Value) (n : Nat) (F F' : Int → List Int) (W : World) : Prop where
  row : W.heap[w.heap.size]? = some (.cells (pgC p A B C) 26 (0, 0))
  res : W.heap[w.heap.size + 1]? = some (.cells #[.map none, .map none] 70 (0, 0))
  var : W.heap[w.heap.size + 4]? = some (.cells #[.map (some (w.heap.size + 2)), .map (some (w.heap.size + 3))] 70 (0, 0))
  two : Two W (w.heap.size + 5) (w.heap.size + 2) (w.heap.size + 3) n F F'
  below : Below w.heap.size w W
theorem NS.keep {w W W' : World} {p : Pg} {A B C : Value} {n : Nat} {F F' : Int → List Int} (h : NS w p A B C n F F' W) (hb : Below W.heap.size W W') : NS w p A B C n F F' W' :=
  ⟨keep_row h.row hb, keep_row h.res hb, keep_row h.var hb, h.two.keep hb, h.below.trans (hb.mono h.below.size)⟩
theorem NS.size {w W : World} {p : Pg} {A B C : Value} {n : Nat} {F F' : Int → List Int} (h : NS w p A B C n F F' W) : w.heap.size + 5 ≤ W.heap.size := (Array.getElem?_eq_some_iff.1 h.var).1
theorem NS.step {w W w1 w2 : World} {p : Pg} {A B C : Value} {n n2 : Nat} {F F' G G' : Int → List Int} {r : Option Nat} {b : Nat} (h : NS w p A B C n F F' W) (hg : W.grownBy w1 r) (hr : ∀ j, r = some j → w.heap.size + 5 ≤ j) (h2 : w1.grownBy w2 (some b)) (hb : b = w.heap.size + 2 ∨ b = w.heap.size + 3)
    (two2 : Two w2 (w.heap.size + 5) (w.heap.size + 2) (w.heap.size + 3) n2 G G') : NS w p A B C n2 G G' w2 := by
  have key : ∀ k o, W.heap[k]? = some o → k < w.heap.size + 5 → k ≠ b → w2.heap[k]? = some o := fun k o hk hlt hne => by
    have hkW := (Array.getElem?_eq_some_iff.1 hk).1
    have h1 : w1.heap[k]? = W.heap[k]? := hg.block k hkW (fun e => by have := hr k e.symm; omega)
    exact (h2.block k (Nat.lt_of_lt_of_le hkW hg.size) (fun e => hne (by injection e))).trans (h1.trans hk)
  refine ⟨key _ _ h.row (by omega) (by omega), key _ _ h.res (by omega) (by omega), key _ _ h.var (by omega) (by omega), two2, ?_⟩
  refine (h.below.grown hg h.below.size (fun j hj => by have := hr j hj; omega)).grown h2 (Nat.le_trans h.below.size hg.size) (fun j hj => ?_)
  injection hj with hj
  omega
theorem grp_none {W : World} {base b : Nat} (h : W.heap[b]? = some (.map #[] 0)) (hb : b < base) : Grp W base b 0 (.map []) :=
  ⟨#[], 0, h, ⟨by simp, stamped_empty 0, by simp⟩, Nat.le_refl _, rfl, hb, by simp, by simp⟩
theorem ld_none : LD (.map []) (fun _ => []) := ⟨⟨[], rfl⟩, fun _ => rfl⟩
theorem two_none {W : World} {base b b' : Nat} (h : W.heap[b]? = some (.map #[] 0)) (h' : W.heap[b']? = some (.map #[] 0)) (hb : b < base) (hb' : b' < base) (hne : b ≠ b') : Two W base b b' 0 (fun _ => []) (fun _ => []) := by
  refine ⟨⟨_, grp_none h hb, ld_none⟩, ⟨_, grp_none h' hb', ld_none⟩, ?_, hne⟩
  intro es clock he x hx
  rw [h] at he
  obtain ⟨rfl, rfl⟩ : #[] = es ∧ 0 = clock := by simpa using he
  simp at hx
/-- The row of what one flow needs, beside the maps. -/
structure NR (w : World) (l : List Int) (v : Value) (W : World) : Prop where
  own : W.ownsRow (w.heap.size + 5) 3 1 v l.length (ints l)
  off : ∀ g, v.ownBlock = some g → ¬ rowsOf W (w.heap.size + 2) g ∧ ¬ rowsOf W (w.heap.size + 3) g
theorem NR.keep {w W W' : World} {p : Pg} {A B C : Value} {n : Nat} {F F' : Int → List Int} {l : List Int} {v : Value} (h : NR w l v W) (hN : NS w p A B C n F F' W) (hb : Below W.heap.size W W') : NR w l v W' := by
  have hs := hN.size
  refine ⟨own_carry9 h.own (fun b _ hlt => hb.block b hlt), fun g hg => ?_⟩
  rw [rowsOf_same (hb.block _ (by omega)), rowsOf_same (hb.block _ (by omega))]
  exact h.off g hg
theorem NR.step {w W w1 w2 : World} {l : List Int} {v : Value} {r : Option Nat} {b b' : Nat} (h : NR w l v W) (hbb : (b = w.heap.size + 2 ∧ b' = w.heap.size + 3) ∨ (b = w.heap.size + 3 ∧ b' = w.heap.size + 2)) (hg : W.grownBy w1 r) (hr : ∀ j, r = some j → rowsOf W b j) (h2 : w1.grownBy w2 (some b))
    (hnew : ∀ g, rowsOf w2 b g → rowsOf W b g ∨ W.heap.size ≤ g) (hold : rowsOf w2 b' = rowsOf W b') : NR w l v w2 := by
  have hoff : ∀ g, v.ownBlock = some g → ¬ rowsOf W b g ∧ ¬ rowsOf W b' g := fun g hg => by
    have := h.off g hg
    rcases hbb with ⟨rfl, rfl⟩ | ⟨rfl, rfl⟩
    · exact this
    · exact this.symm
  have e1 : v.ownBlock = none ∨ v.ownBlock ≠ r := by
    cases hv : v.ownBlock with
    | none => exact .inl rfl
    | some g => exact .inr (fun e => (hoff g hv).1 (hr g e.symm))
  have e2 : v.ownBlock = none ∨ v.ownBlock ≠ some b := by
    cases hv : v.ownBlock with
    | none => exact .inl rfl
    | some g => exact .inr (fun e => by
        injection e with e
        have := (own_lo9 h.own g hv).1
        rcases hbb with ⟨rfl, rfl⟩ | ⟨rfl, rfl⟩ <;> omega)
  have hoff2 : ∀ g, v.ownBlock = some g → ¬ rowsOf w2 b g ∧ ¬ rowsOf w2 b' g := fun g hg => by
    refine ⟨fun hr2 => ?_, by rw [hold]; exact (hoff g hg).2⟩
    rcases hnew g hr2 with h1 | h1
    · exact (hoff g hg).1 h1
    · have := (own_lo9 h.own g hg).2; omega
  refine ⟨(h.own.kept hg e1).kept h2 e2, fun g hg => ?_⟩
  have := hoff2 g hg
  rcases hbb with ⟨rfl, rfl⟩ | ⟨rfl, rfl⟩
  · exact this
  · exact this.symm
end Go.Proofs.YtjdlmhkfaodkgaaDoor.Lex
