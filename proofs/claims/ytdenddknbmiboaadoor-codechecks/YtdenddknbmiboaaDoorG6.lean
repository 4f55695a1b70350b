/-
  Does each name mean one thing: the contract of names.Check.
  May flows be so late: the contract of late.Check.
  The twin of a program's rows: new memory, with a mark behind each row.
  All that flows ask for, in a row of its own: the contracts of slices.AppendSeq and slices.Collect over it.
  One more asks for a name.
  What is checked is found: in a program whose names mean one thing each.
  Names that may be keys, and who asks for them: plain mathematics.
  How great a program is: whatever number is told, the calls return.
  A program in its variable.
  askersOf: who asks for what, in a map.
-/
import Derived.Test.YtdenddknbmiboaaDoorG5
import Derived.Test.YtdenddknbmiboaaDoorG3
import Derived.Test.YtdenddknbmiboaaDoorG4
import Derived.Test.YtdenddknbmiboaaDoorG2
import Derived.Maps.OwnIn
import Derived.Test.YtdenddknbmiboaaDoorG1
namespace Go.Proofs.YtdenddknbmiboaaDoor.Lex
open Go.ChangeShapes Go.WideShapes Go.ChangeAt Go.RowKit Go.Shelf
attribute [local go_sem] Oper.semAt_some
def twice (p : Pg) (s : ByteArray) : Bool := decide (1 < cntT (thingsL p) s.data.toList)
def none_ (p : Pg) (s : ByteArray) : Bool := decide (cntT (thingsL p) s.data.toList = 0)
def told (p : Pg) (s : ByteArray) : Bool := decide (1 < cntO p.outs s.data.toList)
/-- Does each name mean one thing, that is there? -/
def nmOk (p : Pg) : Bool := (thingsL p).all (fun x => !twice p x.2.name) && ((askedL p).all (fun s => !none_ p s) && p.outs.all (fun s => !(none_ p s || told p s)))
def nmErr (p : Pg) : Int := if pgOk p then (if nmOk p then 0 else 6) else 1
theorem pgOk_chk {p : Pg} (h : pgOk p = true) : ∀ f ∈ p.flows, chk f.body = true := fun f hf => by
  unfold pgOk at h
  simp only [Bool.and_eq_true, List.all_eq_true] at h
  have := h.2.2.1 f hf
  unfold flOk at this
  simp only [Bool.and_eq_true] at this
  exact this.2.2
/-- None of them is there twice. -/
def FineT (p : Pg) (pre : List Tg) : Prop := ∀ x ∈ pre, twice p x.1.2.name = false
theorem field61 (a b : Int) (W : World) : (Instr.field 137 (.agg #[.int .i64 a, .int .i64 b]) 0).run Tryd.prog W = .ok (.int .i64 a) W := by kernel_rfl
theorem nmOk_twice {p : Pg} {x : Int × Hd} (hx : x ∈ thingsL p) (h : twice p x.2.name = true) : nmOk p = false := by
  unfold nmOk
  have : (thingsL p).all (fun x => !twice p x.2.name) = false := by rw [List.all_eq_false]; exact ⟨x, hx, by simp [h]⟩
  rw [this]; rfl
theorem nmOk_none {p : Pg} {s : ByteArray} (hx : s ∈ askedL p) (h : none_ p s = true) : nmOk p = false := by
  unfold nmOk
  have : (askedL p).all (fun s => !none_ p s) = false := by rw [List.all_eq_false]; exact ⟨s, hx, by simp [h]⟩
  rw [this, Bool.false_and, Bool.and_false]
theorem nmOk_told {p : Pg} {s : ByteArray} (hx : s ∈ p.outs) (h : (none_ p s || told p s) = true) : nmOk p = false := by
  unfold nmOk
  have : p.outs.all (fun s => !(none_ p s || told p s)) = false := by rw [List.all_eq_false]; exact ⟨s, hx, by rw [h]; simp⟩
  rw [this, Bool.and_false, Bool.and_false]
theorem leave2 {w X : World} {D1 D2 r : Nat} {v : Value} (k2 : X.heap[D2]? = some (.deferred (some []))) (k1 : X.heap[D1]? = some (.deferred (some []))) (hne : D1 < D2) (hw : w.heap.size ≤ D1) (hb : Boxed X r 49 v) (hB : Below w.heap.size w X) :
    (X.putObj D2 (.deferred none)).heap[D1]? = some (.deferred (some [])) ∧ ((X.putObj D2 (.deferred none)).putObj D1 (.deferred none)).cell? ⟨r, 0, none⟩ = some v ∧ Below w.heap.size w ((X.putObj D2 (.deferred none)).putObj D1 (.deferred none)) := by
  have k1' : (X.putObj D2 (.deferred none)).heap[D1]? = some (.deferred (some [])) := ((grownBy_putObj' X D2 (.deferred none)).block D1 (Array.getElem?_eq_some_iff.1 k1).1 (by intro e; injection e with e; omega)).trans k1
  refine ⟨k1', ?_, ?_⟩
  · exact Go.cell_kept (Go.cell_kept hb.cell (grownBy_putObj' _ D2 (.deferred none)) (fun r e => by cases e; exact ⟨_, k2, rfl⟩)) (grownBy_putObj' _ D1 (.deferred none)) (fun r e => by cases e; exact ⟨_, k1', rfl⟩)
  · exact (hB.trans (belowK_b (w := w) (Nat.le_refl _) X D2 _ _ (by omega) k2 rfl rfl)).trans (belowK_b (w := w) (Nat.le_refl _) _ D1 _ _ (by omega) k1' rfl rfl)
/-- What stands while names are looked up. -/
structure CK (w : World) (p : Pg) (c4 : Array Value) (mb vb : Nat) (W : World) : Prop where
  map : ∃ n, TMap W mb n (tly (thingsL p) p.outs)
  var : W.heap[vb]? = some (.cells #[.map (some mb)] 131 (0, 0))
  res : Boxed W (w.heap.size + 1) 49 (.int .i64 0)
  prog : W.heap[w.heap.size]? = some (.cells c4 46 (0, 0))
  below : Below w.heap.size w W
theorem CK.keep {w W W' : World} {p : Pg} {c4 : Array Value} {mb vb : Nat} (h : CK w p c4 mb vb W) (hb : Below W.heap.size W W') : CK w p c4 mb vb W' := by
  obtain ⟨n, hm⟩ := h.map
  exact ⟨⟨n, hm.keep hb⟩, (hb.block _ (Array.getElem?_eq_some_iff.1 h.var).1).trans h.var, (hb.block _ h.res.lt).trans h.res, (hb.block _ (Array.getElem?_eq_some_iff.1 h.prog).1).trans h.prog, h.below.trans (hb.mono h.below.size)⟩
theorem CK.own {w : World} {p : Pg} {c4 : Array Value} {mb vb B0 : Nat} (hmb : mb < B0) (hw : w.heap.size ≤ B0) : OwnFrom B0 (fun (_ : Unit) W => CK w p c4 mb vb W) := fun _ X Y row hs hg hr => by
  obtain ⟨n, hm⟩ := hs.map
  exact ⟨⟨n, hm.kept hg (fun e => by have := (hr _ e.symm).1; omega)⟩, cells_turn hg (fun r e => (hr r e).2) hs.var, box_turn hs.res hg hr, cells_turn hg (fun r e => (hr r e).2) hs.prog,
    (ownFrom_below (w₀ := w) (Nat.le_refl _) hw : OwnFrom B0 (fun (_ : Unit) W => Below w.heap.size w W)) () X Y row hs.below hg hr⟩
set_option maxRecDepth 100000 in
set_option maxHeartbeats 2000000 in
theorem names_check (p : Pg) (w : World) (a b c : Value) (hP : PgAt w p a b c) (hR : TabR w) (hJ : TabJ w) :
    CallsIn Fence.wide 20 Tryd.prog 43 #[pgV p a b c] w fun e W' => e = .returned (.int .i64 (nmErr p)) ∧ Below w.heap.size w W' := by
  have h22 : Fence.wide.fn 61 := trivial
  have h23 : Fence.wide.fn 62 := trivial
  have h24 : Fence.wide.fn 63 := trivial
  have h25 : Fence.wide.fn 64 := trivial
  obtain ⟨a0, a1, rfl, hl1, _, ho1, _⟩ := hP.ins
  obtain ⟨b0, b1, _, rfl, hl2, _, ho2, _⟩ := hP.flows
  obtain ⟨c0, c1, rfl, hl3, _, ho3, hc3⟩ := hP.outs
  have HP := hid hP
  have HC3 := hid hc3
  have HO3 := hid ho3
  have W1B : Below w.heap.size w ((w.alloc (.cells (pgC p (.slice a0 p.ins.length a1) (.slice b0 p.flows.length b1) (.slice c0 p.outs.length c1)) 46)).alloc (.cells #[.int .i64 0] 49)) := ((Below.refl w.heap.size w).alloc (Nat.le_refl _) _).alloc (by simp) _
  have hbp : ((w.alloc (.cells (pgC p (.slice a0 p.ins.length a1) (.slice b0 p.flows.length b1) (.slice c0 p.outs.length c1)) 46)).alloc (.cells #[.int .i64 0] 49)).heap[w.heap.size]? = some (.cells (pgC p (.slice a0 p.ins.length a1) (.slice b0 p.flows.length b1) (.slice c0 p.outs.length c1)) 46 (0, 0)) := by
    rw [Below.heap_alloc _ _ _ (by simp)]; exact heap_alloc_new w _
  have hbr : Boxed ((w.alloc (.cells (pgC p (.slice a0 p.ins.length a1) (.slice b0 p.flows.length b1) (.slice c0 p.outs.length c1)) 46)).alloc (.cells #[.int .i64 0] 49)) (w.heap.size + 1) 49 (.int .i64 0) := by
    have := Boxed.new (w.alloc (.cells (pgC p (.slice a0 p.ins.length a1) (.slice b0 p.flows.length b1) (.slice c0 p.outs.length c1)) 46)) 49 (.int .i64 0)
    simpa using this
  have c22 := (callsIn_wide (n := 19)).2 (prog_check p _ _ _ _ (hP.keep W1B) (hR.below W1B) (hJ.below W1B))
  clear hP hc3 ho1 ho2 ho3 hR hJ
  have x0 : ((w.alloc (.cells (pgC p (.slice a0 p.ins.length a1) (.slice b0 p.flows.length b1) (.slice c0 p.outs.length c1)) 46)).alloc (.cells #[.int .i64 0] 49)).cell? ⟨w.heap.size, 0, none⟩ = some (.int .i64 p.st) := by rw [cell_of_row _ _ _ _ 46 (0, 0) hbp]; rfl
  have x1 : ((w.alloc (.cells (pgC p (.slice a0 p.ins.length a1) (.slice b0 p.flows.length b1) (.slice c0 p.outs.length c1)) 46)).alloc (.cells #[.int .i64 0] 49)).cell? ⟨w.heap.size, 1, none⟩ = some (.slice a0 p.ins.length a1) := by rw [cell_of_row _ _ _ _ 46 (0, 0) hbp]; rfl
  have x2 : ((w.alloc (.cells (pgC p (.slice a0 p.ins.length a1) (.slice b0 p.flows.length b1) (.slice c0 p.outs.length c1)) 46)).alloc (.cells #[.int .i64 0] 49)).cell? ⟨w.heap.size, 2, none⟩ = some (.slice b0 p.flows.length b1) := by rw [cell_of_row _ _ _ _ 46 (0, 0) hbp]; rfl
  have x3 : ((w.alloc (.cells (pgC p (.slice a0 p.ins.length a1) (.slice b0 p.flows.length b1) (.slice c0 p.outs.length c1)) 46)).alloc (.cells #[.int .i64 0] 49)).cell? ⟨w.heap.size, 3, none⟩ = some (.slice c0 p.outs.length c1) := by rw [cell_of_row _ _ _ _ 46 (0, 0) hbp]; rfl
  have HBP := hid hbp
  have HBR := hid hbr
  have HWB := hid W1B
  clear hbp hbr W1B
  refine callsIn_of_wp_marks Tryd.func43 rfl trivial ?_ rfl
  simp only [Tryd.ntmps43, List.size_toArray, List.length_cons, List.length_nil, Nat.reduceAdd, Nat.reduceSub, Array.replicate_succ, Array.replicate_zero, List.push_toArray, List.append_toArray, List.nil_append, List.cons_append]
  cases hk : pgOk p with
  | false =>
    rw [hk] at c22
    have HE : Hid (nmErr p = 1) := hid (by unfold nmErr; rw [hk]; rfl)
    clear hk
    gi_wp2_with (gi_at_call 61; refine c22.mono ?_; rintro e w3 ⟨rfl, hb3⟩; have hr3 : Boxed w3 (w.heap.size + 1) 49 (.int .i64 0) := (hb3.block _ HBR.out.lt).trans HBR.out; have d3 := hr3.cell; have f3 := hr3.frozen; have HR3 := hid hr3; have HB3 := hid hb3; clear hb3 hr3)
    have hr' := HR3.out.set (.int .i64 1)
    have e2 := hr'.cell
    exact ⟨.int .i64 1, by simp [results, Tryd.f43, go_sem, e2], by rw [HE.out], (HWB.out.trans (HB3.out.mono HWB.out.size)).setCell (p := ⟨w.heap.size + 1, 0, none⟩) (by simp) _⟩
  | true =>
    rw [hk] at c22
    have HE : Hid (nmErr p = if nmOk p then 0 else 6) := hid (by unfold nmErr; rw [hk]; rfl)
    have HCK := hid (pgOk_chk hk)
    have hrm : p.ins.length ≤ 64 ∧ p.flows.length ≤ 128 ∧ p.outs.length ≤ p.ins.length + p.flows.length := by
      unfold pgOk roomOk at hk
      simp only [Bool.and_eq_true, decide_eq_true_eq] at hk
      exact hk.1.2
    clear hk
    gi_wp2_with (first
      | (gi_at_call 61; refine c22.mono ?_; rintro e w3 ⟨rfl, hb3⟩; have hp3 := (hb3.block _ (Array.getElem?_eq_some_iff.1 HBP.out).1).trans HBP.out; have hw3 := HWB.out.trans (hb3.mono HWB.out.size)
         have y0 : w3.cell? ⟨w.heap.size, 0, none⟩ = some (.int .i64 p.st) := by rw [cell_of_row _ _ _ _ 46 (0, 0) hp3]; rfl
         have y1 : w3.cell? ⟨w.heap.size, 1, none⟩ = some (.slice a0 p.ins.length a1) := by rw [cell_of_row _ _ _ _ 46 (0, 0) hp3]; rfl
         have y2 : w3.cell? ⟨w.heap.size, 2, none⟩ = some (.slice b0 p.flows.length b1) := by rw [cell_of_row _ _ _ _ 46 (0, 0) hp3]; rfl
         have y3 : w3.cell? ⟨w.heap.size, 3, none⟩ = some (.slice c0 p.outs.length c1) := by rw [cell_of_row _ _ _ _ 46 (0, 0) hp3]; rfl
         have hr3 : Boxed w3 (w.heap.size + 1) 49 (.int .i64 0) := (hb3.block _ HBR.out.lt).trans HBR.out
         have c23 := counted_in Fence.wide 19 trivial trivial trivial rfl (by omega) p w3 _ _ _ (HP.out.keep hw3)
         have HP3 := hid hp3; have HR3 := hid hr3; have HW3 := hid hw3; clear hp3 hr3 hw3 hb3 c22)
      | (gi_at_call 62; refine c23.mono ?_; rintro e w4 ⟨rfl, hm4, hb4⟩; have hp4 := (Below.heap_alloc w4 (.cells #[.map (some (w3.heap.size + 1))] 131) _ (Nat.lt_of_lt_of_le (Array.getElem?_eq_some_iff.1 HP3.out).1 hb4.size)).trans ((hb4.block _ (Array.getElem?_eq_some_iff.1 HP3.out).1).trans HP3.out)
         have z0 : (w4.alloc (.cells #[.map (some (w3.heap.size + 1))] 131)).cell? ⟨w.heap.size, 0, none⟩ = some (.int .i64 p.st) := by rw [cell_of_row _ _ _ _ 46 (0, 0) hp4]; rfl
         have z1 : (w4.alloc (.cells #[.map (some (w3.heap.size + 1))] 131)).cell? ⟨w.heap.size, 1, none⟩ = some (.slice a0 p.ins.length a1) := by rw [cell_of_row _ _ _ _ 46 (0, 0) hp4]; rfl
         have z2 : (w4.alloc (.cells #[.map (some (w3.heap.size + 1))] 131)).cell? ⟨w.heap.size, 2, none⟩ = some (.slice b0 p.flows.length b1) := by rw [cell_of_row _ _ _ _ 46 (0, 0) hp4]; rfl
         have z3 : (w4.alloc (.cells #[.map (some (w3.heap.size + 1))] 131)).cell? ⟨w.heap.size, 3, none⟩ = some (.slice c0 p.outs.length c1) := by rw [cell_of_row _ _ _ _ 46 (0, 0) hp4]; rfl
         have HM4 := hid hm4; have HB4 := hid hb4; have HP4 := hid hp4; clear hm4 hb4 hp4 c23)
      | (gi_at_call 63; refine (things Fence.wide 19 trivial rfl p _ _ _ _).mono ?_; rintro e w' ⟨rfl, rfl⟩))
    clear y0 y1 y2 y3 z0 z1 z2 z3 x0 x1 x2 x3
    have hm4 := HM4.out
    have hlt4 := hm4.lt
    have hsz : ((w4.alloc (.cells #[.map (some (w3.heap.size + 1))] 131)).alloc (.cells (pgC p (.slice a0 p.ins.length a1) (.slice b0 p.flows.length b1) (.slice c0 p.outs.length c1)) 46)).heap.size = w4.heap.size + 2 := by simp
    have g1 := World.grownBy_alloc w4 (.cells #[.map (some (w3.heap.size + 1))] 131) none
    have g2 := World.grownBy_alloc (w4.alloc (.cells #[.map (some (w3.heap.size + 1))] 131)) (.cells (pgC p (.slice a0 p.ins.length a1) (.slice b0 p.flows.length b1) (.slice c0 p.outs.length c1)) 46) none
    have hw3 := HW3.out.size
    have hr4 : Boxed w4 (w.heap.size + 1) 49 (.int .i64 0) := (HB4.out.block _ HR3.out.lt).trans HR3.out
    have ck0 : CK w p (pgC p (.slice a0 p.ins.length a1) (.slice b0 p.flows.length b1) (.slice c0 p.outs.length c1)) (w3.heap.size + 1) w4.heap.size ((w4.alloc (.cells #[.map (some (w3.heap.size + 1))] 131)).alloc (.cells (pgC p (.slice a0 p.ins.length a1) (.slice b0 p.flows.length b1) (.slice c0 p.outs.length c1)) 46)) :=
      ⟨⟨_, (hm4.kept g1 (by simp)).kept g2 (by simp)⟩, (Below.heap_alloc _ _ _ (by simp)).trans (heap_alloc_new w4 _), (hr4.alloc _).alloc _, (Below.heap_alloc _ _ _ (Array.getElem?_eq_some_iff.1 HP4.out).1).trans HP4.out, (((HW3.out.trans (HB4.out.mono hw3)).alloc (by have := HB4.out.size; omega) _).alloc (by have := HB4.out.size; simp; omega) _)⟩
    have q0 : ((w4.alloc (.cells #[.map (some (w3.heap.size + 1))] 131)).alloc (.cells (pgC p (.slice a0 p.ins.length a1) (.slice b0 p.flows.length b1) (.slice c0 p.outs.length c1)) 46)).heap[w4.heap.size + 1]? = some (.cells (pgC p (.slice a0 p.ins.length a1) (.slice b0 p.flows.length b1) (.slice c0 p.outs.length c1)) 46 (0, 0)) := by
      have := heap_alloc_new (w4.alloc (.cells #[.map (some (w3.heap.size + 1))] 131)) (.cells (pgC p (.slice a0 p.ins.length a1) (.slice b0 p.flows.length b1) (.slice c0 p.outs.length c1)) 46)
      simpa using this
    have hr3l := HR3.out.lt
    obtain ⟨W0, hW0⟩ : ∃ W0, ((w4.alloc (.cells #[.map (some (w3.heap.size + 1))] 131)).alloc (.cells (pgC p (.slice a0 p.ins.length a1) (.slice b0 p.flows.length b1) (.slice c0 p.outs.length c1)) 46)) = W0 := ⟨_, rfl⟩
    rw [hW0] at hsz ck0 q0 ⊢
    clear hW0 g1 g2 hm4 hr4 HM4 HB4 HP4 HP3 HR3 HW3 HBP HBR HWB
    obtain ⟨mb, hmb⟩ : ∃ mb, w3.heap.size + 1 = mb := ⟨_, rfl⟩
    obtain ⟨vb, hvb⟩ : ∃ vb, w4.heap.size = vb := ⟨_, rfl⟩
    have hrb : w.heap.size + 1 < mb := by omega
    rw [hmb] at hlt4 ck0 ⊢
    rw [hvb] at hlt4 ck0 q0 hsz ⊢
    clear hmb hvb hr3l hw3
    refine wpIn_rangeFunc_ownH rfl (by omega) (gf := 84) (lb := #[.pointer (some ⟨vb + 1, 0, none⟩)]) rfl trivial (enters_of Tryd.func84 (by kernel_rfl) rfl)
      (things_stops2 Fence.wide 19 trivial rfl (by omega) (vb + 1) p _ _ _ w W0 HP.out ck0.below q0) KpT.trans (fun W l o o' hl ho hc hw => ⟨belowK_b (w := W0) (by omega) W l o o' hl ho hc hw, (grownBy_putObj' W l o').block _ (by have := (Array.getElem?_eq_some_iff.1 ho).1; omega) (by intro e; injection e with e; omega)⟩) (Below.refl _ _) (fun _ => rfl)
      (fun pre W => FineT p pre ∧ (CK w p (pgC p (.slice a0 p.ins.length a1) (.slice b0 p.flows.length b1) (.slice c0 p.outs.length c1)) mb vb W ∧ W0.heap.size ≤ W.heap.size))
      (fun c pre W => ∃ (q : List Tg) (x : Tg), (c = .ret ∧ pre = q ++ [x] ∧ twice p x.1.2.name = true) ∧ Boxed W (w.heap.size + 1) 49 (.int .i64 6) ∧ Below w.heap.size w W)
      (fun pre X Y row hs hg hr => ⟨hs.1, CK.own (by omega) (by omega) () X Y row hs.2.1 hg hr, Nat.le_trans hs.2.2 hg.size⟩)
      (fun c pre X Y row hs hg hr => by
        obtain ⟨q, x, e, e2, e3⟩ := hs
        exact ⟨q, x, e, box_turn e2 hg hr, (ownFrom_below (w₀ := w) (Nat.le_refl _) (by omega) : OwnFrom W0.heap.size (fun (_ : Unit) W => Below w.heap.size w W)) () X Y row e3 hg hr⟩)
      ⟨(fun _ h => by cases h), ck0, Nat.le_refl _⟩
      (fun x a' W => ∃ Bx, W0.heap.size ≤ Bx ∧ W.heap[Bx]? = some (.cells #[.string x.1.2.name, .int .u8 (x.1.2.ty : Int), .int .i64 x.1.2.st] 73 (0, 0)) ∧ a' = { tmps := #[pgV p (.slice a0 p.ins.length a1) (.slice b0 p.flows.length b1) (.slice c0 p.outs.length c1), .pointer (some ⟨w.heap.size, 0, none⟩), .pointer (some ⟨w.heap.size + 1, 0, none⟩), .pointer (some ⟨vb, 0, none⟩), undef, .pointer (some ⟨Bx, 0, none⟩), undef, undef, undef, undef, pgV p (.slice a0 p.ins.length a1) (.slice b0 p.flows.length b1) (.slice c0 p.outs.length c1), .bool true, .bool false, pgV p (.slice a0 p.ins.length a1) (.slice b0 p.flows.length b1) (.slice c0 p.outs.length c1), .map (some mb), pgV p (.slice a0 p.ins.length a1) (.slice b0 p.flows.length b1) (.slice c0 p.outs.length c1), .func (.func 84) #[] #[.pointer (some ⟨vb + 1, 0, none⟩)], .int .i64 x.1.1, hdV x.1.2, undef, undef, undef, undef, undef, undef, undef, undef, undef, undef, undef, undef, undef, undef, undef, undef, undef, undef, undef, undef, undef, undef, undef, undef, undef, undef, undef, undef, undef, undef, undef, undef, undef], defers := [] })
      (fun x a' _ X Y row hs hg hr => by obtain ⟨Bx, e1, e2, e3⟩ := hs; exact ⟨Bx, e1, cells_turn hg (fun r e => (hr r e).2) e2, e3⟩)
      ?assign ?body ?done ?stop
    case assign =>
      rintro l pre x W K ⟨hf, ck, hz⟩ hK
      gi_wp2
      exact hK _ _ ((KeepsOthers.alloc _ _).from _) ⟨(Below.refl _ W).alloc (by omega) _, Below.heap_alloc _ _ _ (by omega)⟩ ⟨hf, ck.keep ((Below.refl _ W).alloc (Nat.le_refl _) _), by simp; omega⟩ ⟨W.heap.size, hz, World.alloc_heap_new W _, rfl⟩
    case body =>
      rintro l pre x a' W hl _ ⟨hf, ck, hz⟩ ⟨Bx, hBx, hRow, rfl⟩ hlt
      have cV : W.cell? ⟨vb, 0, none⟩ = some (.map (some mb)) := by rw [cell_of_row _ _ _ _ 131 (0, 0) ck.var]; rfl
      have cN : W.cell? ⟨Bx, 0, none⟩ = some (.string x.1.2.name) := by rw [cell_of_row _ _ _ _ 73 (0, 0) hRow]; rfl
      have d3 := ck.res.cell
      have f3 := ck.res.frozen
      obtain ⟨nM, hM⟩ := ck.map
      have hlk := hM.look x.2
      have htl : tly (thingsL p) p.outs x.1.2.name.data.toList = ((cntT (thingsL p) x.1.2.name.data.toList : Int), (cntO p.outs x.1.2.name.data.toList : Int)) := rfl
      rw [htl] at hlk
      have HT : Hid (twice p x.1.2.name = decide (1 < cntT (thingsL p) x.1.2.name.data.toList)) := hid rfl
      generalize cntT (thingsL p) x.1.2.name.data.toList = N at *
      generalize cntO p.outs x.1.2.name.data.toList = M at *
      have HC := hid ck
      have HF := hid hf
      clear ck hM hRow htl hf
      dsimp only [tlV] at hlk
      have hfd := field61
      by_cases hN : 1 < N
      · have hN1 : (1 : Int) < (N : Int) := by omega
        gi_wp2_with (gi_at_lookup; refine wpListIn_look rfl (.tmp 19) (.tmp 21) 131 rfl _ hlk ?_)
        exact ⟨(KeepsOthers.setCell _ _ _).from _, pre, x, ⟨rfl, rfl, by rw [HT.out]; simpa using hN⟩, HC.out.res.set _, HC.out.below.setCell (p := ⟨w.heap.size + 1, 0, none⟩) (by simp) _⟩
      · have hN1 : ¬ (1 : Int) < (N : Int) := by omega
        gi_wp2_with (gi_at_lookup; refine wpListIn_look rfl (.tmp 19) (.tmp 21) 131 rfl _ hlk ?_)
        refine ⟨KeepsFrom.refl _ _, ⟨Below.refl _ _, rfl⟩, fun y hy => ?_, HC.out, by omega⟩
        rcases List.mem_append.1 hy with hy | hy
        · exact HF.out y hy
        · simp only [List.mem_singleton] at hy
          rw [hy, HT.out]; simpa using hN
    case done =>
      rintro D1 ys W hD hys ⟨hf, ck, hz⟩ hK
      have HT1 : Hid ((thingsL p).all (fun x => !twice p x.2.name) = true) := hid (by
        rw [List.all_eq_true]
        intro x hx
        rw [← hys] at hx
        obtain ⟨y, hy, rfl⟩ := List.mem_map.1 hx
        simp [hf y hy])
      clear hf hys ck0 q0
      have s0 : W.cell? ⟨w.heap.size, 0, none⟩ = some (.int .i64 p.st) := by rw [cell_of_row _ _ _ _ 46 (0, 0) ck.prog]; rfl
      have s1 : W.cell? ⟨w.heap.size, 1, none⟩ = some (.slice a0 p.ins.length a1) := by rw [cell_of_row _ _ _ _ 46 (0, 0) ck.prog]; rfl
      have s2 : W.cell? ⟨w.heap.size, 2, none⟩ = some (.slice b0 p.flows.length b1) := by rw [cell_of_row _ _ _ _ 46 (0, 0) ck.prog]; rfl
      have s3 : W.cell? ⟨w.heap.size, 3, none⟩ = some (.slice c0 p.outs.length c1) := by rw [cell_of_row _ _ _ _ 46 (0, 0) ck.prog]; rfl
      have hal : Below W.heap.size W (W.alloc (.cells (pgC p (.slice a0 p.ins.length a1) (.slice b0 p.flows.length b1) (.slice c0 p.outs.length c1)) 46)) := (Below.refl _ W).alloc (Nat.le_refl _) _
      have ck1 := ck.keep hal
      have q1 := heap_alloc_new W (.cells (pgC p (.slice a0 p.ins.length a1) (.slice b0 p.flows.length b1) (.slice c0 p.outs.length c1)) 46)
      have hD1 := (Array.getElem?_eq_some_iff.1 hK).1
      have hK1 := (Below.heap_alloc W (.cells (pgC p (.slice a0 p.ins.length a1) (.slice b0 p.flows.length b1) (.slice c0 p.outs.length c1)) 46) _ hD1).trans hK
      have hsz5 : (W.alloc (.cells (pgC p (.slice a0 p.ins.length a1) (.slice b0 p.flows.length b1) (.slice c0 p.outs.length c1)) 46)).heap.size = W.heap.size + 1 := by simp
      have CK1 := hid ck1
      have Q1 := hid q1
      have HK1 := hid hK1
      have HSZ5 := hid hsz5
      clear ck ck1 q1 hK hK1 hsz5 hal
      gi_wp2_with (gi_at_call 64; refine (asked 19 p _ _ _ _).mono ?_; rintro e w' ⟨rfl, rfl⟩)
      clear s0 s1 s2 s3
      obtain ⟨W5, hW5⟩ : ∃ W5, (W.alloc (.cells (pgC p (.slice a0 p.ins.length a1) (.slice b0 p.flows.length b1) (.slice c0 p.outs.length c1)) 46)) = W5 := ⟨_, rfl⟩
      obtain ⟨bn, hbn⟩ : ∃ bn, W.heap.size = bn := ⟨_, rfl⟩
      rw [hW5] at CK1 Q1 HK1 HSZ5 ⊢
      rw [hbn] at hz hD1 Q1 HSZ5 ⊢
      clear hW5 hbn
      have ck1 := CK1.out
      have q1 := Q1.out
      have hK1 := HK1.out
      have hsz5 := HSZ5.out
      refine wpIn_rangeFunc_ownH rfl (by omega) (gf := 85) (lb := #[.pointer (some ⟨bn, 0, none⟩)]) rfl trivial (enters_of Tryd.func85 (by kernel_rfl) rfl)
        (asked_stops 19 (by omega) bn p _ _ _ w W5 HP.out HCK.out ck1.below q1) KpA.trans (fun W l o o' hl ho hc hw => ⟨belowK_b (w := W5) (by omega) W l o o' hl ho hc hw, fun a v e => Go.cell_kept e (grownBy_putObj' W l o') (fun r e => by cases e; exact ⟨_, ho, hc⟩)⟩) (Below.refl _ _) (fun _ => rfl)
        (fun pre V => (∀ x ∈ pre, none_ p x.1 = false) ∧ (CK w p (pgC p (.slice a0 p.ins.length a1) (.slice b0 p.flows.length b1) (.slice c0 p.outs.length c1)) mb vb V ∧ V.heap[D1]? = some (.deferred (some []))))
        (fun c pre V => ∃ (q : List Ts) (x : Ts), (c = .ret ∧ pre = q ++ [x] ∧ none_ p x.1 = true) ∧ Boxed V (w.heap.size + 1) 49 (.int .i64 6) ∧ Below w.heap.size w V ∧ V.heap[D1]? = some (.deferred (some [])))
        (fun pre X Y row hs hg hr => ⟨hs.1, CK.own (by omega) (by omega) () X Y row hs.2.1 hg hr, (hg.block D1 (Array.getElem?_eq_some_iff.1 hs.2.2).1 (fun e => by have := (hr _ e.symm).1; omega)).trans hs.2.2⟩)
        (fun c pre X Y row hs hg hr => by
          obtain ⟨q, x, e, e2, e3, e4⟩ := hs
          exact ⟨q, x, e, box_turn e2 hg hr, (ownFrom_below (w₀ := w) (Nat.le_refl _) (by omega) : OwnFrom W5.heap.size (fun (_ : Unit) W => Below w.heap.size w W)) () X Y row e3 hg hr, (hg.block D1 (Array.getElem?_eq_some_iff.1 e4).1 (fun e => by have := (hr _ e.symm).1; omega)).trans e4⟩)
        ⟨(by simp), ck1, hK1⟩
        (fun x a' V => a' = { tmps := #[pgV p (.slice a0 p.ins.length a1) (.slice b0 p.flows.length b1) (.slice c0 p.outs.length c1), .pointer (some ⟨w.heap.size, 0, none⟩), .pointer (some ⟨w.heap.size + 1, 0, none⟩), .pointer (some ⟨vb, 0, none⟩), undef, undef, .string x.1, undef, undef, undef, pgV p (.slice a0 p.ins.length a1) (.slice b0 p.flows.length b1) (.slice c0 p.outs.length c1), .bool true, .bool false, pgV p (.slice a0 p.ins.length a1) (.slice b0 p.flows.length b1) (.slice c0 p.outs.length c1), .map (some mb), pgV p (.slice a0 p.ins.length a1) (.slice b0 p.flows.length b1) (.slice c0 p.outs.length c1), .func (.func 84) #[] #[.pointer (some ⟨vb + 1, 0, none⟩)], undef, undef, undef, undef, undef, undef, undef, undef, pgV p (.slice a0 p.ins.length a1) (.slice b0 p.flows.length b1) (.slice c0 p.outs.length c1), .func (.func 85) #[] #[.pointer (some ⟨bn, 0, none⟩)], .string x.1, undef, undef, undef, undef, undef, undef, undef, undef, undef, undef, undef, undef, undef, undef, undef, undef, undef, undef, undef, undef, undef, undef, undef, undef], defers := [] })
        (fun x a' _ X Y row hs hg hr => hs)
        ?assign2 ?body2 ?done2 ?stop2
      case assign2 =>
        rintro l pre x V K hI hK
        gi_wp2
        exact hK _ _ (KeepsFrom.refl _ _) ⟨Below.refl _ _, fun _ _ h => h⟩ hI rfl
      case body2 =>
        rintro l pre x a' V hl _ ⟨hf, ck, hk1⟩ rfl hlt
        have cV : V.cell? ⟨vb, 0, none⟩ = some (.map (some mb)) := by rw [cell_of_row _ _ _ _ 131 (0, 0) ck.var]; rfl
        have d3 := ck.res.cell
        have f3 := ck.res.frozen
        obtain ⟨nM, hM⟩ := ck.map
        have hlk := hM.look x.2
        have htl : tly (thingsL p) p.outs x.1.data.toList = ((cntT (thingsL p) x.1.data.toList : Int), (cntO p.outs x.1.data.toList : Int)) := rfl
        rw [htl] at hlk
        have HT : Hid (none_ p x.1 = decide (cntT (thingsL p) x.1.data.toList = 0)) := hid rfl
        generalize cntT (thingsL p) x.1.data.toList = N at *
        generalize cntO p.outs x.1.data.toList = M at *
        have HC := hid ck
        have HF := hid hf
        have HK0 := hid hk1
        clear ck hM htl hf hk1
        dsimp only [tlV] at hlk
        have hfd := field61
        by_cases hN : N = 0
        · have hN1 : ((N : Int) == 0) = true := by simp [hN]
          have HN := hid hN
          clear hN
          gi_wp2_with (gi_at_lookup; refine wpListIn_look rfl (.tmp 28) (.tmp 29) 131 rfl _ hlk ?_)
          exact ⟨(KeepsOthers.setCell _ _ _).from _, pre, x, ⟨rfl, rfl, by rw [HT.out]; simpa using HN.out⟩, HC.out.res.set _, HC.out.below.setCell (p := ⟨w.heap.size + 1, 0, none⟩) (by simp) _, ((KeepsOthers.setCell _ _ _).same _ _ HK0.out rfl)⟩
        · have hN1 : ((N : Int) == 0) = false := by simp [hN]
          have HN := hid hN
          clear hN
          gi_wp2_with (gi_at_lookup; refine wpListIn_look rfl (.tmp 28) (.tmp 29) 131 rfl _ hlk ?_)
          refine ⟨KeepsFrom.refl _ _, ⟨Below.refl _ _, fun _ _ h => h⟩, fun y hy => ?_, HC.out, HK0.out⟩
          rcases List.mem_append.1 hy with hy | hy
          · exact HF.out y hy
          · simp only [List.mem_singleton] at hy
            rw [hy, HT.out]; simpa using HN.out
      case done2 =>
        rintro D2 ys V hD2 hys ⟨hf, ck, hk1⟩ hk2
        have HT2 : Hid ((askedL p).all (fun s => !none_ p s) = true) := hid (by
          rw [List.all_eq_true]
          intro s hs
          rw [← hys] at hs
          obtain ⟨y, hy, rfl⟩ := List.mem_map.1 hs
          simp [hf y hy])
        clear hf hys ck1 q1 hK1 CK1 Q1 HK1
        have cP : V.cell? ⟨w.heap.size, 3, none⟩ = some (.slice c0 p.outs.length c1) := by rw [cell_of_row _ _ _ _ 46 (0, 0) ck.prog]; rfl
        have HC := hid ck
        have HK1 := hid hk1
        have HK2 := hid hk2
        clear ck hk1 hk2
        gi_wp2
        gi_loopw [36] (fun i wr => ∃ k : Nat, k ≤ p.outs.length ∧ i = .int .i64 (k : Int) ∧ Hid ((p.outs.take k).all (fun s => !(none_ p s || told p s)) = true) ∧ Hid (Below V.heap.size V wr)) (fun i wr => p.outs.length - (intOf i).toNat)
        case atStart => exact ⟨0, Nat.zero_le _, rfl, hid rfl, hid (Below.refl _ _)⟩
        case round =>
          obtain ⟨k, hk, rfl, hA, hB⟩ := hrel
          have ck := HC.out.keep hB.out
          by_cases hlt : k < p.outs.length
          · have hlt' : (k : Int) < (p.outs.length : Int) := by omega
            have hk0 : (0 : Int) ≤ (k : Int) := by omega
            obtain ⟨bb, o, rfl, hcc⟩ := HC3.out.resolve_left (by omega)
            have v0 := cell_kept (hcc k hlt) ck.below
            have hy := HO3.out p.outs[k] (List.getElem_mem hlt)
            have HM : Hid (p.outs[k] ∈ p.outs) := hid (List.getElem_mem hlt)
            have cV : wr.cell? ⟨vb, 0, none⟩ = some (.map (some mb)) := by rw [cell_of_row _ _ _ _ 131 (0, 0) ck.var]; rfl
            obtain ⟨nM, hM⟩ := ck.map
            have hlk := hM.look hy
            have htl : tly (thingsL p) p.outs p.outs[k].data.toList = ((cntT (thingsL p) p.outs[k].data.toList : Int), (cntO p.outs p.outs[k].data.toList : Int)) := rfl
            rw [htl] at hlk
            have HN : Hid (none_ p p.outs[k] = decide (cntT (thingsL p) p.outs[k].data.toList = 0)) := hid rfl
            have HO : Hid (told p p.outs[k] = decide (1 < cntO p.outs p.outs[k].data.toList)) := hid rfl
            have HTK : Hid ((none_ p p.outs[k] || told p p.outs[k]) = false → (p.outs.take (k + 1)).all (fun s => !(none_ p s || told p s)) = true) := hid (fun h => by
              rw [List.take_succ_eq_append_getElem hlt, List.all_append, hA.out, Bool.true_and]
              simp only [List.all_cons, List.all_nil, Bool.and_true]
              rw [h]; rfl)
            clear hcc htl hM hy
            generalize p.outs[k] = y at *
            generalize cntT (thingsL p) y.data.toList = N at *
            generalize cntO p.outs y.data.toList = M at *
            have hB1 := hB.out.alloc hB.out.size (.cells #[.int .i64 (N : Int), .int .i64 (M : Int)] 137)
            have hr1 := ck.res.alloc (.cells #[.int .i64 (N : Int), .int .i64 (M : Int)] 137)
            have d3 := hr1.cell
            have f3 := hr1.frozen
            have HB1 := hid hB1
            have HR1 := hid hr1
            clear hB1 hr1 ck
            dsimp only [tlV] at hlk
            by_cases hg : (none_ p y || told p y) = true
            · have HG := hid (nmOk_told HM.out hg)
              have hor : ((N : Int) == 0) = true ∨ (((N : Int) == 0) = false ∧ (1 : Int) < (M : Int)) := by
                rw [HN.out, HO.out] at hg
                by_cases hN0 : N = 0
                · exact .inl (by simp [hN0])
                · refine .inr ⟨by simp [hN0], ?_⟩
                  simp [hN0] at hg
                  omega
              clear hg
              rcases hor with hN1 | ⟨hN1, hM1⟩
              · gi_wp2_with (gi_at_lookup; refine wpListIn_look rfl (.tmp 40) (.tmp 41) 131 rfl _ hlk ?_)
                obtain ⟨l1, l2, l3⟩ := leave2 (w := w) (v := .int .i64 6) ((KeepsOthers.setCell _ _ _).same _ _ ((HB1.out.block _ (Array.getElem?_eq_some_iff.1 HK2.out).1).trans HK2.out) rfl) ((KeepsOthers.setCell _ _ _).same _ _ ((HB1.out.block _ (Array.getElem?_eq_some_iff.1 HK1.out).1).trans HK1.out) rfl) (by omega) (by omega) (HR1.out.set (.int .i64 6)) ((HC.out.below.trans (HB1.out.mono HC.out.below.size)).setCell (p := ⟨w.heap.size + 1, 0, none⟩) (by simp) _)
                refine ⟨by simp, .inl ⟨_, _, rfl, run_takeDeferred ((KeepsOthers.setCell _ _ _).same _ _ ((HB1.out.block _ (Array.getElem?_eq_some_iff.1 HK2.out).1).trans HK2.out) rfl), ⟨by simp, .inl ⟨_, _, rfl, run_takeDeferred l1, ?_⟩⟩⟩⟩
                exact ⟨.int .i64 6, by simp [results, Tryd.f43, go_sem, l2], by rw [HE.out, HG.out]; rfl, l3⟩
              · gi_wp2_with (gi_at_lookup; refine wpListIn_look rfl (.tmp 40) (.tmp 41) 131 rfl _ hlk ?_)
                obtain ⟨l1, l2, l3⟩ := leave2 (w := w) (v := .int .i64 6) ((KeepsOthers.setCell _ _ _).same _ _ ((HB1.out.block _ (Array.getElem?_eq_some_iff.1 HK2.out).1).trans HK2.out) rfl) ((KeepsOthers.setCell _ _ _).same _ _ ((HB1.out.block _ (Array.getElem?_eq_some_iff.1 HK1.out).1).trans HK1.out) rfl) (by omega) (by omega) (HR1.out.set (.int .i64 6)) ((HC.out.below.trans (HB1.out.mono HC.out.below.size)).setCell (p := ⟨w.heap.size + 1, 0, none⟩) (by simp) _)
                refine ⟨by simp, .inl ⟨_, _, rfl, run_takeDeferred ((KeepsOthers.setCell _ _ _).same _ _ ((HB1.out.block _ (Array.getElem?_eq_some_iff.1 HK2.out).1).trans HK2.out) rfl), ⟨by simp, .inl ⟨_, _, rfl, run_takeDeferred l1, ?_⟩⟩⟩⟩
                exact ⟨.int .i64 6, by simp [results, Tryd.f43, go_sem, l2], by rw [HE.out, HG.out]; rfl, l3⟩
            · have hg0 : (none_ p y || told p y) = false := by simpa using hg
              have HG := hid (HTK.out hg0)
              have hor : ((N : Int) == 0) = false ∧ ¬ (1 : Int) < (M : Int) := by
                rw [HN.out, HO.out] at hg0
                simp at hg0
                exact ⟨by simp; omega, by omega⟩
              clear hg hg0
              obtain ⟨hN1, hM1⟩ := hor
              gi_wp2_with (gi_at_lookup; refine wpListIn_look rfl (.tmp 40) (.tmp 41) 131 rfl _ hlk ?_)
              go_roundw
              case rel => exact ⟨k + 1, by omega, by go_num, HG, HB1⟩
              case measure => simp [intOf]; omega
          · have hlt' : ¬ (k : Int) < (p.outs.length : Int) := by omega
            have HN : Hid (nmOk p = true) := hid (by
              have h3 := hA.out
              rw [List.take_of_length_le (by omega)] at h3
              unfold nmOk
              rw [HT1.out, HT2.out, h3]; rfl)
            have d3 := ck.res.cell
            have f3 := ck.res.frozen
            have HR1 := hid ck.res
            clear ck
            gi_wp2
            obtain ⟨l1, l2, l3⟩ := leave2 (w := w) (v := .int .i64 0) ((KeepsOthers.setCell _ _ _).same _ _ ((hB.out.block _ (Array.getElem?_eq_some_iff.1 HK2.out).1).trans HK2.out) rfl) ((KeepsOthers.setCell _ _ _).same _ _ ((hB.out.block _ (Array.getElem?_eq_some_iff.1 HK1.out).1).trans HK1.out) rfl) (by omega) (by omega) (HR1.out.set (.int .i64 0)) ((HC.out.below.trans (hB.out.mono HC.out.below.size)).setCell (p := ⟨w.heap.size + 1, 0, none⟩) (by simp) _)
            refine ⟨by simp, .inl ⟨_, _, rfl, run_takeDeferred ((KeepsOthers.setCell _ _ _).same _ _ ((hB.out.block _ (Array.getElem?_eq_some_iff.1 HK2.out).1).trans HK2.out) rfl), ⟨by simp, .inl ⟨_, _, rfl, run_takeDeferred l1, ?_⟩⟩⟩⟩
            exact ⟨.int .i64 0, by simp [results, Tryd.f43, go_sem, l2], by rw [HE.out, HN.out]; rfl, l3⟩
      case stop2 =>
        rintro D2 c pre V hD2 hpre ⟨q, x, ⟨rfl, rfl, hx⟩, hr, hB1, hk1⟩ hK2
        have HN := hid (nmOk_none (hpre.subset (by simp)) hx)
        clear hpre hx
        gi_wp2
        obtain ⟨l1, l2, l3⟩ := leave2 hK2 hk1 (by omega) (by omega) hr hB1
        refine ⟨by simp, .inl ⟨_, _, rfl, run_takeDeferred hK2, ⟨by simp, .inl ⟨_, _, rfl, run_takeDeferred l1, ?_⟩⟩⟩⟩
        exact ⟨.int .i64 6, by simp [results, Tryd.f43, go_sem, l2], by rw [HE.out, HN.out]; rfl, l3⟩
    case stop =>
      rintro D1 c pre W hD hpre ⟨q, x, ⟨rfl, rfl, hx⟩, hr, hB1⟩ hK
      have HN := hid (nmOk_twice (hpre.subset (by simp)) hx)
      clear hpre hx
      gi_wp2
      refine ⟨by simp, .inl ⟨_, _, rfl, run_takeDeferred hK, ?_⟩⟩
      have e2 : (W.putObj D1 (.deferred none)).cell? ⟨w.heap.size + 1, 0, none⟩ = some (.int .i64 6) := Go.cell_kept hr.cell (grownBy_putObj' _ D1 (.deferred none)) (fun r e => by cases e; exact ⟨_, hK, rfl⟩)
      exact ⟨.int .i64 6, by simp [results, Tryd.f43, go_sem, e2], by rw [HE.out, HN.out]; rfl, hB1.trans (belowK_b (w := w) (Nat.le_refl _) W D1 _ _ (by omega) hK rfl rfl)⟩
end Go.Proofs.YtdenddknbmiboaaDoor.Lex
namespace Go.Proofs.YtdenddknbmiboaaDoor.Lex
open Go.ChangeShapes Go.WideShapes Go.ChangeAt Go.RowKit Go.Joins
attribute [local go_sem] Oper.semAt_some
def agesOk (p : Pg) (l : List Int) : Bool := (allL p).all (fun x => decide (0 ≤ ageV l x))
/-- Flows may be so late. -/
def lateOk (p : Pg) (l : List Int) : Bool := decide (nmErr p = 0) && (decide (l.length = p.flows.length) && (!anyOut l && agesOk p l))
theorem mild_of {l : List Int} (h : anyOut l = false) : Mild l := by
  intro a ha
  unfold anyOut at h
  rw [List.any_eq_false] at h
  have := h a ha
  unfold outB at this
  simp at this
  omega
theorem nm_chk {p : Pg} (h : nmErr p = 0) : ∀ f ∈ p.flows, chk f.body = true := by
  unfold nmErr at h
  split at h
  · rename_i hk; exact pgOk_chk hk
  · simp at h
theorem leave1 {w X : World} {D r t : Nat} {v : Value} (k : X.heap[D]? = some (.deferred (some []))) (hw : w.heap.size ≤ D) (hb : Boxed X r t v) (hB : Below w.heap.size w X) :
    (X.putObj D (.deferred none)).cell? ⟨r, 0, none⟩ = some v ∧ Below w.heap.size w (X.putObj D (.deferred none)) :=
  ⟨Go.cell_kept hb.cell (grownBy_putObj' X D (.deferred none)) (fun r e => by cases e; exact ⟨_, k, rfl⟩), hB.trans (belowK_b (w := w) (Nat.le_refl _) X D _ _ (by omega) k rfl rfl)⟩
/-- What holds between two rounds. -/
structure CkI (w : World) (l : List Int) (v : Value) (pre : List Wi) (V : World) : Prop where
  pos : ∀ x ∈ pre, 0 ≤ ageV l x
  res : Boxed V (w.heap.size + 1 + 1) 4 (.bool false)
  row : V.heap[w.heap.size + 1]? = some (.cells #[v] 48 (0, 0))
  below : Below w.heap.size w V
theorem CkI.far {w A C : World} {l : List Int} {v : Value} {pre : List Wi} {B : Nat} {T : Bl} (h : CkI w l v pre A) (hf : Far B T A C) (hB : w.heap.size + 3 ≤ B) : CkI w l v pre C :=
  ⟨h.pos, (hf.block _ h.res.lt (.inl (by omega))).trans h.res, (hf.block _ (Array.getElem?_eq_some_iff.1 h.row).1 (.inl (by omega))).trans h.row, h.below.trans ⟨hf.os, hf.tape, hf.output, hf.size, fun b hb => hf.block b (by have := h.below.size; omega) (.inl (by omega))⟩⟩
set_option maxRecDepth 100000 in
set_option maxHeartbeats 2000000 in
theorem check_ (p : Pg) (l : List Int) (v : Value) (w : World) (a b c : Value) (hP : PgAt w p a b c) (hI : IAt w l v) (hR : TabR w) (hJ : TabJ w) :
    CallsIn Fence.wide 20 Tryd.prog 27 #[pgV p a b c, v] w fun e W' => e = .returned (.bool (lateOk p l)) ∧ Below w.heap.size w W' := by
  have hI' := hI
  obtain ⟨a0, a1, rfl, hl1, _⟩ := hP.ins
  obtain ⟨b0, b1, _, rfl, hl2, _⟩ := hP.flows
  obtain ⟨c0, c1, rfl, hl3, _⟩ := hP.outs
  obtain ⟨ao, cap, rfl, ⟨hcap, hlen⟩, _⟩ := hI
  have HP := hid hP
  have HI := hid hI'
  have B1 := (Below.refl w.heap.size w).alloc (Nat.le_refl _) (.cells (pgC p (.slice a0 p.ins.length a1) (.slice b0 p.flows.length b1) (.slice c0 p.outs.length c1)) 46)
  have B2 := B1.alloc B1.size (.cells #[.slice ao l.length cap] 48)
  have B3 := B2.alloc B2.size (.cells #[.bool false] 4)
  obtain ⟨w3, hw3⟩ : ∃ w3, w3 = ((w.alloc (.cells (pgC p (.slice a0 p.ins.length a1) (.slice b0 p.flows.length b1) (.slice c0 p.outs.length c1)) 46)).alloc (.cells #[.slice ao l.length cap] 48)).alloc (.cells #[.bool false] 4) := ⟨_, rfl⟩
  have hb3 : Below w.heap.size w w3 := by rw [hw3]; exact B3
  have hs3 : w3.heap.size = w.heap.size + 3 := by rw [hw3]; simp
  have r0 : w3.heap[w.heap.size]? = some (.cells (pgC p (.slice a0 p.ins.length a1) (.slice b0 p.flows.length b1) (.slice c0 p.outs.length c1)) 46 (0, 0)) := by rw [hw3, Below.heap_alloc _ _ _ (by simp; omega), Below.heap_alloc _ _ _ (by simp)]; exact heap_alloc_new w _
  have r1 : w3.heap[w.heap.size + 1]? = some (.cells #[.slice ao l.length cap] 48 (0, 0)) := by
    rw [hw3, Below.heap_alloc _ _ _ (by simp)]
    have := heap_alloc_new (w.alloc (.cells (pgC p (.slice a0 p.ins.length a1) (.slice b0 p.flows.length b1) (.slice c0 p.outs.length c1)) 46)) (.cells #[.slice ao l.length cap] 48)
    rwa [World.size_alloc] at this
  have r2 : Boxed w3 (w.heap.size + 1 + 1) 4 (.bool false) := by
    rw [hw3]
    have := Boxed.new ((w.alloc (.cells (pgC p (.slice a0 p.ins.length a1) (.slice b0 p.flows.length b1) (.slice c0 p.outs.length c1)) 46)).alloc (.cells #[.slice ao l.length cap] 48)) 4 (.bool false)
    simpa using this
  have cN := (callsIn_wide (n := 19)).2 ((callsIn_wide (n := 20)).1 (names_check p w3 _ _ _ (hP.keep hb3) (hR.below hb3) (hJ.below hb3)))
  have x0 : w3.cell? ⟨w.heap.size, 0, none⟩ = some (.int .i64 p.st) := by rw [cell_of_row _ _ _ _ 46 (0, 0) r0]; rfl
  have x1 : w3.cell? ⟨w.heap.size, 1, none⟩ = some (.slice a0 p.ins.length a1) := by rw [cell_of_row _ _ _ _ 46 (0, 0) r0]; rfl
  have x2 : w3.cell? ⟨w.heap.size, 2, none⟩ = some (.slice b0 p.flows.length b1) := by rw [cell_of_row _ _ _ _ 46 (0, 0) r0]; rfl
  have x3 : w3.cell? ⟨w.heap.size, 3, none⟩ = some (.slice c0 p.outs.length c1) := by rw [cell_of_row _ _ _ _ 46 (0, 0) r0]; rfl
  have HB3 := hid hb3
  have R0 := hid r0
  have R1 := hid r1
  have R2 := hid r2
  clear B1 B2 B3 hb3 r0 r1 r2 hP hI' hR hJ
  have y0 := x0
  have y1 := x1
  have y2 := x2
  have y3 := x3
  rw [hw3] at y0 y1 y2 y3
  have x4 : w3.cell? ⟨w.heap.size + 1, 0, none⟩ = some (.slice ao l.length cap) := by rw [cell_of_row _ _ _ _ 48 (0, 0) R1.out]; rfl
  have x5 := R2.out.cell
  have x6 := R2.out.frozen
  have y0 := x0
  have y1 := x1
  have y2 := x2
  have y3 := x3
  rw [hw3] at y0 y1 y2 y3
  have x4 : w3.cell? ⟨w.heap.size + 1, 0, none⟩ = some (.slice ao l.length cap) := by rw [cell_of_row _ _ _ _ 48 (0, 0) R1.out]; rfl
  have x5 := R2.out.cell
  have x6 := R2.out.frozen
  have h18 : Fence.wide.fn 43 := trivial
  have h31 : Fence.wide.fn 45 := trivial
  have h33 : Fence.wide.fn 47 := trivial
  have h28 : Fence.wide.fn 48 := trivial
  have y0 := x0
  have y1 := x1
  have y2 := x2
  have y3 := x3
  rw [hw3] at y0 y1 y2 y3
  have x4 : w3.cell? ⟨w.heap.size + 1, 0, none⟩ = some (.slice ao l.length cap) := by rw [cell_of_row _ _ _ _ 48 (0, 0) R1.out]; rfl
  have x5 := R2.out.cell
  have x6 := R2.out.frozen
  have h18 : Fence.wide.fn 43 := trivial
  have h31 : Fence.wide.fn 45 := trivial
  have h33 : Fence.wide.fn 47 := trivial
  have h28 : Fence.wide.fn 48 := trivial
  have y0 := x0
  have y1 := x1
  have y2 := x2
  have y3 := x3
  rw [hw3] at y0 y1 y2 y3
  have x4 : w3.cell? ⟨w.heap.size + 1, 0, none⟩ = some (.slice ao l.length cap) := by rw [cell_of_row _ _ _ _ 48 (0, 0) R1.out]; rfl
  have x5 := R2.out.cell
  have x6 := R2.out.frozen
  have h18 : Fence.wide.fn 43 := trivial
  have h31 : Fence.wide.fn 45 := trivial
  have h33 : Fence.wide.fn 47 := trivial
  have h28 : Fence.wide.fn 48 := trivial
  have y0 := x0
  have y1 := x1
  have y2 := x2
  have y3 := x3
  rw [hw3] at y0 y1 y2 y3
  have x4 : w3.cell? ⟨w.heap.size + 1, 0, none⟩ = some (.slice ao l.length cap) := by rw [cell_of_row _ _ _ _ 48 (0, 0) R1.out]; rfl
  have x5 := R2.out.cell
  have x6 := R2.out.frozen
  have h18 : Fence.wide.fn 43 := trivial
  have h31 : Fence.wide.fn 45 := trivial
  have h33 : Fence.wide.fn 47 := trivial
  have h28 : Fence.wide.fn 48 := trivial
  have y0 := x0
  have y1 := x1
  have y2 := x2
  have y3 := x3
  rw [hw3] at y0 y1 y2 y3
  have x4 : w3.cell? ⟨w.heap.size + 1, 0, none⟩ = some (.slice ao l.length cap) := by rw [cell_of_row _ _ _ _ 48 (0, 0) R1.out]; rfl
  have x5 := R2.out.cell
  have x6 := R2.out.frozen
  have h18 : Fence.wide.fn 43 := trivial
  have h31 : Fence.wide.fn 45 := trivial
  have h33 : Fence.wide.fn 47 := trivial
  have h28 : Fence.wide.fn 48 := trivial
  have y0 := x0
  have y1 := x1
  have y2 := x2
  have y3 := x3
  rw [hw3] at y0 y1 y2 y3
  have x4 : w3.cell? ⟨w.heap.size + 1, 0, none⟩ = some (.slice ao l.length cap) := by rw [cell_of_row _ _ _ _ 48 (0, 0) R1.out]; rfl
  have x5 := R2.out.cell
  have x6 := R2.out.frozen
  refine callsIn_of_wp_marks Tryd.func27 rfl trivial ?_ rfl
  simp only [Tryd.ntmps27, List.size_toArray, List.length_cons, List.length_nil, Nat.reduceAdd, Nat.reduceSub, Array.replicate_succ, Array.replicate_zero, List.push_toArray, List.append_toArray, List.nil_append, List.cons_append]
  by_cases hE : nmErr p = 0
  · have HNM := hid (nm_chk hE)
    have HE := hid hE
    rw [hE] at cN
    clear hE
    by_cases hL : l.length = p.flows.length
    · have HL := hid hL
      have hL' : ((l.length : Int) != (p.flows.length : Int)) = false := by simp [hL]
      clear hL
      cases hA : anyOut l with
      | true =>
        have HF : Hid (lateOk p l = false) := hid (by unfold lateOk; rw [hA]; simp)
        have HA := hid hA
        clear hA
        gi_wp2_with (first
          | (gi_at_call 43; rw [← hw3]; clear hw3 y0 y1 y2 y3; refine cN.mono ?_; rintro e w4 ⟨rfl, hb4⟩
             have z0 := cell_kept x0 hb4
             have z1 := cell_kept x1 hb4
             have z2 := cell_kept x2 hb4
             have z3 := cell_kept x3 hb4
             have z4 := cell_kept x4 hb4
             have hr4 : Boxed w4 (w.heap.size + 1 + 1) 4 (.bool false) := (hb4.block _ R2.out.lt).trans R2.out
             have z5 := hr4.cell
             have z6 := hr4.frozen
             have RL4 : Hid (w4.heap[w.heap.size + 1]? = some (.cells #[.slice ao l.length cap] 48 (0, 0))) := hid ((hb4.block _ (Array.getElem?_eq_some_iff.1 R1.out).1).trans R1.out)
             have HB4 := hid (HB3.out.trans (hb4.mono HB3.out.size))
             have cC := (callsIn_wide (n := 19)).2 (contains_func l _ w4 (HI.out.keep (HB4.out)))
             have HR4 := hid hr4
             rw [HA.out] at cC
             clear hb4 hr4 cN)
          | (gi_at_call 45; refine cC.mono ?_; rintro e w5 ⟨rfl, hw5⟩; obtain rfl : w4 = w5 := hw5.symm; clear cC))
        have hr' := HR4.out.set (.bool false)
        have e2 := hr'.cell
        exact ⟨.bool false, by simp [results, Tryd.f27, go_sem, e2], by rw [HF.out], HB4.out.setCell (p := ⟨w.heap.size + 1 + 1, 0, none⟩) (by simp; omega) _⟩
      | false =>
        have HF : Hid (lateOk p l = agesOk p l) := hid (by unfold lateOk; rw [hA, HE.out, HL.out]; simp)
        have HMI := hid (mild_of hA)
        have HA := hid hA
        clear hA
        gi_wp2_with (first
          | (gi_at_call 43; rw [← hw3]; clear hw3 y0 y1 y2 y3; refine cN.mono ?_; rintro e w4 ⟨rfl, hb4⟩
             have z0 := cell_kept x0 hb4
             have z1 := cell_kept x1 hb4
             have z2 := cell_kept x2 hb4
             have z3 := cell_kept x3 hb4
             have z4 := cell_kept x4 hb4
             have hr4 : Boxed w4 (w.heap.size + 1 + 1) 4 (.bool false) := (hb4.block _ R2.out.lt).trans R2.out
             have z5 := hr4.cell
             have z6 := hr4.frozen
             have RL4 : Hid (w4.heap[w.heap.size + 1]? = some (.cells #[.slice ao l.length cap] 48 (0, 0))) := hid ((hb4.block _ (Array.getElem?_eq_some_iff.1 R1.out).1).trans R1.out)
             have HB4 := hid (HB3.out.trans (hb4.mono HB3.out.size))
             have cC := (callsIn_wide (n := 19)).2 (contains_func l _ w4 (HI.out.keep (HB4.out)))
             have HR4 := hid hr4
             rw [HA.out] at cC
             clear hb4 hr4 cN)
          | (gi_at_call 45; refine cC.mono ?_; rintro e w5 ⟨rfl, hw5⟩; obtain rfl : w4 = w5 := hw5.symm; clear cC)
          | (gi_at_call 47; refine (all_ 19 p _ _ _ _).mono ?_; rintro e w6 ⟨rfl, hw6⟩))
        rw [← hw6]
        have hb6 : Below w4.heap.size w4 w6 := by rw [hw6]; exact (Below.refl _ w4).alloc (Nat.le_refl _) _
        have hs6 : w6.heap.size = w4.heap.size + 1 := by rw [hw6]; simp
        have hr6 : w6.heap[w4.heap.size]? = some (.cells (pgC p (.slice a0 p.ins.length a1) (.slice b0 p.flows.length b1) (.slice c0 p.outs.length c1)) 46 (0, 0)) := by rw [hw6]; exact heap_alloc_new w4 _
        have hR6 : Boxed w6 (w.heap.size + 1 + 1) 4 (.bool false) := (hb6.block _ HR4.out.lt).trans HR4.out
        have hL6 : w6.heap[w.heap.size + 1]? = some (.cells #[.slice ao l.length cap] 48 (0, 0)) := (hb6.block _ (Array.getElem?_eq_some_iff.1 RL4.out).1).trans RL4.out
        have hB6 := HB4.out.trans (hb6.mono HB4.out.size)
        have hsz4 : w.heap.size + 3 ≤ w4.heap.size := by have := HR4.out.lt; omega
        have CK0 : CkI w l (.slice ao l.length cap) [] w6 := ⟨fun _ h => (by cases h), hR6, hL6, hB6⟩
        have H6 := hid hr6
        have HB6 := hid hB6
        clear hw6 hb6 hr6 hR6 hL6 hB6 x0 x1 x2 x3 x4 x5 x6
        refine range_T rfl (by omega) (gf := 68) (lb := #[.pointer (some ⟨w4.heap.size, 0, none⟩)]) rfl trivial (enters_of Tryd.func68 (by kernel_rfl) rfl)
          (own := fun x => x = w.heap.size + 1 + 1) (all_T 19 (by omega) w4.heap.size p _ _ _ w w6 HB6.out HP.out HNM.out H6.out) (Below.refl _ _) (fun _ => rfl)
          (fun x hx => ⟨by omega, fun hk => by unfold keptA at hk; omega⟩) (fun x hx => by unfold keptA at hx; omega)
          (fun pre _ V => CkI w l (.slice ao l.length cap) pre V)
          (fun c' pre _ V => c' = .ret ∧ agesOk p l = false ∧ Boxed V (w.heap.size + 1 + 1) 4 (.bool false) ∧ Below w.heap.size w V)
          (fun pre T A C h hf => h.far hf (by omega))
          (fun c' pre T A C h hf => ⟨h.1, h.2.1, (hf.block _ h.2.2.1.lt (.inl (by omega))).trans h.2.2.1, h.2.2.2.trans ⟨hf.os, hf.tape, hf.output, hf.size, fun b hb => hf.block b (by have := h.2.2.2.size; omega) (.inl (by omega))⟩⟩) CK0
          (fun x a' V => ∃ Bx, w6.heap.size + 2 ≤ Bx ∧ V.heap[Bx]? = some (.cells (wiC x).toArray 111 (0, 0)) ∧ a' = { tmps := #[pgV p (.slice a0 p.ins.length a1) (.slice b0 p.flows.length b1) (.slice c0 p.outs.length c1), .slice ao l.length cap, .pointer (some ⟨w.heap.size, 0, none⟩), .pointer (some ⟨w.heap.size + 1, 0, none⟩), .pointer (some ⟨w.heap.size + 1 + 1, 0, none⟩), .pointer (some ⟨Bx, 0, none⟩), pgV p (.slice a0 p.ins.length a1) (.slice b0 p.flows.length b1) (.slice c0 p.outs.length c1), .int .i64 0, .bool false, .bool false, .slice ao l.length cap, .int .i64 (l.length : Int), .pointer (some ⟨w.heap.size, 2, none⟩), .slice b0 p.flows.length b1, .int .i64 (p.flows.length : Int), .bool false, .bool false, .bool false, .slice ao l.length cap, .bool false, .bool false, pgV p (.slice a0 p.ins.length a1) (.slice b0 p.flows.length b1) (.slice c0 p.outs.length c1), .func (.func 68) #[] #[.pointer (some ⟨w4.heap.size, 0, none⟩)], wiV x, undef, undef, undef, undef], defers := [] })
          (fun x a' V o hs hx => by obtain ⟨Bx, h1, h2, h3⟩ := hx; exact ⟨Bx, h1, (World.putObj_heap_other (by omega)).trans h2, h3⟩)
          ?assign ?body ?done ?stop
        case assign =>
          rintro l2 pre x T' V K hsV hI hK
          gi_wp2
          exact hK _ _ ((Below.refl _ V).alloc (Nat.le_refl _) _) ⟨V.heap.size, hsV, heap_alloc_new V _, rfl⟩
        case body =>
          rintro l2 pre x T' a' V hsV hsn hC ⟨Bx, hBx, hRow, rfl⟩ hlen hpre
          have hxm : x ∈ allL p := hpre.subset (by simp)
          have hok : WiOk l.length x := by rw [HL.out]; exact allL_ok HNM.out x hxm
          have cA := CallsIn.inRound l2 ((callsIn_wide (n := 20 - 1 - 1 - 1)).2 (age_ x l _ V (HI.out.keep hC.below) hok HMI.out))
          have z0 : V.cell? ⟨Bx, 0, none⟩ = some (.int .i64 (x.flow : Int)) := by rw [cell_of_row _ _ _ _ 111 (0, 0) hRow]; rfl
          have z1 : V.cell? ⟨Bx, 1, none⟩ = some (.string x.rf.1) := by rw [cell_of_row _ _ _ _ 111 (0, 0) hRow]; rfl
          have z2 : V.cell? ⟨Bx, 2, none⟩ = some (.int .i64 (x.rf.2 : Int)) := by rw [cell_of_row _ _ _ _ 111 (0, 0) hRow]; rfl
          have z3 : V.cell? ⟨Bx, 3, none⟩ = some (.int .i64 x.of) := by rw [cell_of_row _ _ _ _ 111 (0, 0) hRow]; rfl
          have z4 : V.cell? ⟨Bx, 4, none⟩ = some (.int .i64 (x.way : Int)) := by rw [cell_of_row _ _ _ _ 111 (0, 0) hRow]; rfl
          have z5 : V.cell? ⟨w.heap.size + 1, 0, none⟩ = some (.slice ao l.length cap) := by rw [cell_of_row _ _ _ _ 48 (0, 0) hC.row]; rfl
          have hn3 : 1 ≤ 20 - 1 - 1 := by omega
          have HC := hid hC
          have HXM := hid hxm
          clear hC hok hRow hsn hlen hpre hxm
          have HAG : Hid (∀ a, a = ageV l x → a < 0 → agesOk p l = false) := hid (fun a ha h => by
            unfold agesOk
            rw [List.all_eq_false]
            exact ⟨x, HXM.out, by simp; omega⟩)
          have HPO : Hid (∀ a, a = ageV l x → 0 ≤ a → ∀ y ∈ pre ++ [x], 0 ≤ ageV l y) := hid (fun a ha h y hy => by
            rcases List.mem_append.1 hy with hy | hy
            · exact HC.out.pos y hy
            · rw [List.mem_singleton.1 hy]; omega)
          have HAG2 := hid (HAG.out _ rfl)
          have HPO2 := hid (HPO.out _ rfl)
          clear HAG HPO
          generalize ageV l x = A at *
          by_cases hA0 : A < 0
          · have HN := hid (HAG2.out hA0)
            gi_wp2_with
              (gi_at_call 48
               refine cA.mono ?_
               rintro e V2 ⟨rfl, hb2⟩
               have hC2 := HC.out.far (Far.of_below (B := w.heap.size + 3) (T := T') hb2) (Nat.le_refl _)
               have e5 := hC2.res.cell
               have e6 := hC2.res.frozen
               have HC2 := hid hC2
               have HB2 := hid hb2
               clear hC2 hb2 cA)
            exact ⟨T', fun b hb => .inl hb, (Buts.below HB2.out).trans (Buts.set _ _ _ _ (.inr rfl)), rfl, HN.out, HC2.out.res.set _, HC2.out.below.setCell (p := ⟨w.heap.size + 1 + 1, 0, none⟩) (by simp; omega) _⟩
          · have HP2 := hid (HPO2.out (by omega))
            gi_wp2_with
              (gi_at_call 48
               refine cA.mono ?_
               rintro e V2 ⟨rfl, hb2⟩
               have hC2 := HC.out.far (Far.of_below (B := w.heap.size + 3) (T := T') hb2) (Nat.le_refl _)
               have HC2 := hid hC2
               have HB2 := hid hb2
               clear hC2 hb2 cA)
            exact ⟨T', fun b hb => .inl hb, Buts.below HB2.out, ⟨HP2.out, HC2.out.res, HC2.out.row, HC2.out.below⟩⟩
        case done =>
          rintro D ys T' V rfl hsV rfl hsn hC hD
          have e5 := hC.res.cell
          have e6 := hC.res.frozen
          have HG : Hid (lateOk p l = true) := hid (by
            rw [HF.out]
            unfold agesOk
            rw [List.all_eq_true]
            intro x hx
            simpa using hC.pos x hx)
          have HC := hid hC
          have HD := hid hD
          clear hC hD hsn
          gi_wp2
          have hK' := (KeepsOthers.setCell V ⟨w.heap.size + 1 + 1, 0, none⟩ (.bool true)).same _ _ HD.out rfl
          refine ⟨by simp, .inl ⟨_, _, rfl, run_takeDeferred hK', ?_⟩⟩
          obtain ⟨q1, q2⟩ := leave1 (w := w) hK' (by have := HB6.out.size; omega) (HC.out.res.set (.bool true)) (HC.out.below.setCell (p := ⟨w.heap.size + 1 + 1, 0, none⟩) (by simp; omega) _)
          exact ⟨.bool true, by simp [results, Tryd.f27, go_sem, q1], by rw [HG.out], q2⟩
        case stop =>
          rintro D c' pre T' V rfl hsV hSp hsn ⟨rfl, hag, hb, hB⟩ hD
          have HG : Hid (lateOk p l = false) := hid (by rw [HF.out, hag])
          have Hb := hid hb
          have HB := hid hB
          have HD := hid hD
          clear hag hb hB hD hsn hSp
          gi_wp2
          refine ⟨by simp, .inl ⟨_, _, rfl, run_takeDeferred HD.out, ?_⟩⟩
          obtain ⟨q1, q2⟩ := leave1 (w := w) HD.out (by have := HB6.out.size; omega) Hb.out HB.out
          exact ⟨.bool false, by simp [results, Tryd.f27, go_sem, q1], by rw [HG.out], q2⟩
    · have HF : Hid (lateOk p l = false) := hid (by unfold lateOk; rw [decide_eq_false hL]; simp)
      have hL' : ((l.length : Int) != (p.flows.length : Int)) = true := by simp; omega
      clear hL
      gi_wp2_with (first
          | (gi_at_call 43; rw [← hw3]; clear hw3 y0 y1 y2 y3; refine cN.mono ?_; rintro e w4 ⟨rfl, hb4⟩
             have z0 := cell_kept x0 hb4
             have z1 := cell_kept x1 hb4
             have z2 := cell_kept x2 hb4
             have z3 := cell_kept x3 hb4
             have z4 := cell_kept x4 hb4
             have hr4 : Boxed w4 (w.heap.size + 1 + 1) 4 (.bool false) := (hb4.block _ R2.out.lt).trans R2.out
             have z5 := hr4.cell
             have z6 := hr4.frozen
             have RL4 : Hid (w4.heap[w.heap.size + 1]? = some (.cells #[.slice ao l.length cap] 48 (0, 0))) := hid ((hb4.block _ (Array.getElem?_eq_some_iff.1 R1.out).1).trans R1.out)
             have HB4 := hid (HB3.out.trans (hb4.mono HB3.out.size))
             have cC := (callsIn_wide (n := 19)).2 (contains_func l _ w4 (HI.out.keep (HB4.out)))
             have HR4 := hid hr4
             skip
             clear hb4 hr4 cN))
      have hr' := HR4.out.set (.bool false)
      have e2 := hr'.cell
      exact ⟨.bool false, by simp [results, Tryd.f27, go_sem, e2], by rw [HF.out], HB4.out.setCell (p := ⟨w.heap.size + 1 + 1, 0, none⟩) (by simp; omega) _⟩
  · have HF : Hid (lateOk p l = false) := hid (by unfold lateOk; rw [decide_eq_false hE]; simp)
    have hE' : (nmErr p != 0) = true := by simpa using hE
    generalize nmErr p = E at *
    clear hE
    gi_wp2_with (first
          | (gi_at_call 43; rw [← hw3]; clear hw3 y0 y1 y2 y3; refine cN.mono ?_; rintro e w4 ⟨rfl, hb4⟩
             have z0 := cell_kept x0 hb4
             have z1 := cell_kept x1 hb4
             have z2 := cell_kept x2 hb4
             have z3 := cell_kept x3 hb4
             have z4 := cell_kept x4 hb4
             have hr4 : Boxed w4 (w.heap.size + 1 + 1) 4 (.bool false) := (hb4.block _ R2.out.lt).trans R2.out
             have z5 := hr4.cell
             have z6 := hr4.frozen
             have RL4 : Hid (w4.heap[w.heap.size + 1]? = some (.cells #[.slice ao l.length cap] 48 (0, 0))) := hid ((hb4.block _ (Array.getElem?_eq_some_iff.1 R1.out).1).trans R1.out)
             have HB4 := hid (HB3.out.trans (hb4.mono HB3.out.size))
             have cC := (callsIn_wide (n := 19)).2 (contains_func l _ w4 (HI.out.keep (HB4.out)))
             have HR4 := hid hr4
             skip
             clear hb4 hr4 cN))
    have hr' := HR4.out.set (.bool false)
    have e2 := hr'.cell
    exact ⟨.bool false, by simp [results, Tryd.f27, go_sem, e2], by rw [HF.out], HB4.out.setCell (p := ⟨w.heap.size + 1 + 1, 0, none⟩) (by simp; omega) _⟩
end Go.Proofs.YtdenddknbmiboaaDoor.Lex
namespace Go.Proofs.YtdenddknbmiboaaDoor.Lex
open Go.ChangeShapes Go.WideShapes Go.ChangeAt Go.RowKit Go.Joins
abbrev spareFl : Fl := ⟨spare, 0, 0, 0, ⟨0, 0, ⟨#[]⟩, []⟩⟩
/-- A row's block: all of it may be written. -/
def Blk (w : World) (b t c cap : Nat) : Prop := ∃ cur : Array Value, w.heap[b]? = some (.cells cur t (0, 0)) ∧ cur.size = cap * c ∧ cap ≤ maxLen
/-- A twin of a row of heads, in a block from some one on. -/
def TwIns (w : World) (lo : Nat) (l : List Hd) (s : Value) : Prop :=
  ∃ (b cap : Nat), s = .slice (some ⟨b, 0, none⟩) l.length cap ∧ lo ≤ b ∧ l.length ≤ 4398046510976 ∧ l.length < cap ∧ (∀ x ∈ l, x.ok) ∧ (∀ i (h : i < l.length), HdCells w b (i * 3) l[i]) ∧ HdCells w b (l.length * 3) ⟨spare, 0, 0⟩ ∧ Blk w b 59 3 cap
/-- A twin of a row of flows. -/
def TwFlows (w : World) (lo : Nat) (l : List Fl) (s : Value) : Prop :=
  ∃ (b cap : Nat) (sl : Nat → Value), s = .slice (some ⟨b, 0, none⟩) l.length cap ∧ lo ≤ b ∧ l.length ≤ 1466015503658 ∧ l.length < cap ∧ (∀ x ∈ l, x.ok) ∧ (∀ i (h : i < l.length), FlCells w b (i * 8) l[i] (sl i)) ∧ FlCells w b (l.length * 8) spareFl (.slice none 0 0) ∧ (∀ i (h : i < l.length), Tw w (b + 1) l[i].body (sl i)) ∧ Blk w b 55 8 cap
/-- A twin of a row of texts. -/
def TwTexts (w : World) (lo : Nat) (l : List ByteArray) (s : Value) : Prop :=
  ∃ (b cap : Nat), s = .slice (some ⟨b, 0, none⟩) l.length cap ∧ lo ≤ b ∧ l.length ≤ 8796093021952 ∧ l.length < cap ∧ (∀ x ∈ l, x.size ≤ 140737488355328) ∧ (∀ i (h : i < l.length), w.cell? ⟨b, i, none⟩ = some (.string l[i])) ∧ w.cell? ⟨b, l.length, none⟩ = some (.string spare) ∧ Blk w b 9 1 cap
theorem cell_carry {w w' : World} {lo b o : Nat} {v : Value} (hb : ∀ b, lo ≤ b → b < w.heap.size → w'.heap[b]? = w.heap[b]?) (hlo : lo ≤ b) (h : w.cell? ⟨b, o, none⟩ = some v) : w'.cell? ⟨b, o, none⟩ = some v := by
  rw [World.cell?_of_block (w := w) (a := ⟨b, o, none⟩) (hb b hlo (World.block_lt_of_cell? w _ h))]
  exact h
theorem Blk.carry {w w' : World} {lo b t c cap : Nat} (h : Blk w b t c cap) (hb : ∀ b, lo ≤ b → b < w.heap.size → w'.heap[b]? = w.heap[b]?) (hlo : lo ≤ b) : Blk w' b t c cap := by
  obtain ⟨cur, h1, h2⟩ := h
  exact ⟨cur, (hb b hlo (Array.getElem?_eq_some_iff.1 h1).1).trans h1, h2⟩
theorem HdCells.carry {w w' : World} {lo b p : Nat} {x : Hd} (h : HdCells w b p x) (hb : ∀ b, lo ≤ b → b < w.heap.size → w'.heap[b]? = w.heap[b]?) (hlo : lo ≤ b) : HdCells w' b p x :=
  ⟨cell_carry hb hlo h.1, cell_carry hb hlo h.2.1, cell_carry hb hlo h.2.2⟩
theorem FlCells.carry {w w' : World} {lo b p : Nat} {x : Fl} {s : Value} (h : FlCells w b p x s) (hb : ∀ b, lo ≤ b → b < w.heap.size → w'.heap[b]? = w.heap[b]?) (hlo : lo ≤ b) : FlCells w' b p x s :=
  ⟨cell_carry hb hlo h.1, cell_carry hb hlo h.2.1, cell_carry hb hlo h.2.2.1, cell_carry hb hlo h.2.2.2.1, cell_carry hb hlo h.2.2.2.2.1, cell_carry hb hlo h.2.2.2.2.2.1, cell_carry hb hlo h.2.2.2.2.2.2.1, cell_carry hb hlo h.2.2.2.2.2.2.2⟩
theorem TwIns.carry {w w' : World} {lo lo' : Nat} {l : List Hd} {s : Value} (h : TwIns w lo l s) (hb : ∀ b, lo ≤ b → b < w.heap.size → w'.heap[b]? = w.heap[b]?) (hl : lo' ≤ lo) : TwIns w' lo' l s := by
  obtain ⟨b, cap, rfl, h1, h2, h3, h4, h5, h6, h8⟩ := h
  exact ⟨b, cap, rfl, by omega, h2, h3, h4, fun i hi => (h5 i hi).carry hb h1, h6.carry hb h1, h8.carry hb h1⟩
theorem TwTexts.carry {w w' : World} {lo lo' : Nat} {l : List ByteArray} {s : Value} (h : TwTexts w lo l s) (hb : ∀ b, lo ≤ b → b < w.heap.size → w'.heap[b]? = w.heap[b]?) (hl : lo' ≤ lo) : TwTexts w' lo' l s := by
  obtain ⟨b, cap, rfl, h1, h2, h3, h4, h5, h6, h8⟩ := h
  exact ⟨b, cap, rfl, by omega, h2, h3, h4, fun i hi => cell_carry hb h1 (h5 i hi), cell_carry hb h1 h6, h8.carry hb h1⟩
theorem TwFlows.carry {w w' : World} {lo lo' : Nat} {l : List Fl} {s : Value} (h : TwFlows w lo l s) (hb : ∀ b, lo ≤ b → b < w.heap.size → w'.heap[b]? = w.heap[b]?) (hl : lo' ≤ lo) : TwFlows w' lo' l s := by
  obtain ⟨b, cap, sl, rfl, h1, h2, h3, h4, h5, h6, h7, h8⟩ := h
  exact ⟨b, cap, sl, rfl, by omega, h2, h3, h4, fun i hi => (h5 i hi).carry hb h1, h6.carry hb h1, fun i hi => Tw.carryN (fun b' hb' hlt => hb b' (by omega) hlt) (Nat.le_refl _) _ _ _ (Nat.le_refl _) (h7 i hi), h8.carry hb h1⟩
theorem TwIns.at {w : World} {lo : Nat} {l : List Hd} {s : Value} (h : TwIns w lo l s) : InsAt w l s := by
  obtain ⟨b, cap, rfl, h1, h2, h3, h4, h5, h6⟩ := h
  exact ⟨_, cap, rfl, h2, by omega, h4, .inr ⟨b, 0, rfl, fun i hi => by simpa using h5 i hi⟩⟩
theorem TwTexts.at {w : World} {lo : Nat} {l : List ByteArray} {s : Value} (h : TwTexts w lo l s) : TextsAt w l s := by
  obtain ⟨b, cap, rfl, h1, h2, h3, h4, h5, h6⟩ := h
  exact ⟨_, cap, rfl, h2, by omega, h4, .inr ⟨b, 0, rfl, fun i hi => by simpa using h5 i hi⟩⟩
theorem TwFlows.at {w : World} {lo : Nat} {l : List Fl} {s : Value} (h : TwFlows w lo l s) : FlowsAt w l s := by
  obtain ⟨b, cap, sl, rfl, h1, h2, h3, h4, h5, h6, h7, h8⟩ := h
  exact ⟨_, cap, sl, rfl, h2, by omega, h4, .inr ⟨b, 0, rfl, fun i hi => by simpa using h5 i hi⟩, fun i hi => (h7 i hi).st⟩
/-- A twin of a program. -/
structure TwPg (w : World) (lo : Nat) (p : Pg) (a b c : Value) : Prop where
  st : -9223372036854775808 ≤ p.st ∧ p.st ≤ 9223372036854775807
  ins : TwIns w lo p.ins a
  flows : TwFlows w lo p.flows b
  outs : TwTexts w lo p.outs c
theorem TwPg.carry {w w' : World} {lo lo' : Nat} {p : Pg} {a b c : Value} (h : TwPg w lo p a b c) (hb : ∀ b, lo ≤ b → b < w.heap.size → w'.heap[b]? = w.heap[b]?) (hl : lo' ≤ lo) : TwPg w' lo' p a b c :=
  ⟨h.st, h.ins.carry hb hl, h.flows.carry hb hl, h.outs.carry hb hl⟩
theorem TwPg.keep {w w' : World} {lo : Nat} {p : Pg} {a b c : Value} (h : TwPg w lo p a b c) (hb : Below w.heap.size w w') : TwPg w' lo p a b c := h.carry (fun b _ hlt => hb.block b hlt) (Nat.le_refl _)
theorem TwPg.at {w : World} {lo : Nat} {p : Pg} {a b c : Value} (h : TwPg w lo p a b c) : PgAt w p a b c := ⟨h.st, h.ins.at, h.flows.at, h.outs.at⟩
/-! ### A row that is made -/
theorem flat_at {c : Nat} : ∀ {es : List (List Value)} {i : Nat} {e : List Value} {j : Nat} {rest : List Value}, (∀ e ∈ es, e.length = c) → es[i]? = some e → j < c → (es.flatten ++ rest)[i * c + j]? = e[j]?
  | [], i, e, j, rest, _, h, _ => by simp at h
  | x :: es, 0, e, j, rest, hl, h, hj => by
    simp at h
    subst h
    have := hl x (by simp)
    rw [List.flatten_cons, List.append_assoc, List.getElem?_append_left (by omega)]
    simp
  | x :: es, i + 1, e, j, rest, hl, h, hj => by
    have hx := hl x (by simp)
    rw [List.flatten_cons, List.append_assoc, List.getElem?_append_right (by rw [hx, Nat.add_mul]; omega), hx, show (i + 1) * c + j - c = i * c + j by rw [Nat.add_mul]; omega]
    exact flat_at (fun e he => hl e (by simp [he])) (by simpa using h) hj
theorem flat_len {c : Nat} : ∀ {es : List (List Value)}, (∀ e ∈ es, e.length = c) → es.flatten.length = es.length * c
  | [], _ => by simp
  | x :: es, hl => by
    have hx := hl x (by simp)
    rw [List.flatten_cons, List.length_append, flat_len (fun e he => hl e (by simp [he])), hx, List.length_cons, Nat.add_mul]
    omega
/-- While a row is made. -/
structure MkR (w : World) (t c n : Nat) (es : List (List Value)) (W : World) : Prop where
  below : Below w.heap.size w W
  row : W.ownsRow w.heap.size t c (.slice (some ⟨w.heap.size, 0, none⟩) es.length (n + 1)) es.length es.flatten
  each : ∀ e ∈ es, e.length = c
  size : w.heap.size < W.heap.size
theorem MkR.start {w w1 : World} {t c n : Nat} (hown : w1.ownsRow w.heap.size t c (.slice (some ⟨w.heap.size, 0, none⟩) 0 (n + 1)) 0 []) (hg : w.grownBy w1 none) : MkR w t c n [] w1 where
  below := (Below.refl _ _).grown hg (Nat.le_refl _) (fun k hk => by cases hk)
  row := hown
  each := fun p hp => by cases hp
  size := by
    rcases hown.2 with ⟨h, _⟩ | ⟨g, c, cur, e, _, hh, _⟩
    · cases h
    · injection e with e1 _ _
      injection e1 with e1
      injection e1 with e1 _ _
      subst e1
      exact (Array.getElem?_eq_some_iff.1 hh).1
theorem MkR.step {w W W' : World} {t c n : Nat} {es : List (List Value)} (h : MkR w t c n es W) (hb : Below W.heap.size W W') : MkR w t c n es W' :=
  ⟨bstep h.below hb, by
    have hr := h.row
    refine ⟨hr.1, ?_⟩
    rcases hr.2 with hn | ⟨g, cap, cur, e, hg0, hg, rest⟩
    · exact .inl hn
    · exact .inr ⟨g, cap, cur, e, hg0, (hb.block g (Array.getElem?_eq_some_iff.1 hg).1).trans hg, rest⟩, h.each, Nat.lt_of_lt_of_le h.size hb.size⟩
theorem MkR.grow {w W W' : World} {t c n k : Nat} {es : List (List Value)} {e : List Value} (h : MkR w t c n es W) (hk : es.length = k) (he : e.length = c)
    (hr : W'.ownsRow w.heap.size t c (.slice (some ⟨w.heap.size, 0, none⟩) (k + 1) (n + 1)) (k + 1) (es.flatten ++ e)) (hg : W.grownBy W' (some w.heap.size)) : MkR w t c n (es ++ [e]) W' where
  below := h.below.grown hg h.below.size (fun j hj => by cases hj; exact Nat.le_refl _)
  row := by
    have e1 : (es ++ [e]).length = k + 1 := by simp [hk]
    have e2 : (es ++ [e]).flatten = es.flatten ++ e := by simp
    rw [e1, e2]; exact hr
  each := fun p hp => by
    rcases List.mem_append.1 hp with hp | hp
    · exact h.each p hp
    · rw [List.mem_singleton.1 hp]; exact he
  size := Nat.lt_of_lt_of_le h.size hg.size
theorem Blk.of_row {W : World} {lo t c g n cap : Nat} {xs : List Value} (h : W.ownsRow lo t c (.slice (some ⟨g, 0, none⟩) n cap) n xs) : Blk W g t c cap := by
  rcases h.2 with ⟨h, _⟩ | ⟨g', c', cur, e, _, hh, _, h1, h2, _⟩
  · cases h
  · injection e with e1 _ e3
    injection e1 with e1
    injection e1 with e1 _ _
    subst e1 e3
    exact ⟨cur, hh, h2, h1⟩
/-- The cells of a row that was made, with the mark behind it. -/
theorem MkR.cells {w W' : World} {t c n k : Nat} {es : List (List Value)} {sp : List Value} (hl : ∀ e ∈ es, e.length = c) (hk : es.length = k) (hsp : sp.length = c)
    (hr : W'.ownsRow w.heap.size t c (.slice (some ⟨w.heap.size, 0, none⟩) (k + 1) (n + 1)) (k + 1) (es.flatten ++ sp)) :
    (∀ i e j v, es[i]? = some e → e[j]? = some v → W'.cell? ⟨w.heap.size, i * c + j, none⟩ = some v) ∧ ∀ j v, sp[j]? = some v → W'.cell? ⟨w.heap.size, k * c + j, none⟩ = some v := by
  have lt : ∀ {l : List Value} {j : Nat} {v : Value}, l[j]? = some v → j < l.length := fun h => (List.getElem?_eq_some_iff.1 h).1
  refine ⟨fun i e j v he hj => ?_, fun j v hj => ?_⟩
  · have hi : i < es.length := (List.getElem?_eq_some_iff.1 he).1
    have hj' := lt hj
    have hec := hl e (List.mem_of_getElem? he)
    have hb : i * c + j < (k + 1) * c := by
      have : (i + 1) * c ≤ k * c := Nat.mul_le_mul_right c (by omega)
      rw [Nat.add_mul] at this ⊢
      omega
    rw [hr.cellAt _ hb, flat_at hl he (by omega)]
    exact hj
  · have hj' := lt hj
    have hb : k * c + j < (k + 1) * c := by rw [Nat.add_mul]; omega
    rw [hr.cellAt _ hb, List.getElem?_append_right (by rw [flat_len hl, hk]; omega), flat_len hl, hk, show k * c + j - k * c = j by omega]
    exact hj
theorem next_cells (w : World) (l : List Value) (t : TypeId) : ∀ j u, l[j]? = some u → (w.alloc (.cells l.toArray t)).cell? ((⟨w.heap.size, 0, none⟩ : Addr).add j) = some u := by
  intro j u hj
  have hadd : (⟨w.heap.size, 0, none⟩ : Addr).add j = ⟨w.heap.size, j, none⟩ := by unfold Addr.add; split <;> simp_all
  rw [hadd, World.cell?_alloc_at _ _ _ _ rfl]
  simpa using hj
abbrev hdL (x : Hd) : List Value := [.string x.name, .int .u8 (x.ty : Int), .int .i64 x.st]
abbrev flL (x : Fl) (s : Value) : List Value := [.string x.name, .int .u8 (x.ty : Int), .int .i64 x.st, .int .i64 x.df, .int .u8 (x.body.op : Int), .int .i64 x.body.n, .string x.body.name, s]
end Go.Proofs.YtdenddknbmiboaaDoor.Lex
namespace Go.Proofs.YtdenddknbmiboaaDoor.Lex
open Go.ChangeShapes Go.WideShapes Go.ChangeAt Go.RowKit Go.Joins
attribute [local go_sem] Oper.semAt_some
def wisV (l : List Wi) : List Value := l.flatMap wiC
theorem wisV_snoc (l : List Wi) (x : Wi) : wisV (l ++ [x]) = wisV l ++ wiC x := by simp [wisV]
theorem infoW : (Tryd.prog.info? 111).map (fun i => (i.zero, i.size, i.bytes)) = some (some (.agg #[.int .i64 0, .string ByteArray.empty, .int .i64 0, .int .i64 0, .int .i64 0]), 5, 48) := by kernel_rfl
/-- A row stays where its block does. -/
theorem own_same {w w' : World} {base : Nat} {e : TypeId} {size n : Nat} {v : Value} {xs : List Value} (h : w.ownsRow base e size v n xs) (hb : ∀ b, v.ownBlock = some b → w'.heap[b]? = w.heap[b]?) : w'.ownsRow base e size v n xs := by
  refine ⟨h.1, ?_⟩
  rcases h.2 with hn | ⟨g, cap, cur, rfl, hg0, hg, rest⟩
  · exact .inl hn
  · exact .inr ⟨g, cap, cur, rfl, hg0, (hb g rfl).trans hg, rest⟩
theorem Buts.grown {own : Bl} {W W' : World} {row : Option Nat} (h : W.grownBy W' row) (ho : ∀ b, row = some b → own b) : Buts own W W' := ⟨h.os, h.tape, h.output, h.size, fun b hb hn => h.block b hb (fun e => hn (ho b e.symm))⟩
theorem pgOk_few {p : Pg} (h : nmErr p = 0) : p.ins.length ≤ 64 ∧ p.flows.length ≤ 128 := by
  unfold nmErr at h
  split at h
  · rename_i hk
    unfold pgOk roomOk at hk
    simp only [Bool.and_eq_true, decide_eq_true_eq] at hk
    exact ⟨hk.1.2.1, hk.1.2.2.1⟩
  · simp at h
/-- What holds between two rounds. -/
structure ColI (w : World) (pre : List Wi) (T : Bl) (V : World) : Prop where
  box : ∃ v, Boxed V w.heap.size 56 v ∧ V.ownsRow (w.heap.size + 1) 111 5 v pre.length (wisV pre) ∧ ∀ b, v.ownBlock = some b → T b
  below : Below w.heap.size w V
theorem ColI.far {w A C : World} {pre : List Wi} {T : Bl} {B : Nat} (h : ColI w pre T A) (hf : Far B T A C) (hB : w.heap.size + 1 ≤ B) : ColI w pre T C := by
  obtain ⟨v, h1, h2, h3⟩ := h.box
  exact ⟨⟨v, (hf.block _ h1.lt (.inl (by omega))).trans h1, own_same h2 (fun b hb => hf.block b (h2.lt b hb).2 (.inr (h3 b hb))), h3⟩, h.below.trans ⟨hf.os, hf.tape, hf.output, hf.size, fun b hb => hf.block b (by have := h.below.size; omega) (.inl (by omega))⟩⟩
end Go.Proofs.YtdenddknbmiboaaDoor.Lex
namespace Go.Proofs.YtdenddknbmiboaaDoor.Lex
open Go.ChangeShapes Go.WideShapes Go.ChangeAt Go.RowKit Go.Joins
theorem akOf_len (L : List (ByteArray × Ak)) (nm : ByteArray) : (akOf L nm).length ≤ L.length := by
  unfold akOf
  rw [List.length_map]
  exact List.length_filter_le _ _
theorem AM.keep {W W' : World} {base mb : Nat} {L : List (ByteArray × Ak)} {V : ByteArray → Option Sl} (h : AM W base mb L V) (hb : Below W.heap.size W W') : AM W' base mb L V :=
  ⟨h.m.block (hb.block _ h.m.lt), fun nm hn => own_same (h.rows nm hn) (fun b e => hb.block b ((h.rows nm hn).lt b e).2), h.ap, h.lt⟩
theorem AM.entry {W : World} {base mb : Nat} {L : List (ByteArray × Ak)} {V : ByteArray → Option Sl} (h : AM W base mb L V) (hl : L.length ≤ 1000000) {nm : ByteArray} (hN : NmK nm) (a : Ak) :
    ∃ (st : Nat) (W1 : World), (Instr.mapEntry 77 (.map (some mb)) (kV nm)).run Tryd.prog W = .ok (.tuple #[slV (V nm), .int .i64 (st : Int)]) W1 ∧ W.grownBy W1 (some mb) ∧ RowA W1 base (slV (V nm)) (akOf L nm) ∧
      ∀ (v' : Value) (W2 : World), W2.ownsRow base 148 3 v' ((akOf L nm).length + 1) (aksC (akOf L nm) ++ akC a) → W1.grownBy W2 (slV (V nm)).ownBlock → (v'.ownBlock = (slV (V nm)).ownBlock ∨ v'.ownBlock = some W1.heap.size) →
        ∃ V' W3, (Instr.entryStore 77 (.map (some mb)) (.int .i64 (st : Int)) v').run Tryd.prog W2 = .ok () W3 ∧ AM W3 base mb (L ++ [(nm, a)]) V' ∧ W2.grownBy W3 (some mb) := by
  obtain ⟨st, W1, hrun, hg1, hlt1, hst⟩ := h.m.entry (by unfold maxLen; omega) hN
  have hne : ∀ x g, NmK x → (slV (V x)).ownBlock = some g → g ≠ mb := fun x g hx e => by
    have := (h.rows x hx).lt g e
    have := h.lt
    omega
  have rows1 : ∀ x, NmK x → RowA W1 base (slV (V x)) (akOf L x) := fun x hx => own_same (h.rows x hx) (fun b e => hg1.block b ((h.rows x hx).lt b e).2 (fun e2 => hne x b hx e (by first | exact Option.some.inj e2 | exact (Option.some.inj e2).symm)))
  refine ⟨st, W1, hrun, hg1, rows1 nm hN, fun v' W2 hown hg2 hat => ?_⟩
  obtain ⟨g', cap', rfl⟩ := ownsRow_succ hown
  have hat' : (slV (V nm)).ownBlock = some g' ∨ g' = W1.heap.size := by
    rcases hat with e | e
    · exact .inl e.symm
    · exact .inr (by simpa [Value.ownBlock] using e)
  have hmb2 : W2.heap[mb]? = W1.heap[mb]? := hg2.block mb hlt1 (fun e => hne nm mb hN e.symm rfl)
  obtain ⟨W3, hrun3, hm3, hg3⟩ := hst W2 (some ⟨g', (akOf L nm).length + 1, cap'⟩) hmb2
  have hgl := hown.lt g' rfl
  have hs12 := hg1.size
  refine ⟨_, W3, hrun3, ⟨by rw [List.length_append]; exact hm3, fun x hx => ?_, fun x y g hx hy e1 e2 => ?_, h.lt⟩, hg3⟩
  · rw [akOf_app]
    by_cases e : x = nm
    · subst e
      rw [if_pos rfl, if_pos rfl]
      have e3 : (akOf L x ++ [a]).length = (akOf L x).length + 1 := by simp
      unfold RowA
      rw [e3, aksC_app, aksC_one]
      exact own_same hown (fun b e => hg3.block b (hown.lt b e).2 (fun e2 => by
        have e4 : b = mb := by first | exact Option.some.inj e2 | exact (Option.some.inj e2).symm
        have := (hown.lt b e).1
        have := h.lt
        omega))
    · rw [if_neg e, if_neg e]
      have r1 := rows1 x hx
      have r2 : RowA W2 base (slV (V x)) (akOf L x) := own_same r1 (fun b eb => hg2.block b (r1.lt b eb).2 (fun e2 => e (h.ap x nm b hx hN eb e2.symm)))
      exact own_same r2 (fun b eb => hg3.block b (r2.lt b eb).2 (fun e2 => hne x b hx eb (by first | exact Option.some.inj e2 | exact (Option.some.inj e2).symm)))
  · by_cases ex : x = nm
    · by_cases ey : y = nm
      · rw [ex, ey]
      · rw [if_pos ex] at e1
        rw [if_neg ey] at e2
        have e1' : g' = g := by simpa [slV, Value.ownBlock] using e1
        subst e1'
        rcases hat' with e3 | e3
        · exact (ey (h.ap y nm g' hy hN e2 e3)).elim
        · have := (h.rows y hy).lt g' e2
          omega
    · by_cases ey : y = nm
      · rw [if_neg ex] at e1
        rw [if_pos ey] at e2
        have e2' : g' = g := by simpa [slV, Value.ownBlock] using e2
        subst e2'
        rcases hat' with e3 | e3
        · exact (ex (h.ap x nm g' hx hN e1 e3)).elim
        · have := (h.rows x hx).lt g' e1
          omega
      · rw [if_neg ex] at e1
        rw [if_neg ey] at e2
        exact h.ap x y g hx hy e1 e2
end Go.Proofs.YtdenddknbmiboaaDoor.Lex
namespace Go.Proofs.YtdenddknbmiboaaDoor.Lex
theorem name_eq (a b : ByteArray) : (a.toList == b.toList) = decide (b.data.toList = a.data.toList) := by
  rw [ByteArray.toList_eq, ByteArray.toList_eq]
  by_cases e : b.data.toList = a.data.toList
  · rw [decide_eq_true e, e]; simp
  · rw [decide_eq_false e]; simp; intro h; exact e (by rw [h])
theorem cntT_app (a b : List (Int × Hd)) (u : List UInt8) : cntT (a ++ b) u = cntT a u + cntT b u := by
  unfold cntT; rw [List.filter_append, List.length_append]
theorem free_of_none {l : List (Int × Hd)} {name : ByteArray} (h : cntT l name.data.toList = 0) : Free l name := fun x hx => by
  rw [name_eq]
  unfold cntT at h
  have h' := List.eq_nil_of_length_eq_zero h
  rw [List.filter_eq_nil_iff] at h'
  have := h' x hx
  simpa using this
theorem none_of_free {l : List (Int × Hd)} {name : ByteArray} (h : Free l name) : cntT l name.data.toList = 0 := by
  unfold cntT
  rw [List.length_eq_zero_iff, List.filter_eq_nil_iff]
  intro x hx
  have := h x hx
  rw [name_eq] at this
  simpa using this
/-- What is there once is found. -/
theorem find_once {l pre post : List (Int × Hd)} {x : Int × Hd} (hl : l = pre ++ x :: post) (h : ¬ 1 < cntT l x.2.name.data.toList) : findT l x.2.name = some x := by
  subst hl
  have h1 : cntT [x] x.2.name.data.toList = 1 := by simp [cntT]
  have h2 : x :: post = [x] ++ post := rfl
  rw [h2, cntT_app, cntT_app, h1] at h
  refine findT_some (pre := pre) ⟨post, by simp⟩ (free_of_none (by omega)) ?_
  simp
/-- What is there is found. -/
theorem find_some {l : List (Int × Hd)} {name : ByteArray} (h : cntT l name.data.toList ≠ 0) : ∃ x, findT l name = some x := by
  cases e : findT l name with
  | some x => exact ⟨x, rfl⟩
  | none =>
    refine (h (none_of_free fun x hx => ?_)).elim
    unfold findT at e
    rw [List.find?_eq_none] at e
    simpa using e x hx
theorem nmErr_zero {p : Pg} (h : nmErr p = 0) : pgOk p = true ∧ nmOk p = true := by
  unfold nmErr at h
  split at h
  · next h1 =>
    split at h
    · next h2 => exact ⟨h1, h2⟩
    · omega
  · omega
theorem once {p : Pg} (h : nmOk p = true) {x : Int × Hd} (hx : x ∈ thingsL p) : ¬ 1 < cntT (thingsL p) x.2.name.data.toList := by
  unfold nmOk at h
  simp only [Bool.and_eq_true, List.all_eq_true] at h
  have := h.1 x hx
  simpa [twice] using this
theorem find_in_ok {p : Pg} (h : nmOk p = true) (i : Nat) (hi : i < p.ins.length) : findT (thingsL p) p.ins[i].name = some (-1, p.ins[i]) := by
  have hl : thingsL p = (insL p).take i ++ (-1, p.ins[i]) :: ((insL p).drop (i + 1) ++ flowsL p) := by
    have := insL_succ p i hi
    unfold thingsL
    conv => lhs; rw [← List.take_append_drop (i + 1) (insL p), this]
    simp
  exact find_once (x := (-1, p.ins[i])) hl (once h (by rw [hl]; simp))
theorem find_flow_ok {p : Pg} (h : nmOk p = true) (i : Nat) (hi : i < p.flows.length) : findT (thingsL p) p.flows[i].name = some ((i : Int), p.flows[i].hd) := by
  have hl : thingsL p = (insL p ++ (flowsL p).take i) ++ ((i : Int), p.flows[i].hd) :: (flowsL p).drop (i + 1) := by
    have := flowsL_succ p i hi
    unfold thingsL
    conv => lhs; rw [← List.take_append_drop (i + 1) (flowsL p), this]
    simp
  exact find_once (x := ((i : Int), p.flows[i].hd)) hl (once h (by rw [hl]; simp))
theorem find_asked_ok {p : Pg} (h : nmOk p = true) {s : ByteArray} (hs : s ∈ askedL p) : ∃ x, findT (thingsL p) s = some x := by
  unfold nmOk at h
  simp only [Bool.and_eq_true, List.all_eq_true] at h
  have := h.2.1 s hs
  exact find_some (by simpa [none_] using this)
theorem find_out_ok {p : Pg} (h : nmOk p = true) {s : ByteArray} (hs : s ∈ p.outs) : ∃ x, findT (thingsL p) s = some x := by
  unfold nmOk at h
  simp only [Bool.and_eq_true, List.all_eq_true] at h
  have := h.2.2 s hs
  refine find_some ?_
  simp [none_] at this
  exact this.1
theorem asked_mem {p : Pg} {i : Nat} (hi : i < p.flows.length) {k : Nat} (hk : k < (gat 32 p.flows[i].body 0 []).length) : (gat 32 p.flows[i].body 0 [])[k].1 ∈ askedL p :=
  List.mem_flatMap.2 ⟨p.flows[i], List.getElem_mem hi, List.mem_map.2 ⟨_, List.getElem_mem hk, rfl⟩⟩
end Go.Proofs.YtdenddknbmiboaaDoor.Lex
namespace Go.Proofs.YtdenddknbmiboaaDoor.Lex
theorem mem_ofWord {l : List UInt8} (h : wordLen l = l.length) : ∀ b ∈ l, ofWord b = true := by
  intro b hb
  unfold wordLen at h
  split at h
  · have : l = [] := List.eq_nil_of_length_eq_zero h.symm
    rw [this] at hb
    cases hb
  · obtain ⟨i, hi, rfl⟩ := List.getElem_of_mem hb
    have := span_at ofWord l i (by omega)
    simpa [List.getD, List.getElem?_eq_getElem hi] using this
theorem nmk_of {s : ByteArray} (h : isName s = true) : NmK s := by
  unfold isName at h
  simp only [Bool.and_eq_true, decide_eq_true_eq] at h
  refine ⟨h.2.1, fun b hb e => ?_⟩
  have h2 := mem_ofWord (l := s.data.toList) (by rw [h.2.2.1]; exact Array.length_toList.symm) b hb
  subst e
  cases h2
theorem thing_ok {p : Pg} (h : pgOk p = true) : ∀ x ∈ thingsL p, hdOk x.2 p.st = true := by
  intro x hx
  unfold pgOk at h
  simp only [Bool.and_eq_true, List.all_eq_true] at h
  rcases List.mem_append.1 hx with hx | hx
  · obtain ⟨y, hy, rfl⟩ := List.mem_map.1 hx
    exact h.2.1 y hy
  · obtain ⟨i, hi, rfl⟩ := List.mem_map.1 hx
    have hi' := List.mem_range.1 hi
    have := h.2.2.1 _ (List.getElem_mem hi')
    unfold flOk at this
    simp only [Bool.and_eq_true] at this
    dsimp only
    rw [List.getElem?_eq_getElem hi']
    exact this.1
theorem thing_nmk {p : Pg} (h : pgOk p = true) {x : Int × Hd} (hx : x ∈ thingsL p) : NmK x.2.name := by
  have := thing_ok h x hx
  unfold hdOk at this
  simp only [Bool.and_eq_true] at this
  exact nmk_of this.1
theorem thing_st {p : Pg} (h : pgOk p = true) {x : Int × Hd} (hx : x ∈ thingsL p) : 1 ≤ x.2.st ∧ x.2.st ≤ p.st := by
  have := thing_ok h x hx
  unfold hdOk inR at this
  simp only [Bool.and_eq_true, decide_eq_true_eq] at this
  exact this.2.2
theorem findT_mem {l : List (Int × Hd)} {s : ByteArray} {x : Int × Hd} (h : findT l s = some x) : x ∈ l ∧ x.2.name = s := by
  unfold findT at h
  refine ⟨List.mem_of_find?_eq_some h, ?_⟩
  have := List.find?_some h
  rw [name_eq] at this
  exact (bytes_eq (by simpa using this)).symm
/-- What is asked for may be a key. -/
theorem ref_nmk {p : Pg} (h : nmErr p = 0) {i : Nat} (hi : i < p.flows.length) {r : Rf} (hr : r ∈ gat 32 p.flows[i].body 0 []) : ∃ x, x ∈ thingsL p ∧ x.2.name = r.1 ∧ findT (thingsL p) r.1 = some x := by
  obtain ⟨k, hk, rfl⟩ := List.getElem_of_mem hr
  obtain ⟨x, hx⟩ := find_asked_ok (nmErr_zero h).2 (asked_mem hi hk)
  exact ⟨x, (findT_mem hx).1, (findT_mem hx).2, hx⟩
/-- Who asks for what, of one flow. -/
def akL (p : Pg) (k : Nat) : List (ByteArray × Ak) := ((p.flows[k]?).map fun f => (gat 32 f.body 0 []).map fun r => (r.1, (⟨k, f.st, r.2⟩ : Ak))).getD []
theorem akL_at {p : Pg} {k : Nat} (h : k < p.flows.length) : akL p k = (gat 32 p.flows[k].body 0 []).map fun r => (r.1, (⟨k, p.flows[k].st, r.2⟩ : Ak)) := by
  unfold akL; rw [List.getElem?_eq_getElem h]; rfl
/-- Who asks for what, of the first flows. -/
def akN (p : Pg) (k : Nat) : List (ByteArray × Ak) := (List.range k).flatMap (akL p)
def akAll (p : Pg) : List (ByteArray × Ak) := akN p p.flows.length
theorem akN_succ (p : Pg) (k : Nat) : akN p (k + 1) = akN p k ++ akL p k := by
  unfold akN; rw [List.range_succ, List.flatMap_append]; simp
theorem akN_len {p : Pg} (hC : ∀ f ∈ p.flows, chk f.body = true) : ∀ k, k ≤ p.flows.length → (akN p k).length ≤ 200 * k
  | 0, _ => by simp [akN]
  | k + 1, hk => by
    rw [akN_succ, List.length_append]
    have := akN_len hC k (by omega)
    have h1 : (akL p k).length ≤ 200 := by
      rw [akL_at (by omega), List.length_map]
      have h1 := gat_len 32 p.flows[k].body 0 []
      have h2 := (chk_nm (hC _ (List.getElem_mem (by omega : k < p.flows.length)))).2
      simp at h1
      omega
    omega
end Go.Proofs.YtdenddknbmiboaaDoor.Lex
namespace Go.Proofs.YtdenddknbmiboaaDoor.Lex
open Go.ChangeShapes Go.WideShapes Go.ChangeAt Go.RowKit Go.Joins
/-- great returns yes or no; where it says no, the rows are short. -/
def GreatP (p : Pg) (e : Ending) : Prop := ∃ g : Bool, e = .returned (.bool g) ∧ (g = false → p.ins.length ≤ 300 ∧ p.flows.length ≤ 300 ∧ p.outs.length ≤ 1000)
end Go.Proofs.YtdenddknbmiboaaDoor.Lex
namespace Go.Proofs.YtdenddknbmiboaaDoor.Lex
open Go.ChangeShapes Go.WideShapes Go.ChangeAt Go.RowKit Go.Shelf
theorem row4 {W : World} {k : Nat} {st : Int} {A B C : Value} (h : W.heap[k]? = some (.cells #[.int .i64 st, A, B, C] 46 (0, 0))) : W.cell? ⟨k, 0, none⟩ = some (.int .i64 st) ∧ W.cell? ⟨k, 1, none⟩ = some A ∧ W.cell? ⟨k, 2, none⟩ = some B ∧ W.cell? ⟨k, 3, none⟩ = some C :=
  ⟨(cell_of_row _ _ _ _ 46 (0, 0) h).trans rfl, (cell_of_row _ _ _ _ 46 (0, 0) h).trans rfl, (cell_of_row _ _ _ _ 46 (0, 0) h).trans rfl, (cell_of_row _ _ _ _ 46 (0, 0) h).trans rfl⟩
theorem keep_row {W W' : World} {k : Nat} {o : Obj} (h : W.heap[k]? = some o) (hb : Below W.heap.size W W') : W'.heap[k]? = some o := (hb.block _ (Array.getElem?_eq_some_iff.1 h).1).trans h
/-- A program in its variable. -/
structure FV (w : World) (p : Pg) (A B C : Value) (W : World) : Prop where
  row : W.heap[w.heap.size]? = some (.cells (pgC p A B C) 46 (0, 0))
  P : PgAt W p A B C
  R : TabR W
  J : TabJ W
  below : Below w.heap.size w W
theorem FV.keep {w W W' : World} {p : Pg} {A B C : Value} (h : FV w p A B C W) (hb : Below W.heap.size W W') : FV w p A B C W' := ⟨keep_row h.row hb, h.P.keep hb, h.R.below hb, h.J.below hb, h.below.trans (hb.mono h.below.size)⟩
theorem FV.new {w : World} {p : Pg} {A B C : Value} (hP : PgAt w p A B C) (hR : TabR w) (hJ : TabJ w) : FV w p A B C (w.alloc (.cells (pgC p A B C) 46)) := by
  have hb := (Below.refl w.heap.size w).alloc (Nat.le_refl _) (.cells (pgC p A B C) 46)
  exact ⟨heap_alloc_new w _, hP.keep hb, hR.below hb, hJ.below hb, hb⟩
end Go.Proofs.YtdenddknbmiboaaDoor.Lex
namespace Go.Proofs.YtdenddknbmiboaaDoor.Lex
open Go.ChangeShapes Go.WideShapes Go.ChangeAt Go.RowKit Go.Joins
/-- Between two of those that ask. -/
structure AkI (w : World) (p : Pg) (a b c : Value) (L : List (ByteArray × Ak)) (W : World) : Prop where
  row : W.heap[w.heap.size]? = some (.cells (pgC p a b c) 46 (0, 0))
  am : ∃ V, AM W (w.heap.size + 2) (w.heap.size + 1) L V
  below : Below w.heap.size w W
theorem AkI.keep {w W W' : World} {p : Pg} {a b c : Value} {L : List (ByteArray × Ak)} (h : AkI w p a b c L W) (hb : Below W.heap.size W W') : AkI w p a b c L W' := by
  obtain ⟨V, hV⟩ := h.am
  exact ⟨keep_row h.row hb, ⟨V, hV.keep hb⟩, h.below.trans (hb.mono h.below.size)⟩
theorem AkI.size {w W : World} {p : Pg} {a b c : Value} {L : List (ByteArray × Ak)} (h : AkI w p a b c L W) : w.heap.size + 2 ≤ W.heap.size := by
  obtain ⟨V, hV⟩ := h.am
  have := hV.m.lt
  omega
theorem AkI.grown {w W W' : World} {p : Pg} {a b c : Value} {L : List (ByteArray × Ak)} {o : Option Nat} (h : AkI w p a b c L W) (hg : W.grownBy W' o) (ho : ∀ x, o = some x → w.heap.size < x) : W'.heap[w.heap.size]? = some (.cells (pgC p a b c) 46 (0, 0)) ∧ Below w.heap.size w W' :=
  ⟨(hg.block _ (Array.getElem?_eq_some_iff.1 h.row).1 (fun e => by have := ho _ e.symm; omega)).trans h.row, h.below.grown hg h.below.size (fun x e => by have := ho x e; omega)⟩
theorem grown_other {W1 W2 : World} {base : Nat} {v : Value} {l : List Ak} (hr : RowA W1 base v l) (hg : W1.grownBy W2 v.ownBlock) {y T : Nat} {cs : Array Value} {fr : Nat × Nat} (hy : W1.heap[y]? = some (.cells cs T fr)) (hT : T ≠ 148) : W2.heap[y]? = W1.heap[y]? := by
  refine hg.block y (Array.getElem?_eq_some_iff.1 hy).1 (fun e => ?_)
  rcases hr.2 with ⟨rfl, _⟩ | ⟨g, cap, cur, rfl, _, hgr, _⟩
  · cases e
  · have e2 : g = y := by
      have : some y = some g := e
      exact (Option.some.inj this).symm
    subst e2
    rw [hy] at hgr
    injection hgr with hgr
    injection hgr with _ h2
    exact hT h2
/-- Between two things that a flow asks for. -/
structure AkJ (w wo : World) (p : Pg) (a b c : Value) (L : List (ByteArray × Ak)) (fc : Array Value) (v : Value) (R : List Rf) (W : World) : Prop where
  s : AkI w p a b c L W
  fl : W.heap[wo.heap.size]? = some (.cells fc 76 (0, 0))
  rf : W.ownsRow wo.heap.size 109 2 v R.length (refsV R)
  big : w.heap.size + 2 ≤ wo.heap.size
theorem AkJ.keep {w wo W W' : World} {p : Pg} {a b c v : Value} {L : List (ByteArray × Ak)} {fc : Array Value} {R : List Rf} (h : AkJ w wo p a b c L fc v R W) (hb : Below W.heap.size W W') : AkJ w wo p a b c L fc v R W' := ⟨h.s.keep hb, keep_row h.fl hb, own_same h.rf (fun x e => hb.block x (h.rf.lt x e).2), h.big⟩
/-- One more: the look-up, the append, the store. -/
theorem AkJ.entry {w wo W : World} {p : Pg} {a b c v : Value} {L : List (ByteArray × Ak)} {fc : Array Value} {R : List Rf} (h : AkJ w wo p a b c L fc v R W) (hl : L.length ≤ 1000000) {nm : ByteArray} (hN : NmK nm) (x : Ak) :
    ∃ (n st : Nat) (u : Value) (ys : List Value) (W1 : World), n ≤ L.length ∧ (Instr.mapEntry 77 (.map (some (w.heap.size + 1))) (kV nm)).run Tryd.prog W = .ok (.tuple #[u, .int .i64 (st : Int)]) W1 ∧ W.grownBy W1 (some (w.heap.size + 1)) ∧ W1.ownsRow (w.heap.size + 2) 148 3 u n ys ∧ w.heap.size + 2 ≤ W1.heap.size ∧
      ∀ (v' : Value) (W2 : World), W2.ownsRow (w.heap.size + 2) 148 3 v' (n + 1) (ys ++ akC x) → W1.grownBy W2 u.ownBlock → (v'.ownBlock = u.ownBlock ∨ v'.ownBlock = some W1.heap.size) →
        ∃ W3, (Instr.entryStore 77 (.map (some (w.heap.size + 1))) (.int .i64 (st : Int)) v').run Tryd.prog W2 = .ok () W3 ∧ AkJ w wo p a b c (L ++ [(nm, x)]) fc v R W3 := by
  obtain ⟨V, hV⟩ := h.s.am
  obtain ⟨st, W1, h1, h2, h3, h4⟩ := hV.entry hl hN x
  have hs1 := h.s.size
  have hs2 := h2.size
  obtain ⟨hr1, hb1⟩ := h.s.grown h2 (fun y e => by have := Option.some.inj e; omega)
  have hne : wo.heap.size ≠ w.heap.size + 1 := by have := h.big; omega
  have hf1 : W1.heap[wo.heap.size]? = some (.cells fc 76 (0, 0)) := (h2.block _ (Array.getElem?_eq_some_iff.1 h.fl).1 (fun e => hne (by first | exact Option.some.inj e | exact (Option.some.inj e).symm))).trans h.fl
  have hrf1 : W1.ownsRow wo.heap.size 109 2 v R.length (refsV R) := own_same h.rf (fun y e => h2.block y (h.rf.lt y e).2 (fun e2 => by
    have := (h.rf.lt y e).1
    have hy : y = w.heap.size + 1 := by first | exact Option.some.inj e2 | exact (Option.some.inj e2).symm
    have := h.big
    omega))
  refine ⟨_, st, _, _, W1, akOf_len L nm, h1, h2, h3, by omega, fun v' W2 k1 k2 k3 => ?_⟩
  obtain ⟨V', W3, m1, m2, m3⟩ := h4 v' W2 k1 k2 k3
  have hs12 := k2.size
  have hr2 := (grown_other h3 k2 hr1 (by decide)).trans hr1
  have hf2 := (grown_other h3 k2 hf1 (by decide)).trans hf1
  have hb2 : Below w.heap.size w W2 := hb1.grown k2 hb1.size (fun y e => by have := (World.ownsRow.lt h3 y e).1; omega)
  have hrf2 : W2.ownsRow wo.heap.size 109 2 v R.length (refsV R) := own_same hrf1 (fun y e => by
    rcases hrf1.2 with ⟨e0, _⟩ | ⟨g, cap, cur, e0, _, hg, _⟩
    · rw [e0] at e; cases e
    · have ey : g = y := by rw [e0] at e; simpa [Value.ownBlock] using e
      subst ey
      exact grown_other h3 k2 hg (by decide))
  refine ⟨W3, m1, ⟨⟨?_, ⟨V', m2⟩, hb2.grown m3 hb2.size (fun y e => by have := Option.some.inj e; omega)⟩, ?_, ?_, h.big⟩⟩
  · exact (m3.block _ (Array.getElem?_eq_some_iff.1 hr2).1 (fun e => absurd (Option.some.inj e) (by omega))).trans hr2
  · exact (m3.block _ (Array.getElem?_eq_some_iff.1 hf2).1 (fun e => hne (by first | exact Option.some.inj e | exact (Option.some.inj e).symm))).trans hf2
  · exact own_same hrf2 (fun y e => m3.block y (hrf2.lt y e).2 (fun e2 => by
      have := (hrf2.lt y e).1
      have hy : y = w.heap.size + 1 := by first | exact Option.some.inj e2 | exact (Option.some.inj e2).symm
      have := h.big
      omega))
theorem addN (b j : Nat) : (⟨b, 0, none⟩ : Addr).add j = ⟨b, j, none⟩ := by unfold Addr.add; split <;> simp_all
theorem infoA : (Tryd.prog.info? 148).map (fun i => (i.zero, i.size, i.bytes)) = some (some (.agg #[.int .i64 0, .int .i64 0, .int .i64 0]), 3, 24) := by kernel_rfl
set_option maxRecDepth 100000 in
set_option maxHeartbeats 4000000 in
theorem askers_of (p : Pg) (w : World) (a b c : Value) (hP : PgAt w p a b c) (hC : ∀ f ∈ p.flows, chk f.body = true) (hK : ∀ i (h : i < p.flows.length), ∀ r ∈ gat 32 p.flows[i].body 0 [], NmK r.1) (hfl : p.flows.length ≤ 128) :
    Calls Tryd.prog 44 #[pgV p a b c] w fun e w' => e = .returned (.map (some (w.heap.size + 1))) ∧ AMr w' (w.heap.size + 1) (akAll p) ∧ Below w.heap.size w w' := by
  obtain ⟨a0, a1, rfl, _⟩ := hP.ins
  obtain ⟨b0, b1, sl, rfl, hlen, hcap, hok, hfc, hst⟩ := hP.flows
  obtain ⟨c0, c1, rfl, _⟩ := hP.outs
  have HP := hid hP
  have HFC := hid hfc
  have HST := hid hst
  have HK := hid hK
  have HC := hid hC
  have HLE := hid (akN_len hC)
  clear hP hfc hst hK hC hok hcap hlen
  obtain ⟨i0, hi, hz0, hz1, hz2⟩ := info_parts infoA
  have N0 : Hid (AkI w p (.slice a0 p.ins.length a1) (.slice b0 p.flows.length b1) (.slice c0 p.outs.length c1) [] ((w.alloc (.cells (pgC p (.slice a0 p.ins.length a1) (.slice b0 p.flows.length b1) (.slice c0 p.outs.length c1)) 46)).alloc (.map #[] 0))) := hid (by
    have h := AM.new (w.alloc (.cells (pgC p (.slice a0 p.ins.length a1) (.slice b0 p.flows.length b1) (.slice c0 p.outs.length c1)) 46))
    rw [World.size_alloc] at h
    exact ⟨push_old (heap_alloc_new _ _), ⟨_, h⟩, ((Below.refl _ w).alloc (Nat.le_refl _) _).alloc (by simp) _⟩)
  have hmm := @run_makeMap Tryd.prog
  go_enter Tryd.func44, Tryd.ntmps44
  go_wp2_with (fail)
  generalize ((w.alloc (.cells (pgC p (.slice a0 p.ins.length a1) (.slice b0 p.flows.length b1) (.slice c0 p.outs.length c1)) 46)).alloc (.map #[] 0)) = W0 at *
  go_loopw [13] (fun i wr => ∃ k : Nat, k ≤ p.flows.length ∧ i = .int .i64 (k : Int) ∧ Hid (AkI w p (.slice a0 p.ins.length a1) (.slice b0 p.flows.length b1) (.slice c0 p.outs.length c1) (akN p k) wr)) (fun i _ => p.flows.length - (intOf i).toNat)
  case atStart => exact ⟨0, Nat.zero_le _, rfl, N0⟩
  case round =>
    obtain ⟨k, hk, rfl, HN⟩ := hrel
    by_cases hlt : k < p.flows.length
    · have hlt' : (k : Int) < (p.flows.length : Int) := by omega
      have hk0 : (0 : Int) ≤ (k : Int) := by omega
      obtain ⟨fb, fo, rfl, hcc⟩ := HFC.out.resolve_left (by omega)
      have hfl8 := hcc k hlt
      have HSK := hid (HST.out k hlt)
      have HNK := hid (chk_nm (HC.out _ (List.getElem_mem hlt)))
      have HKK := hid (HK.out k hlt)
      have HEK := hid (akN_succ p k)
      have HAL := hid (akL_at hlt)
      have HL1 := hid (HLE.out k hk)
      clear hcc
      obtain ⟨fa, fc, _, fe, _⟩ := HSK.out.out
      have hf8 := hfl8.keep HN.out.below
      have HSW := hid (HSK.out.keep HN.out.below)
      rw [fe] at hf8 HSW
      clear hfl8 fe HSK
      generalize p.flows[k] = f at *
      obtain ⟨f0, f1, f2, f3, f4, f5, f6, f7⟩ := hf8
      have FB := (Below.refl wr.heap.size wr).alloc (Nat.le_refl _) (.cells #[.string f.name, .int .u8 (f.ty : Int), .int .i64 f.st, .int .i64 f.df, .int .u8 (f.body.op : Int), .int .i64 f.body.n, .string f.body.name, .slice fa f.body.args.length fc] 76)
      have hfr : (wr.alloc (.cells #[.string f.name, .int .u8 (f.ty : Int), .int .i64 f.st, .int .i64 f.df, .int .u8 (f.body.op : Int), .int .i64 f.body.n, .string f.body.name, .slice fa f.body.args.length fc] 76)).heap[wr.heap.size]? = some (.cells #[.string f.name, .int .u8 (f.ty : Int), .int .i64 f.st, .int .i64 f.df, .int .u8 (f.body.op : Int), .int .i64 f.body.n, .string f.body.name, .slice fa f.body.args.length fc] 76 (0, 0)) := push_new _ _ _ rfl
      have g4 : (wr.alloc (.cells #[.string f.name, .int .u8 (f.ty : Int), .int .i64 f.st, .int .i64 f.df, .int .u8 (f.body.op : Int), .int .i64 f.body.n, .string f.body.name, .slice fa f.body.args.length fc] 76)).cell? ⟨wr.heap.size, 4, none⟩ = some (.int .u8 (f.body.op : Int)) := (cell_of_row _ _ _ _ 76 (0, 0) hfr).trans rfl
      have g5 : (wr.alloc (.cells #[.string f.name, .int .u8 (f.ty : Int), .int .i64 f.st, .int .i64 f.df, .int .u8 (f.body.op : Int), .int .i64 f.body.n, .string f.body.name, .slice fa f.body.args.length fc] 76)).cell? ⟨wr.heap.size, 5, none⟩ = some (.int .i64 f.body.n) := (cell_of_row _ _ _ _ 76 (0, 0) hfr).trans rfl
      have g6 : (wr.alloc (.cells #[.string f.name, .int .u8 (f.ty : Int), .int .i64 f.st, .int .i64 f.df, .int .u8 (f.body.op : Int), .int .i64 f.body.n, .string f.body.name, .slice fa f.body.args.length fc] 76)).cell? ⟨wr.heap.size, 6, none⟩ = some (.string f.body.name) := (cell_of_row _ _ _ _ 76 (0, 0) hfr).trans rfl
      have g7 : (wr.alloc (.cells #[.string f.name, .int .u8 (f.ty : Int), .int .i64 f.st, .int .i64 f.df, .int .u8 (f.body.op : Int), .int .i64 f.body.n, .string f.body.name, .slice fa f.body.args.length fc] 76)).cell? ⟨wr.heap.size, 7, none⟩ = some (.slice fa f.body.args.length fc) := (cell_of_row _ _ _ _ 76 (0, 0) hfr).trans rfl
      have NF := hid (HN.out.keep FB)
      obtain ⟨s0, s1, s2, s3⟩ := row4 HN.out.row
      have c62 := refs 32 f.body _ _ (HSW.out.keep FB) HNK.out.1 (by omega) (by have := HNK.out.2; omega)
      have hLl : (gat 32 f.body 0 []).length ≤ 200 := by have h1 := gat_len 32 f.body 0 []; have h2 := HNK.out.2; simp at h1; omega
      obtain ⟨FW, hFW⟩ : ∃ FW, FW = (wr.alloc (.cells #[.string f.name, .int .u8 (f.ty : Int), .int .i64 f.st, .int .i64 f.df, .int .u8 (f.body.op : Int), .int .i64 f.body.n, .string f.body.name, .slice fa f.body.args.length fc] 76)) := ⟨_, rfl⟩
      have hfr' := hfr
      rw [← hFW] at hfr'
      have HFR := hid hfr'
      have HWB := hid (show wr.heap.size < FW.heap.size by rw [hFW]; simp)
      clear hfr FB hfr'
      go_wp2_with (fail)
      refine c62.mono ?_
      rintro e w1 ⟨v, rfl, hrow, hb1⟩
      obtain ⟨ao, cap, rfl, _⟩ := refs_row hrow
      rw [← hFW] at hb1 NF
      have hrow' := ownsRow_mono hrow (show wr.heap.size ≤ _ by rw [World.size_alloc]; omega)
      obtain ⟨wo, hwo⟩ : ∃ wo, wo = wr := ⟨_, rfl⟩
      subst wr
      have HJ0 : Hid (AkJ w wo p (.slice a0 p.ins.length a1) (.slice (some ⟨fb, fo, none⟩) p.flows.length b1) (.slice c0 p.outs.length c1) (akN p k) #[.string f.name, .int .u8 (f.ty : Int), .int .i64 f.st, .int .i64 f.df, .int .u8 (f.body.op : Int), .int .i64 f.body.n, .string f.body.name, .slice fa f.body.args.length fc] (.slice ao (gat 32 f.body 0 []).length cap) (gat 32 f.body 0 []) w1) := hid ⟨NF.out.keep hb1, keep_row HFR.out hb1, hrow', HN.out.size⟩
      clear hrow hrow' hb1 c62 s0 s1 s2 s3 g4 g5 g6 g7 f0 f1 f2 f3 f4 f5 f6 f7 NF hFW HFR HWB FW HSW HNK
      generalize gat 32 f.body 0 [] = R at *
      generalize akN p k = L at *
      have hL1 := HL1.out
      go_wp2_with (fail)
      go_loopw [22] (fun i wv => ∃ j : Nat, j ≤ R.length ∧ i = .int .i64 (j : Int) ∧ Hid (AkJ w wo p (.slice a0 p.ins.length a1) (.slice (some ⟨fb, fo, none⟩) p.flows.length b1) (.slice c0 p.outs.length c1) (L ++ (R.take j).map fun r => (r.1, (⟨k, f.st, r.2⟩ : Ak))) #[.string f.name, .int .u8 (f.ty : Int), .int .i64 f.st, .int .i64 f.df, .int .u8 (f.body.op : Int), .int .i64 f.body.n, .string f.body.name, .slice fa f.body.args.length fc] (.slice ao R.length cap) R wv)) (fun i _ => R.length - (intOf i).toNat)
      case atStart => exact ⟨0, Nat.zero_le _, rfl, hid (by simpa using HJ0.out)⟩
      case round =>
        obtain ⟨j, hj, rfl, HJ⟩ := hrel
        by_cases hjl : j < R.length
        · have hjl' : (j : Int) < (R.length : Int) := by omega
          have hj0 : (0 : Int) ≤ (j : Int) := by omega
          have HS1 : Hid (L ++ ((R.take (j + 1)).map fun r => (r.1, (⟨k, f.st, r.2⟩ : Ak))) = (L ++ (R.take j).map fun r => (r.1, (⟨k, f.st, r.2⟩ : Ak))) ++ [(R[j].1, ⟨k, f.st, R[j].2⟩)]) := hid (by rw [List.take_succ_eq_append_getElem hjl, List.map_append, List.append_assoc]; rfl)
          have hE1 : (L ++ (R.take j).map fun r => (r.1, (⟨k, f.st, r.2⟩ : Ak))).length ≤ 25800 := by
            rw [List.length_append, List.length_map, List.length_take]
            omega
          obtain ⟨ao', cap', e', hh⟩ := refs_row HJ.out.rf
          injection e' with e1 _ e3
          subst e1 e3
          obtain ⟨g, rfl, _, hgl, hcc⟩ := hh.resolve_left (by omega)
          obtain ⟨y0, y1⟩ := hcc j hjl
          have hNm := HKK.out R[j] (List.getElem_mem hjl)
          clear hcc hh
          generalize (L ++ (R.take j).map fun r => (r.1, (⟨k, f.st, r.2⟩ : Ak))) = E1 at *
          generalize R[j] = z at *
          have HNM := hid hNm
          clear hNm
          have hBa := (Below.refl wr.heap.size wr).alloc (Nat.le_refl _) (.cells #[.string z.1, .int .i64 (z.2 : Int)] 109)
          have HR0 : Hid ((wr.alloc (.cells #[.string z.1, .int .i64 (z.2 : Int)] 109)).heap[wr.heap.size]? = some (.cells #[.string z.1, .int .i64 (z.2 : Int)] 109 (0, 0))) := hid (heap_alloc_new wr _)
          have HJa := hid (HJ.out.keep hBa)
          clear hBa
          go_wp2_with (fail)
          obtain ⟨kc, hkc⟩ : ∃ kc, kc = (kC z.1).toArray := ⟨_, rfl⟩
          have HKV : Hid (kV z.1 = .agg kc) := hid (by rw [hkc])
          have HSZ : Hid (kc.size = 40) := hid (by rw [hkc]; exact kV_size HNM.out.1)
          have HO : Hid (kc.all (·.oneCell') = true) := hid (by rw [hkc]; exact kC_oneCell z.1)
          have HIN : Hid ((Tryd.prog.info? 144).map (·.size) = some kc.size) := hid (by rw [HSZ.out]; exact infK)
          clear hkc
          have ck := fun W => key_of z.1 W HNM.out.1
          rw [HKV.out] at ck
          refine (ck _).mono ?_
          rintro e w2 ⟨rfl, hb2⟩
          have HJ2 := hid (HJa.out.keep hb2)
          have HR2 := hid (keep_row HR0.out hb2)
          have HW2 := hid (show wr.heap.size < w2.heap.size by have := hb2.size; rw [World.size_alloc] at this; omega)
          have hz : (w2.alloc (.cells #[.int .u8 0, .int .u8 0, .int .u8 0, .int .u8 0, .int .u8 0, .int .u8 0, .int .u8 0, .int .u8 0, .int .u8 0, .int .u8 0, .int .u8 0, .int .u8 0, .int .u8 0, .int .u8 0, .int .u8 0, .int .u8 0, .int .u8 0, .int .u8 0, .int .u8 0, .int .u8 0, .int .u8 0, .int .u8 0, .int .u8 0, .int .u8 0, .int .u8 0, .int .u8 0, .int .u8 0, .int .u8 0, .int .u8 0, .int .u8 0, .int .u8 0, .int .u8 0, .int .u8 0, .int .u8 0, .int .u8 0, .int .u8 0, .int .u8 0, .int .u8 0, .int .u8 0, .int .u8 0] 144)).heap[w2.heap.size]? = some (.cells #[.int .u8 0, .int .u8 0, .int .u8 0, .int .u8 0, .int .u8 0, .int .u8 0, .int .u8 0, .int .u8 0, .int .u8 0, .int .u8 0, .int .u8 0, .int .u8 0, .int .u8 0, .int .u8 0, .int .u8 0, .int .u8 0, .int .u8 0, .int .u8 0, .int .u8 0, .int .u8 0, .int .u8 0, .int .u8 0, .int .u8 0, .int .u8 0, .int .u8 0, .int .u8 0, .int .u8 0, .int .u8 0, .int .u8 0, .int .u8 0, .int .u8 0, .int .u8 0, .int .u8 0, .int .u8 0, .int .u8 0, .int .u8 0, .int .u8 0, .int .u8 0, .int .u8 0, .int .u8 0] 144 (0, 0)) := heap_alloc_new w2 _
          obtain ⟨U1, hU1⟩ : ∃ U1, (w2.alloc (.cells #[.int .u8 0, .int .u8 0, .int .u8 0, .int .u8 0, .int .u8 0, .int .u8 0, .int .u8 0, .int .u8 0, .int .u8 0, .int .u8 0, .int .u8 0, .int .u8 0, .int .u8 0, .int .u8 0, .int .u8 0, .int .u8 0, .int .u8 0, .int .u8 0, .int .u8 0, .int .u8 0, .int .u8 0, .int .u8 0, .int .u8 0, .int .u8 0, .int .u8 0, .int .u8 0, .int .u8 0, .int .u8 0, .int .u8 0, .int .u8 0, .int .u8 0, .int .u8 0, .int .u8 0, .int .u8 0, .int .u8 0, .int .u8 0, .int .u8 0, .int .u8 0, .int .u8 0, .int .u8 0] 144)).setRow w2.heap.size kc = U1 := ⟨_, rfl⟩
          have hbU : Below w2.heap.size w2 U1 := by rw [← hU1]; exact below_row ((Below.refl _ w2).alloc (Nat.le_refl _) _) (by simp) (Nat.le_refl _) _
          have HKU : Hid (U1.heap[w2.heap.size]? = some (.cells kc 144 (0, 0))) := hid (by rw [← hU1]; exact setRow_heap _ _ _ _ _ _ hz)
          have HZ := hid hz
          have HJU := hid (HJ2.out.keep hbU)
          have hRU := keep_row HR2.out hbU
          have u0 : U1.cell? ⟨wo.heap.size, 2, none⟩ = some (.int .i64 f.st) := (cell_of_row _ _ _ _ 76 (0, 0) HJU.out.fl).trans rfl
          have u1 : U1.cell? ⟨wr.heap.size, 1, none⟩ = some (.int .i64 (z.2 : Int)) := (cell_of_row _ _ _ _ 109 (0, 0) hRU).trans rfl
          have hBb := (Below.refl U1.heap.size U1).alloc (Nat.le_refl _) (.cells #[.int .i64 (k : Int), .int .i64 f.st, .int .i64 (z.2 : Int)] 148)
          have HJb := hid (HJU.out.keep hBb)
          obtain ⟨n, st, u, ys, W1, hn, hrun, hg1, hown1, hs1, hback⟩ := HJb.out.entry (by omega) HNM.out ⟨k, f.st, z.2⟩
          rw [HKV.out] at hrun
          have HNEWS : Hid (∀ j u, [Value.int .i64 (k : Int), .int .i64 f.st, .int .i64 (z.2 : Int)][j]? = some u → W1.cell? ((⟨U1.heap.size, 0, none⟩ : Addr).add j) = some u) := hid (fun j u hju => by
            have h1 := next_cells U1 [.int .i64 (k : Int), .int .i64 f.st, .int .i64 (z.2 : Int)] 148 j u hju
            rw [addN] at h1 ⊢
            have h3 : w.heap.size + 2 ≤ U1.heap.size := HJU.out.s.size
            exact cell_same (hg1.block _ (by simp) (fun e => absurd (Option.some.inj e) (by omega))) h1)
          have HU1 := hid hU1
          have HG1 := hid hg1
          have HOWN1 := hid hown1
          have HBK := hid hback
          have HUB := hid (show w.heap.size + 2 ≤ U1.heap.size from HJU.out.s.size)
          clear hU1 hz hb2 hbU hRU hBb hg1 hown1 hback ck
          go_wp2_with (first
            | (refine wpList_store_row rfl 144 _ _ rfl w2.heap.size kc rfl rfl 144 _ HZ.out HIN.out (by rw [HSZ.out]; rfl) HO.out ?_; rw [HU1.out])
            | (refine wpList_load_row rfl 144 _ rfl w2.heap.size rfl 144 kc (0, 0) _ HKU.out Tryd.underlying144 rfl HIN.out ?_)
            | (at_builtin
               refine wpList_append_own_at _ rfl _ _ 146 rfl (w.heap.size + 2) 148 i0 (.agg #[.int .i64 0, .int .i64 0, .int .i64 0]) 3 24 Tryd.underlying146 hi hz0 hz1 hz2 rfl (by decide) _ _ _ rfl HOWN1.out ⟨U1.heap.size, 0, none⟩ 1 1 [.int .i64 (k : Int), .int .i64 f.st, .int .i64 (z.2 : Int)] rfl rfl ?hnews (by simp [Value.oneCell']) (by unfold maxLen; omega) (by omega) hs1 ?_
               case hnews => exact HNEWS.out
               intro v' w3 hown' hgrow _ hat
               obtain ⟨W3, hrun3, hJ3⟩ := HBK.out v' w3 hown' hgrow hat
               have HJ3 := hid hJ3
               clear hown' hgrow hat hJ3))
          go_roundw
          case rel => exact ⟨j + 1, by omega, by go_num, hid (by rw [HS1.out]; exact HJ3.out)⟩
          case measure => simp [intOf]; omega
        · have hjl' : ¬ (j : Int) < (R.length : Int) := by omega
          have HE : Hid (L ++ ((R.take j).map fun r => (r.1, (⟨k, f.st, r.2⟩ : Ak))) = akN p (k + 1)) := hid (by rw [HEK.out, HAL.out, List.take_of_length_le (by omega)])
          go_wp2
          go_roundw
          case rel => exact ⟨k + 1, by omega, by go_num, hid (by rw [← HE.out]; exact HJ.out.s)⟩
          case measure => simp [intOf]; omega
    · have hlt' : ¬ (k : Int) < (p.flows.length : Int) := by omega
      have HE : Hid (akN p k = akAll p) := hid (by unfold akAll; congr 1; omega)
      go_wp2
      go_ret
      have hA := HN.out.am
      obtain ⟨V, hV⟩ := hA
      rw [HE.out] at hV
      exact ⟨rfl, hV.read, HN.out.below⟩
end Go.Proofs.YtdenddknbmiboaaDoor.Lex
