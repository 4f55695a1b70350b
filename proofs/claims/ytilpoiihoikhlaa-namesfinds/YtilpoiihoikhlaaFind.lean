/-
  What a name is: the contract of names.Find.
-/
import Derived.Test.YtilpoiihoikhlaaThings
import Derived.BigRegionIn
namespace Go.Proofs.Ytilpoiihoikhlaa.Lex
open Go.ChangeShapes Go.WideShapes Go.ChangeAt Go.RowKit Go.Shelf
attribute [local go_sem] Oper.semAt_some
/-- The first of them that has the name. -/
def findT (l : List (Int × Hd)) (name : ByteArray) : Option (Int × Hd) := l.find? fun x => x.2.name.toList == name.toList
/-- What is answered. -/
def foV (o : Option (Int × Hd)) : Array Value := match o with
  | some x => #[.int .i64 x.2.st, .int .u8 (x.2.ty : Int), .int .i64 x.1, .bool true]
  | none => #[.int .i64 0, .int .u8 0, .int .i64 0, .bool false]
/-- None of them has it. -/
def Free (l : List (Int × Hd)) (name : ByteArray) : Prop := ∀ x ∈ l, (x.2.name.toList == name.toList) = false
theorem findT_none {l : List (Int × Hd)} {name : ByteArray} (h : Free l name) : findT l name = none := by
  unfold findT
  rw [List.find?_eq_none]
  intro x hx
  simp [h x hx]
theorem findT_some {l pre : List (Int × Hd)} {x : Int × Hd} {name : ByteArray} (hp : pre ++ [x] <+: l) (h : Free pre name) (hx : (x.2.name.toList == name.toList) = true) : findT l name = some x := by
  obtain ⟨t, rfl⟩ := hp
  have h' := findT_none h
  unfold findT at h' ⊢
  rw [List.append_assoc, List.find?_append, h']
  simp [hx]
theorem Free.snoc {l : List (Int × Hd)} {x : Int × Hd} {name : ByteArray} (h : Free l name) (hx : (x.2.name.toList == name.toList) = false) : Free (l ++ [x]) name := by
  intro y hy
  rcases List.mem_append.1 hy with hy | hy
  · exact h y hy
  · rw [List.mem_singleton.1 hy]; exact hx
theorem box_turn {B0 : Nat} {X Y : World} {row : Option Nat} {B : Nat} {t : TypeId} {v : Value} (h : Boxed X B t v) (hg : X.grownBy Y row) (hr : ∀ r, row = some r → B0 ≤ r ∧ ∃ o : Obj, X.heap[r]? = some o ∧ o.isCells = false) : Boxed Y B t v :=
  boxed_own B t (fun (_ : Unit) => v) () X Y row h hg (fun r e => (hr r e).2)
theorem grownBy_keeps_cells {X Y : World} {row : Option Nat} {B : Nat} {c : Array Value} {t : TypeId} {f : Nat × Nat} (hg : X.grownBy Y row) (hr : ∀ r, row = some r → ∃ o : Obj, X.heap[r]? = some o ∧ o.isCells = false) (h : X.heap[B]? = some (.cells c t f)) : Y.heap[B]? = some (.cells c t f) := by
  refine (hg.block B (Array.getElem?_eq_some_iff.1 h).1 ?_).trans h
  intro e
  obtain ⟨o, ho, hc⟩ := hr B e.symm
  rw [h] at ho
  cases ho
  cases hc
theorem boxed_drew {W : World} {B : Nat} {t : TypeId} {v : Value} (h : Boxed W B t v) : Boxed W.drew B t v := h
/-- Four boxes that are stored into. -/
def four (W : World) (b : Nat) (u2 u3 u4 u5 : Value) : World := (((W.setCell ⟨b + 1 + 1, 0, none⟩ u2).setCell ⟨b + 1 + 1 + 1, 0, none⟩ u3).setCell ⟨b + 1 + 1 + 1 + 1, 0, none⟩ u4).setCell ⟨b + 1 + 1 + 1 + 1 + 1, 0, none⟩ u5
theorem four_keeps (W : World) (b : Nat) (u2 u3 u4 u5 : Value) : KeepsOthers W (four W b u2 u3 u4 u5) :=
  (((KeepsOthers.setCell _ _ _).trans (KeepsOthers.setCell _ _ _)).trans (KeepsOthers.setCell _ _ _)).trans (KeepsOthers.setCell _ _ _)
theorem four_below {w W : World} {b : Nat} (u2 u3 u4 u5 : Value) (h : Below b w W) : Below b w (four W b u2 u3 u4 u5) :=
  (((h.setCell (p := ⟨b + 1 + 1, 0, none⟩) (by simp; omega) u2).setCell (p := ⟨b + 1 + 1 + 1, 0, none⟩) (by simp; omega) u3).setCell (p := ⟨b + 1 + 1 + 1 + 1, 0, none⟩) (by simp; omega) u4).setCell (p := ⟨b + 1 + 1 + 1 + 1 + 1, 0, none⟩) (by simp; omega) u5
theorem four_boxed {W : World} {b t2 t3 t4 t5 : Nat} {v2 v3 v4 v5 : Value} (u2 u3 u4 u5 : Value) (c2 : Boxed W (b + 1 + 1) t2 v2) (c3 : Boxed W (b + 1 + 1 + 1) t3 v3) (c4 : Boxed W (b + 1 + 1 + 1 + 1) t4 v4) (c5 : Boxed W (b + 1 + 1 + 1 + 1 + 1) t5 v5) :
    Boxed (four W b u2 u3 u4 u5) (b + 1 + 1) t2 u2 ∧ Boxed (four W b u2 u3 u4 u5) (b + 1 + 1 + 1) t3 u3 ∧ Boxed (four W b u2 u3 u4 u5) (b + 1 + 1 + 1 + 1) t4 u4 ∧ Boxed (four W b u2 u3 u4 u5) (b + 1 + 1 + 1 + 1 + 1) t5 u5 :=
  ⟨(((c2.set u2).other (by omega) u3).other (by omega) u4).other (by omega) u5, (((c3.other (by omega) u2).set u3).other (by omega) u4).other (by omega) u5, (((c4.other (by omega) u2).other (by omega) u3).set u4).other (by omega) u5, (((c5.other (by omega) u2).other (by omega) u3).other (by omega) u4).set u5⟩
set_option maxRecDepth 100000 in
set_option maxHeartbeats 4000000 in
theorem find_in (F : Fence) (n : Nat) (h7 : F.fn 7) (h14 : F.fn 14) (h22 : F.fn 22) (hro : F.round = none) (hn : 6 ≤ n) (p : Pg) (name : ByteArray) (w : World) (a b c : Value) (hP : PgAt w p a b c) :
    CallsIn F n Try.prog 7 #[pgV p a b c, .string name] w fun e W' => e = .returned (.tuple (foV (findT (thingsL p) name))) ∧ Below w.heap.size w W' := by
  have h1 : 1 ≤ n := by omega
  obtain ⟨a0, a1, rfl, _⟩ := hP.ins
  obtain ⟨b0, b1, _, rfl, _⟩ := hP.flows
  obtain ⟨c0, c1, rfl, _⟩ := hP.outs
  have HP := hid hP
  clear hP
  refine callsIn_of_wp_marks Try.func7 rfl h7 ?_ hro
  simp only [Try.ntmps7, List.size_toArray, List.length_cons, List.length_nil, Nat.reduceAdd, Nat.reduceSub, Array.replicate_succ, Array.replicate_zero, List.push_toArray, List.append_toArray, List.nil_append, List.cons_append]
  gi_wp2_with (gi_at_call 14; refine (things F (n - 1) h14 hro p _ _ _ _).mono ?_; rintro e w' ⟨rfl, rfl⟩)
  have hB0 : Below w.heap.size w (((((((w.alloc (.cells (pgC p (.slice a0 p.ins.length a1) (.slice b0 p.flows.length b1) (.slice c0 p.outs.length c1)) 26)).alloc (.cells #[.string name] 9)).alloc (.cells #[.int .i64 0] 3)).alloc (.cells #[.int .u8 0] 30)).alloc (.cells #[.int .i64 0] 3)).alloc (.cells #[.bool false] 4)).alloc (.cells (pgC p (.slice a0 p.ins.length a1) (.slice b0 p.flows.length b1) (.slice c0 p.outs.length c1)) 26)) := ((((((((Below.refl w.heap.size w).alloc (by simp; try omega) (.cells (pgC p (.slice a0 p.ins.length a1) (.slice b0 p.flows.length b1) (.slice c0 p.outs.length c1)) 26)).alloc (by simp; try omega) (.cells #[.string name] 9)).alloc (by simp; try omega) (.cells #[.int .i64 0] 3)).alloc (by simp; try omega) (.cells #[.int .u8 0] 30)).alloc (by simp; try omega) (.cells #[.int .i64 0] 3)).alloc (by simp; try omega) (.cells #[.bool false] 4)).alloc (by simp; try omega) (.cells (pgC p (.slice a0 p.ins.length a1) (.slice b0 p.flows.length b1) (.slice c0 p.outs.length c1)) 26))
  have hsz : (((((((w.alloc (.cells (pgC p (.slice a0 p.ins.length a1) (.slice b0 p.flows.length b1) (.slice c0 p.outs.length c1)) 26)).alloc (.cells #[.string name] 9)).alloc (.cells #[.int .i64 0] 3)).alloc (.cells #[.int .u8 0] 30)).alloc (.cells #[.int .i64 0] 3)).alloc (.cells #[.bool false] 4)).alloc (.cells (pgC p (.slice a0 p.ins.length a1) (.slice b0 p.flows.length b1) (.slice c0 p.outs.length c1)) 26)).heap.size = w.heap.size + 7 := by simp
  have bN : Boxed (((((((w.alloc (.cells (pgC p (.slice a0 p.ins.length a1) (.slice b0 p.flows.length b1) (.slice c0 p.outs.length c1)) 26)).alloc (.cells #[.string name] 9)).alloc (.cells #[.int .i64 0] 3)).alloc (.cells #[.int .u8 0] 30)).alloc (.cells #[.int .i64 0] 3)).alloc (.cells #[.bool false] 4)).alloc (.cells (pgC p (.slice a0 p.ins.length a1) (.slice b0 p.flows.length b1) (.slice c0 p.outs.length c1)) 26)) (w.heap.size + 1) 9 (.string name) := by have := ((((((Boxed.new (w.alloc (.cells (pgC p (.slice a0 p.ins.length a1) (.slice b0 p.flows.length b1) (.slice c0 p.outs.length c1)) 26)) 9 (.string name)).alloc (.cells #[.int .i64 0] 3)).alloc (.cells #[.int .u8 0] 30)).alloc (.cells #[.int .i64 0] 3)).alloc (.cells #[.bool false] 4)).alloc (.cells (pgC p (.slice a0 p.ins.length a1) (.slice b0 p.flows.length b1) (.slice c0 p.outs.length c1)) 26)); simpa using this
  have b2 : Boxed (((((((w.alloc (.cells (pgC p (.slice a0 p.ins.length a1) (.slice b0 p.flows.length b1) (.slice c0 p.outs.length c1)) 26)).alloc (.cells #[.string name] 9)).alloc (.cells #[.int .i64 0] 3)).alloc (.cells #[.int .u8 0] 30)).alloc (.cells #[.int .i64 0] 3)).alloc (.cells #[.bool false] 4)).alloc (.cells (pgC p (.slice a0 p.ins.length a1) (.slice b0 p.flows.length b1) (.slice c0 p.outs.length c1)) 26)) (w.heap.size + 1 + 1) 3 (.int .i64 0) := by have := (((((Boxed.new ((w.alloc (.cells (pgC p (.slice a0 p.ins.length a1) (.slice b0 p.flows.length b1) (.slice c0 p.outs.length c1)) 26)).alloc (.cells #[.string name] 9)) 3 (.int .i64 0)).alloc (.cells #[.int .u8 0] 30)).alloc (.cells #[.int .i64 0] 3)).alloc (.cells #[.bool false] 4)).alloc (.cells (pgC p (.slice a0 p.ins.length a1) (.slice b0 p.flows.length b1) (.slice c0 p.outs.length c1)) 26)); simpa using this
  have b3 : Boxed (((((((w.alloc (.cells (pgC p (.slice a0 p.ins.length a1) (.slice b0 p.flows.length b1) (.slice c0 p.outs.length c1)) 26)).alloc (.cells #[.string name] 9)).alloc (.cells #[.int .i64 0] 3)).alloc (.cells #[.int .u8 0] 30)).alloc (.cells #[.int .i64 0] 3)).alloc (.cells #[.bool false] 4)).alloc (.cells (pgC p (.slice a0 p.ins.length a1) (.slice b0 p.flows.length b1) (.slice c0 p.outs.length c1)) 26)) (w.heap.size + 1 + 1 + 1) 30 (.int .u8 0) := by have := ((((Boxed.new (((w.alloc (.cells (pgC p (.slice a0 p.ins.length a1) (.slice b0 p.flows.length b1) (.slice c0 p.outs.length c1)) 26)).alloc (.cells #[.string name] 9)).alloc (.cells #[.int .i64 0] 3)) 30 (.int .u8 0)).alloc (.cells #[.int .i64 0] 3)).alloc (.cells #[.bool false] 4)).alloc (.cells (pgC p (.slice a0 p.ins.length a1) (.slice b0 p.flows.length b1) (.slice c0 p.outs.length c1)) 26)); simpa using this
  have b4 : Boxed (((((((w.alloc (.cells (pgC p (.slice a0 p.ins.length a1) (.slice b0 p.flows.length b1) (.slice c0 p.outs.length c1)) 26)).alloc (.cells #[.string name] 9)).alloc (.cells #[.int .i64 0] 3)).alloc (.cells #[.int .u8 0] 30)).alloc (.cells #[.int .i64 0] 3)).alloc (.cells #[.bool false] 4)).alloc (.cells (pgC p (.slice a0 p.ins.length a1) (.slice b0 p.flows.length b1) (.slice c0 p.outs.length c1)) 26)) (w.heap.size + 1 + 1 + 1 + 1) 3 (.int .i64 0) := by have := (((Boxed.new ((((w.alloc (.cells (pgC p (.slice a0 p.ins.length a1) (.slice b0 p.flows.length b1) (.slice c0 p.outs.length c1)) 26)).alloc (.cells #[.string name] 9)).alloc (.cells #[.int .i64 0] 3)).alloc (.cells #[.int .u8 0] 30)) 3 (.int .i64 0)).alloc (.cells #[.bool false] 4)).alloc (.cells (pgC p (.slice a0 p.ins.length a1) (.slice b0 p.flows.length b1) (.slice c0 p.outs.length c1)) 26)); simpa using this
  have b5 : Boxed (((((((w.alloc (.cells (pgC p (.slice a0 p.ins.length a1) (.slice b0 p.flows.length b1) (.slice c0 p.outs.length c1)) 26)).alloc (.cells #[.string name] 9)).alloc (.cells #[.int .i64 0] 3)).alloc (.cells #[.int .u8 0] 30)).alloc (.cells #[.int .i64 0] 3)).alloc (.cells #[.bool false] 4)).alloc (.cells (pgC p (.slice a0 p.ins.length a1) (.slice b0 p.flows.length b1) (.slice c0 p.outs.length c1)) 26)) (w.heap.size + 1 + 1 + 1 + 1 + 1) 4 (.bool false) := by have := ((Boxed.new (((((w.alloc (.cells (pgC p (.slice a0 p.ins.length a1) (.slice b0 p.flows.length b1) (.slice c0 p.outs.length c1)) 26)).alloc (.cells #[.string name] 9)).alloc (.cells #[.int .i64 0] 3)).alloc (.cells #[.int .u8 0] 30)).alloc (.cells #[.int .i64 0] 3)) 4 (.bool false)).alloc (.cells (pgC p (.slice a0 p.ins.length a1) (.slice b0 p.flows.length b1) (.slice c0 p.outs.length c1)) 26)); simpa using this
  have x1 : (((((((w.alloc (.cells (pgC p (.slice a0 p.ins.length a1) (.slice b0 p.flows.length b1) (.slice c0 p.outs.length c1)) 26)).alloc (.cells #[.string name] 9)).alloc (.cells #[.int .i64 0] 3)).alloc (.cells #[.int .u8 0] 30)).alloc (.cells #[.int .i64 0] 3)).alloc (.cells #[.bool false] 4)).alloc (.cells (pgC p (.slice a0 p.ins.length a1) (.slice b0 p.flows.length b1) (.slice c0 p.outs.length c1)) 26)).cell? ⟨w.heap.size + 1 + 1 + 1 + 1 + 1 + 1, 1, none⟩ = some (.slice a0 p.ins.length a1) := by have := box_at ((((((w.alloc (.cells (pgC p (.slice a0 p.ins.length a1) (.slice b0 p.flows.length b1) (.slice c0 p.outs.length c1)) 26)).alloc (.cells #[.string name] 9)).alloc (.cells #[.int .i64 0] 3)).alloc (.cells #[.int .u8 0] 30)).alloc (.cells #[.int .i64 0] 3)).alloc (.cells #[.bool false] 4)) (pgC p (.slice a0 p.ins.length a1) (.slice b0 p.flows.length b1) (.slice c0 p.outs.length c1)) 26 1 (.slice a0 p.ins.length a1) rfl; simpa using this
  have x2 : (((((((w.alloc (.cells (pgC p (.slice a0 p.ins.length a1) (.slice b0 p.flows.length b1) (.slice c0 p.outs.length c1)) 26)).alloc (.cells #[.string name] 9)).alloc (.cells #[.int .i64 0] 3)).alloc (.cells #[.int .u8 0] 30)).alloc (.cells #[.int .i64 0] 3)).alloc (.cells #[.bool false] 4)).alloc (.cells (pgC p (.slice a0 p.ins.length a1) (.slice b0 p.flows.length b1) (.slice c0 p.outs.length c1)) 26)).cell? ⟨w.heap.size + 1 + 1 + 1 + 1 + 1 + 1, 2, none⟩ = some (.slice b0 p.flows.length b1) := by have := box_at ((((((w.alloc (.cells (pgC p (.slice a0 p.ins.length a1) (.slice b0 p.flows.length b1) (.slice c0 p.outs.length c1)) 26)).alloc (.cells #[.string name] 9)).alloc (.cells #[.int .i64 0] 3)).alloc (.cells #[.int .u8 0] 30)).alloc (.cells #[.int .i64 0] 3)).alloc (.cells #[.bool false] 4)) (pgC p (.slice a0 p.ins.length a1) (.slice b0 p.flows.length b1) (.slice c0 p.outs.length c1)) 26 2 (.slice b0 p.flows.length b1) rfl; simpa using this
  obtain ⟨W0, hW0⟩ : ∃ W0, (((((((w.alloc (.cells (pgC p (.slice a0 p.ins.length a1) (.slice b0 p.flows.length b1) (.slice c0 p.outs.length c1)) 26)).alloc (.cells #[.string name] 9)).alloc (.cells #[.int .i64 0] 3)).alloc (.cells #[.int .u8 0] 30)).alloc (.cells #[.int .i64 0] 3)).alloc (.cells #[.bool false] 4)).alloc (.cells (pgC p (.slice a0 p.ins.length a1) (.slice b0 p.flows.length b1) (.slice c0 p.outs.length c1)) 26)) = W0 := ⟨_, rfl⟩
  rw [hW0] at hB0 hsz bN b2 b3 b4 b5 x1 x2 ⊢
  clear hW0
  have HP0 := hid (HP.out.keep hB0)
  refine wpIn_rangeFunc_ownH hro h1 (gf := 22) (lb := #[.pointer (some ⟨w.heap.size + 1 + 1 + 1 + 1 + 1 + 1, 0, none⟩)]) rfl h22 (enters_of Try.func22 (by kernel_rfl) rfl)
    (things_stops F (n - 1) h22 hro (by omega) (w.heap.size + 1 + 1 + 1 + 1 + 1 + 1) p _ _ _ W0 HP0.out x1 x2) belowK_t (belowK_b (Nat.le_refl _)) (Below.refl _ _) (fun _ => rfl)
    (fun pre W => (((((Free pre name ∧ Boxed W (w.heap.size + 1) 9 (.string name)) ∧ Boxed W (w.heap.size + 1 + 1) 3 (.int .i64 0)) ∧ Boxed W (w.heap.size + 1 + 1 + 1) 30 (.int .u8 0)) ∧ Boxed W (w.heap.size + 1 + 1 + 1 + 1) 3 (.int .i64 0)) ∧ Boxed W (w.heap.size + 1 + 1 + 1 + 1 + 1) 4 (.bool false)) ∧ (Below w.heap.size w W ∧ W0.heap.size ≤ W.heap.size))
    (fun c pre W => ∃ (q : List (Int × Hd)) (x : Int × Hd), (c = .ret ∧ pre = q ++ [x] ∧ Free q name ∧ (x.2.name.toList == name.toList) = true) ∧ Boxed W (w.heap.size + 1 + 1) 3 (.int .i64 x.2.st) ∧ Boxed W (w.heap.size + 1 + 1 + 1) 30 (.int .u8 (x.2.ty : Int)) ∧ Boxed W (w.heap.size + 1 + 1 + 1 + 1) 3 (.int .i64 x.1) ∧ Boxed W (w.heap.size + 1 + 1 + 1 + 1 + 1) 4 (.bool true) ∧ Below w.heap.size w W)
    (OwnFrom.and (OwnFrom.and (OwnFrom.and (OwnFrom.and (OwnFrom.and (OwnFrom.and (ownFrom_pure _ _) (Own.from (boxed_own _ _ _) _)) (Own.from (boxed_own _ _ _) _)) (Own.from (boxed_own _ _ _) _)) (Own.from (boxed_own _ _ _) _)) (Own.from (boxed_own _ _ _) _)) (OwnFrom.and (ownFrom_below (Nat.le_refl _) (by omega)) (fun _ _ _ _ hs hg _ => Nat.le_trans hs hg.size)))
    (fun c pre X Y row hs hg hr => by
      obtain ⟨q, x, e, e2, e3, e4, e5, e6⟩ := hs
      exact ⟨q, x, e, box_turn e2 hg hr, box_turn e3 hg hr, box_turn e4 hg hr, box_turn e5 hg hr, (ownFrom_below (w₀ := w) (Nat.le_refl _) (by omega) : OwnFrom W0.heap.size (fun (_ : Unit) W => Below w.heap.size w W)) () X Y row e6 hg hr⟩)
    ⟨⟨⟨⟨⟨⟨(fun x hx => by cases hx), bN⟩, b2⟩, b3⟩, b4⟩, b5⟩, hB0, Nat.le_refl _⟩
    (fun x a' W => ∃ Bx, w.heap.size + 1 + 1 + 1 + 1 + 1 + 1 < Bx ∧ W.heap[Bx]? = some (.cells #[.string x.2.name, .int .u8 (x.2.ty : Int), .int .i64 x.2.st] 44 (0, 0)) ∧ a' = { tmps := #[pgV p (.slice a0 p.ins.length a1) (.slice b0 p.flows.length b1) (.slice c0 p.outs.length c1), .string name, .pointer (some ⟨w.heap.size, 0, none⟩), .pointer (some ⟨w.heap.size + 1, 0, none⟩), .pointer (some ⟨w.heap.size + 1 + 1, 0, none⟩), .pointer (some ⟨w.heap.size + 1 + 1 + 1, 0, none⟩), .pointer (some ⟨w.heap.size + 1 + 1 + 1 + 1, 0, none⟩), .pointer (some ⟨w.heap.size + 1 + 1 + 1 + 1 + 1, 0, none⟩), .int .i64 x.1, .pointer (some ⟨Bx, 0, none⟩), pgV p (.slice a0 p.ins.length a1) (.slice b0 p.flows.length b1) (.slice c0 p.outs.length c1), .func (.func 22) #[] #[.pointer (some ⟨w.heap.size + 1 + 1 + 1 + 1 + 1 + 1, 0, none⟩)], .int .i64 x.1, hdV x.2, undef, undef, undef, undef, undef, undef, undef, undef, undef], defers := [] })
    (fun x a' _ X Y row hs hg hr => by obtain ⟨Bx, e1, e2, e3⟩ := hs; exact ⟨Bx, e1, (grownBy_keeps_cells hg (fun r e => (hr r e).2) e2), e3⟩)
    ?assign ?body ?done ?stop
  case assign =>
    rintro l pre x W K ⟨⟨⟨⟨⟨⟨hf, cN⟩, c2⟩, c3⟩, c4⟩, c5⟩, hB1, hZ⟩ hK
    gi_wp2
    exact hK _ _ ((KeepsOthers.alloc _ _).from _) ((Below.refl _ W).alloc hZ _) ⟨⟨⟨⟨⟨⟨hf, cN.alloc _⟩, c2.alloc _⟩, c3.alloc _⟩, c4.alloc _⟩, c5.alloc _⟩, hB1.alloc hB1.size _, by simp; omega⟩ ⟨W.heap.size, by omega, World.alloc_heap_new W _, rfl⟩
  case body =>
    rintro l pre x a' W hl _ ⟨⟨⟨⟨⟨⟨hf, cN⟩, c2⟩, c3⟩, c4⟩, c5⟩, hB1, hZ⟩ ⟨Bx, hBx, hRow, rfl⟩ _
    have dN := cN.cell
    have d2 := c2.cell
    have d3 := c3.cell
    have d4 := c4.cell
    have d5 := c5.cell
    have f2 := c2.frozen
    have f3 := c3.frozen
    have f4 := c4.frozen
    have f5 := c5.frozen
    have v0 : W.cell? ⟨Bx, 0, none⟩ = some (.string x.2.name) := by rw [cell_of_row _ _ _ _ 44 (0, 0) hRow]; rfl
    have v1 : W.cell? ⟨Bx, 1, none⟩ = some (.int .u8 (x.2.ty : Int)) := by rw [cell_of_row _ _ _ _ 44 (0, 0) hRow]; rfl
    have v2 : W.cell? ⟨Bx, 2, none⟩ = some (.int .i64 x.2.st) := by rw [cell_of_row _ _ _ _ 44 (0, 0) hRow]; rfl
    by_cases heq : (x.2.name.toList == name.toList) = true
    · gi_wp2
      have FB := four_boxed (.int .i64 x.2.st) (.int .u8 (x.2.ty : Int)) (.int .i64 x.1) (.bool true) c2 c3 c4 c5
      have FK := (four_keeps W w.heap.size (.int .i64 x.2.st) (.int .u8 (x.2.ty : Int)) (.int .i64 x.1) (.bool true)).trans (KeepsOthers.drew _)
      have FL := (four_below (.int .i64 x.2.st) (.int .u8 (x.2.ty : Int)) (.int .i64 x.1) (.bool true) hB1).drew
      have F2 := boxed_drew FB.1
      have F3 := boxed_drew FB.2.1
      have F4 := boxed_drew FB.2.2.1
      have F5 := boxed_drew FB.2.2.2
      unfold four at F2 F3 F4 F5 FK FL
      have FIN := hid (And.intro (FK.from W0.heap.size) (And.intro F2 (And.intro F3 (And.intro F4 (And.intro F5 FL)))))
      clear FB FK FL F2 F3 F4 F5
      gi_region
      all_goals
        gi_wp2
        exact ⟨FIN.out.1, pre, x, ⟨rfl, rfl, hf, heq⟩, FIN.out.2⟩
    · have heq' : (x.2.name.toList == name.toList) = false := by simpa using heq
      gi_wp2
      exact ⟨KeepsFrom.refl _ _, Below.refl _ _, ⟨⟨⟨⟨⟨hf.snoc heq', cN⟩, c2⟩, c3⟩, c4⟩, c5⟩, hB1, hZ⟩
  case done =>
    rintro D ys W hD rfl ⟨⟨⟨⟨⟨⟨hf, cN⟩, c2⟩, c3⟩, c4⟩, c5⟩, hB1, hZ⟩ hK
    have d2 := c2.cell
    have d3 := c3.cell
    have d4 := c4.cell
    have d5 := c5.cell
    have f2 := c2.frozen
    have f3 := c3.frozen
    have f4 := c4.frozen
    have f5 := c5.frozen
    gi_wp2
    have FB := four_boxed (.int .i64 0) (.int .u8 0) (.int .i64 0) (.bool false) c2 c3 c4 c5
    have FK := four_keeps W w.heap.size (.int .i64 0) (.int .u8 0) (.int .i64 0) (.bool false)
    have FL := four_below (.int .i64 0) (.int .u8 0) (.int .i64 0) (.bool false) hB1
    have hK' := FK.same D _ hK rfl
    refine ⟨by simp, .inl ⟨_, _, rfl, run_takeDeferred hK', ?_⟩⟩
    have kk : ∀ B t v, Boxed (four W w.heap.size (.int .i64 0) (.int .u8 0) (.int .i64 0) (.bool false)) B t v → ((four W w.heap.size (.int .i64 0) (.int .u8 0) (.int .i64 0) (.bool false)).putObj D (.deferred none)).cell? ⟨B, 0, none⟩ = some v := fun _ _ _ h => Go.cell_kept h.cell (grownBy_putObj' _ D (.deferred none)) (fun r e => by cases e; exact ⟨_, hK', rfl⟩)
    have e2 := kk _ _ _ FB.1
    have e3 := kk _ _ _ FB.2.1
    have e4 := kk _ _ _ FB.2.2.1
    have e5 := kk _ _ _ FB.2.2.2
    refine ⟨.tuple #[.int .i64 0, .int .u8 0, .int .i64 0, .bool false], ?_, by rw [findT_none hf]; rfl, FL.trans (belowK_b (w := w) (Nat.le_refl _) _ D _ _ (by omega) hK' rfl rfl)⟩
    unfold four at e2 e3 e4 e5
    simp [results, Try.f7, go_sem, e2, e3, e4, e5]
  case stop =>
    rintro D c pre W hD hpre ⟨q, x, ⟨rfl, rfl, hf, hx⟩, c2, c3, c4, c5, hB1⟩ hK
    gi_wp2
    refine ⟨by simp, .inl ⟨_, _, rfl, run_takeDeferred hK, ?_⟩⟩
    have kk : ∀ B t v, Boxed W B t v → (W.putObj D (.deferred none)).cell? ⟨B, 0, none⟩ = some v := fun _ _ _ h => Go.cell_kept h.cell (grownBy_putObj' _ D (.deferred none)) (fun r e => by cases e; exact ⟨_, hK, rfl⟩)
    have e2 := kk _ _ _ c2
    have e3 := kk _ _ _ c3
    have e4 := kk _ _ _ c4
    have e5 := kk _ _ _ c5
    refine ⟨.tuple #[.int .i64 x.2.st, .int .u8 (x.2.ty : Int), .int .i64 x.1, .bool true], ?_, by rw [findT_some hpre hf hx]; rfl, hB1.trans (belowK_b (w := w) (Nat.le_refl _) W D _ _ (by omega) hK rfl rfl)⟩
    simp [results, Try.f7, go_sem, e2, e3, e4, e5]
/-- Find. -/
theorem find (p : Pg) (name : ByteArray) (w : World) (a b c : Value) (hP : PgAt w p a b c) :
    Calls Try.prog 7 #[pgV p a b c, .string name] w fun e W' => e = .returned (.tuple (foV (findT (thingsL p) name))) ∧ Below w.heap.size w W' :=
  (callsIn_wide (n := 6)).1 (find_in Fence.wide 6 trivial trivial trivial rfl (Nat.le_refl _) p name w a b c hP)
end Go.Proofs.Ytilpoiihoikhlaa.Lex
