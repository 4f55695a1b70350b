/-
  The whole of what is read: a panic is caught, and told as an error.
-/
import Derived.Test.YtkieljleopbhoaaDoorPartIf
import Derived.Recover
namespace Go.Proofs.YtkieljleopbhoaaDoor.Lex
open Go.ChangeShapes Go.WideShapes Go.ChangeAt Go.RowKit Go.Joins Go.WideMaps Go.WideElems Go.Maps
set_option maxRecDepth 100000 in
theorem catch_panicking (p : Addr) (x e : Int) (older : List PanicEntry) (w : World) (hc : w.cell? p = some (.int .i64 x)) (hz : w.frozen? p = false) :
    CallsD Tryd.prog 64 #[.pointer (some p)] (.panicking ({ v := .iface 28 (.int .i64 e), recovered := false } :: older)) w fun en u' w' =>
      en = .returned (.tuple #[]) ∧ u' = .panicking ({ v := .iface 28 (.int .i64 e), recovered := true } :: older) ∧ w' = w.setCell p (.int .i64 e) := by
  have hta : ∀ W : World, (Instr.typeAssert (.iface 28 (.int .i64 e)) 20 28 true).run Tryd.prog W = .ok (.tuple #[.int .i64 e, .bool true]) W := fun W => by kernel_rfl
  refine callsD_of_wpS Tryd.func64 rfl fun c₀ cs hu => ?_
  apply wpS_seq
  apply wpS_region
  simp [wpOpsS, go_sem, recoverD, hu, Tryd.ntmps64, Exit.thenS, hta]
  apply wpS_seq
  apply wpS_region
  simp [wpOpsS, go_sem, Exit.thenS]
  refine wpS_cond (t := true) (by simp [Act.eval, Array.replicate]) ?_
  simp only [if_true]
  apply wpS_region
  simp [wpOpsS, go_sem, hc, hz, bodyPostS, results, Tryd.results64]
set_option maxRecDepth 100000 in
theorem catch_idle (p : Addr) (w : World) :
    CallsD Tryd.prog 64 #[.pointer (some p)] .returning w fun e u' w' => e = .returned (.tuple #[]) ∧ u' = .returning ∧ w' = w := by
  have hta : ∀ W : World, (Instr.typeAssert .nilIface 20 28 true).run Tryd.prog W = .ok (.tuple #[.int .i64 0, .bool false]) W := fun W => by kernel_rfl
  refine callsD_of_wpS Tryd.func64 rfl fun c₀ cs hu => ?_
  apply wpS_seq
  apply wpS_region
  simp [wpOpsS, go_sem, recoverD, hu, Tryd.ntmps64, Exit.thenS, hta]
  apply wpS_seq
  apply wpS_region
  simp [wpOpsS, go_sem, Exit.thenS]
  refine wpS_cond (t := false) (by simp [Act.eval, Array.replicate]) ?_
  simp only [Bool.false_eq_true, if_false]
  refine wpS_of_wp (wp_skip ?_)
  cases c₀
  simp_all [bodyPostS, results, Tryd.results64]
theorem Rdr.other {r mp : Nat} {v : Value} {ts : List Mark} {p q : Nat} {w W W' : World} (h : Rdr r mp v ts p w) (h2 : Rdr r mp v ts q W) {b : Nat} (hb : w.heap.size ≤ b) (ho : ∀ k, k ≠ b → W'.heap[k]? = W.heap[k]?) : Rdr r mp v ts q W' := by
  have hlt := h.lt
  refine ⟨(ho r (by omega)).trans h2.cell, ?_, h2.le, h2.few, h2.far, h2.own⟩
  obtain ⟨a, cap, rfl, hc⟩ := h.toks
  by_cases h0 : ts.length = 0
  · obtain ⟨a2, cap2, e2, _⟩ := h2.toks
    exact ⟨a2, cap2, e2, .inl h0⟩
  · obtain ⟨g, o, hg, hcc⟩ := hc.resolve_left h0
    refine h2.toks.carry fun a' n c' ev hl => ho _ ?_
    intro he
    injection ev with e1 e2 e3
    rw [hg] at e1
    injection e1 with e1
    have hlt2 : g < w.heap.size := World.block_lt_of_cell? w ⟨g, o + 0 * 3, none⟩ (hcc 0 (by omega)).1
    rw [← e1] at he
    simp only at he
    omega
theorem set_far (W : World) (b : Nat) (u : Value) : ∀ k, k ≠ b → (W.setCell ⟨b, 0, none⟩ u).heap[k]? = W.heap[k]? := fun k hk => Below.heap_setCell W ⟨b, 0, none⟩ u k hk
theorem grown_set {w W : World} {r : Option Nat} (g : w.grownBy W r) {b : Nat} (hb : w.heap.size ≤ b) (u : Value) : w.grownBy (W.setCell ⟨b, 0, none⟩ u) r :=
  ⟨g.os, g.tape, g.output, by have := g.size; simpa [World.setCell] using this, fun k hk hkr => (set_far W b u k (by omega)).trans (g.block k hk hkr)⟩
/-- What reading answers, the panics caught. -/
def PostW (r mp : Nat) (v : Value) (ts : List Mark) (w : World) (res : Res) (e : Ending) (w' : World) : Prop :=
  w.grownBy w' (some r) ∧ match res with
    | .ok (x, q) => ∃ s, e = .returned (.tuple #[exV x s, .int .i64 0]) ∧ StP (fun b => w.heap.size ≤ b) w' x s ∧ Rdr r mp v ts q w'
    | .error (n, q) => e = .returned (.tuple #[.agg c25, .int .i64 (n : Int)]) ∧ Rdr r mp v ts q w'
set_option maxRecDepth 100000 in
set_option maxHeartbeats 1000000 in
theorem whole_bad (r mp : Nat) (v : Value) (ts : List Mark) (p n q : Nat) (w : World) (h : Rdr r mp v ts p w) (cp : ∀ W, w.grownBy W (some r) → Rdr r mp v ts p W → Calls Tryd.prog 65 #[.pointer (some ⟨r, 0, none⟩), .int .i64 0] W (Post r mp v ts W (.error (n, q)))) : Calls Tryd.prog 36 #[.pointer (some ⟨r, 0, none⟩)] w (PostW r mp v ts w (.error (n, q))) := by
  have hmf : ∀ (fn : Fn) (first cap : Array Value) (w : World), (Instr.makeFunc fn first cap).run Tryd.prog w = .ok (.func fn first cap) w := fun _ _ _ _ => rfl
  have b0 := (Below.refl w.heap.size w).alloc (Nat.le_refl _) (.cells c25 25)
  have b1 := bstep b0 ((Below.refl (w.alloc (.cells c25 25)).heap.size (w.alloc (.cells c25 25))).alloc (Nat.le_refl _) (.cells #[.int .i64 0] 28))
  have cp1 := cp _ (grown_below b1 _) (h.step b1)
  have B1 := hid b1
  have H := hid h
  clear b0 b1 cp h
  go_enter_defers Tryd.func36, Tryd.ntmps36
  go_wp2_with (go_at_call 65; refine cp1.mono ?_; rintro e w2 ⟨g2, rfl, h2⟩; have G2 := hid g2; have H2 := hid h2; clear g2 h2 cp1)
  have X1 := kept (W := (w.alloc (.cells c25 25)).alloc (.cells #[.int .i64 0] 28)) (k := w.heap.size + 1) (o := .cells #[.int .i64 0] 28 (0, 0)) (by have := heap_alloc_new (w.alloc (.cells c25 25)) (.cells #[.int .i64 0] 28); simpa using this) G2.out (by have := H.out.lt; omega)
  have X0 := kept (W := (w.alloc (.cells c25 25)).alloc (.cells #[.int .i64 0] 28)) (k := w.heap.size) (o := .cells c25 25 (0, 0)) (by rw [Below.heap_alloc _ _ _ (by simp)]; exact heap_alloc_new w _) G2.out H.out.lt
  have hc : w2.cell? ⟨w.heap.size + 1, 0, none⟩ = some (.int .i64 0) := by rw [cell_of_row _ _ _ _ 28 (0, 0) X1]; rfl
  have hz : w2.frozen? ⟨w.heap.size + 1, 0, none⟩ = false := frozen_of_row _ _ _ _ _ X1
  refine leaves_cons (f := 64) (args := #[.pointer (some ⟨w.heap.size + 1, 0, none⟩)]) (by simp) (by simp [go_sem]) ?_
  refine (catch_panicking ⟨w.heap.size + 1, 0, none⟩ 0 (n : Int) [] w2 hc hz).mono ?_
  rintro e u' w'' ⟨rfl, rfl, rfl⟩
  have Y0 : (w2.setCell ⟨w.heap.size + 1, 0, none⟩ (.int .i64 (n : Int))).heap[w.heap.size]? = some (.cells c25 25 (0, 0)) := by rw [Below.heap_setCell _ _ _ _ (by show w.heap.size ≠ w.heap.size + 1; omega)]; exact X0
  have Y1 : (w2.setCell ⟨w.heap.size + 1, 0, none⟩ (.int .i64 (n : Int))).cell? ⟨w.heap.size + 1, 0, none⟩ = some (.int .i64 (n : Int)) := World.cell?_setCell_same _ _ _ hc
  have z0 : w2.cell? ⟨w.heap.size, 0, none⟩ = some (.int .u8 0) := by rw [cell_of_row _ _ _ _ 25 (0, 0) X0]; rfl
  have z1 : w2.cell? ⟨w.heap.size, 1, none⟩ = some (.int .i64 0) := by rw [cell_of_row _ _ _ _ 25 (0, 0) X0]; rfl
  have z2 : w2.cell? ⟨w.heap.size, 2, none⟩ = some (.string ⟨#[]⟩) := by rw [cell_of_row _ _ _ _ 25 (0, 0) X0]; rfl
  have z3 : w2.cell? ⟨w.heap.size, 3, none⟩ = some (.slice none 0 0) := by rw [cell_of_row _ _ _ _ 25 (0, 0) X0]; rfl
  have R2 := H.out.other H2.out (b := w.heap.size + 1) (by omega) (set_far w2 _ (.int .i64 (n : Int)))
  have G3 := grown_set (grown_on (grown_below B1.out _) G2.out) (b := w.heap.size + 1) (by omega) (.int .i64 (n : Int))
  simp [Leaves, settle, results, Tryd.results36, go_sem, z0, z1, z2, z3, Y1]
  exact ⟨G3, rfl, R2⟩
set_option maxRecDepth 100000 in
set_option maxHeartbeats 1000000 in
theorem whole_ok (r mp : Nat) (v : Value) (ts : List Mark) (p q : Nat) (x : Ex) (w : World) (h : Rdr r mp v ts p w) (cp : ∀ W, w.grownBy W (some r) → Rdr r mp v ts p W → Calls Tryd.prog 65 #[.pointer (some ⟨r, 0, none⟩), .int .i64 0] W (Post r mp v ts W (.ok (x, q)))) : Calls Tryd.prog 36 #[.pointer (some ⟨r, 0, none⟩)] w (PostW r mp v ts w (.ok (x, q))) := by
  have hmf : ∀ (fn : Fn) (first cap : Array Value) (w : World), (Instr.makeFunc fn first cap).run Tryd.prog w = .ok (.func fn first cap) w := fun _ _ _ _ => rfl
  have b0 := (Below.refl w.heap.size w).alloc (Nat.le_refl _) (.cells c25 25)
  have b1 := bstep b0 ((Below.refl (w.alloc (.cells c25 25)).heap.size (w.alloc (.cells c25 25))).alloc (Nat.le_refl _) (.cells #[.int .i64 0] 28))
  have cp1 := cp _ (grown_below b1 _) (h.step b1)
  have B1 := hid b1
  have H := hid h
  clear b0 b1 cp h
  go_enter_defers Tryd.func36, Tryd.ntmps36
  go_wp2_with (go_at_call 99)
  go_at_call 65
  refine cp1.mono ?_
  rintro e w2 ⟨g2, s, rfl, st, h2⟩
  obtain ⟨ao, cap, rfl⟩ := st.form
  have X1 := kept (W := (w.alloc (.cells c25 25)).alloc (.cells #[.int .i64 0] 28)) (k := w.heap.size + 1) (o := .cells #[.int .i64 0] 28 (0, 0)) (by have := heap_alloc_new (w.alloc (.cells c25 25)) (.cells #[.int .i64 0] 28); simpa using this) g2 (by have := H.out.lt; omega)
  have X0 := kept (W := (w.alloc (.cells c25 25)).alloc (.cells #[.int .i64 0] 28)) (k := w.heap.size) (o := .cells c25 25 (0, 0)) (by rw [Below.heap_alloc _ _ _ (by simp)]; exact heap_alloc_new w _) g2 H.out.lt
  have X1' := (setRow_other w2 w.heap.size _ (ex4 x (.slice ao x.args.length cap)) (show w.heap.size + 1 ≠ w.heap.size by omega)).trans X1
  have y0 : (w2.setRow w.heap.size (ex4 x (.slice ao x.args.length cap))).cell? ⟨w.heap.size + 1, 0, none⟩ = some (.int .i64 0) := by (rw [cell_of_row _ _ _ _ 28 (0, 0) X1']; rfl)
  have y1 : (w2.setRow w.heap.size (ex4 x (.slice ao x.args.length cap))).frozen? ⟨w.heap.size + 1, 0, none⟩ = false := frozen_of_row _ _ _ _ _ X1'
  have G2 := hid g2
  have H2 := hid h2
  have ST := hid st
  clear g2 h2 st cp1
  go_wp2_with (refine wpList_store_row rfl 25 _ _ rfl w.heap.size (ex4 x (.slice ao x.args.length cap)) rfl rfl 25 _ X0 info25 rfl (by simp [Value.oneCell', ex4]) ?_)
  have Y0 : ((w2.setRow w.heap.size (ex4 x (.slice ao x.args.length cap))).setCell ⟨w.heap.size + 1, 0, none⟩ (.int .i64 0)).heap[w.heap.size]? = some (.cells (ex4 x (.slice ao x.args.length cap)) 25 (0, 0)) := by rw [Below.heap_setCell _ _ _ _ (by show w.heap.size ≠ w.heap.size + 1; omega)]; exact setRow_heap _ _ _ _ _ _ X0
  have Y1 : ((w2.setRow w.heap.size (ex4 x (.slice ao x.args.length cap))).setCell ⟨w.heap.size + 1, 0, none⟩ (.int .i64 0)).cell? ⟨w.heap.size + 1, 0, none⟩ = some (.int .i64 0) := World.cell?_setCell_same _ _ _ y0
  have R2 := H.out.other (H.out.setRow H2.out (ex4 x (.slice ao x.args.length cap))) (b := w.heap.size + 1) (by omega) (set_far (w2.setRow w.heap.size (ex4 x (.slice ao x.args.length cap))) _ (.int .i64 0))
  have G3 := grown_set (grown_setRow (grown_on (grown_below B1.out _) G2.out) (ex4 x (.slice ao x.args.length cap))) (b := w.heap.size + 1) (by omega) (.int .i64 0)
  have S3 : StP (fun b => w.heap.size ≤ b) ((w2.setRow w.heap.size (ex4 x (.slice ao x.args.length cap))).setCell ⟨w.heap.size + 1, 0, none⟩ (.int .i64 0)) x (.slice ao x.args.length cap) := by
    refine StP.carryN (fun b hb hl => ?_) (fun b _ hb => ?_) _ x _ (Nat.le_refl _) ST.out
    · simp at hb
      exact (set_far _ _ _ b (by omega)).trans (setRow_other _ _ _ _ (by omega))
    · simp at hb
      show w.heap.size ≤ b
      omega
  clear X0 X1 X1' y0 y1
  generalize (w2.setRow w.heap.size (ex4 x (.slice ao x.args.length cap))).setCell ⟨w.heap.size + 1, 0, none⟩ (.int .i64 0) = w4 at *
  refine leaves_cons (f := 64) (args := #[.pointer (some ⟨w.heap.size + 1, 0, none⟩)]) (by simp) (by simp [go_sem]) ?_
  refine (catch_idle ⟨w.heap.size + 1, 0, none⟩ w4).mono ?_
  rintro e u' w'' ⟨rfl, rfl, rfl⟩
  have z0 : w''.cell? ⟨w.heap.size, 0, none⟩ = some (.int .u8 (x.op : Int)) := by rw [cell_of_row _ _ _ _ 25 (0, 0) Y0]; rfl
  have z1 : w''.cell? ⟨w.heap.size, 1, none⟩ = some (.int .i64 x.n) := by rw [cell_of_row _ _ _ _ 25 (0, 0) Y0]; rfl
  have z2 : w''.cell? ⟨w.heap.size, 2, none⟩ = some (.string x.name) := by rw [cell_of_row _ _ _ _ 25 (0, 0) Y0]; rfl
  have z3 : w''.cell? ⟨w.heap.size, 3, none⟩ = some (.slice ao x.args.length cap) := by rw [cell_of_row _ _ _ _ 25 (0, 0) Y0]; rfl
  simp [Leaves, settle, results, Tryd.results36, go_sem, z0, z1, z2, z3, Y1]
  exact ⟨G3, _, rfl, S3, R2⟩
/-- whole. -/
theorem whole (r mp : Nat) (v : Value) (ts : List Mark) (hT : TsOk ts) (p : Nat) (w : World) (h : Rdr r mp v ts p w) (E : PEnv r mp w) : Calls Tryd.prog 36 #[.pointer (some ⟨r, 0, none⟩)] w (PostW r mp v ts w (P ts 0 p)) := by
  have cp := fun W (g : w.grownBy W (some r)) (hr : Rdr r mp v ts p W) => part_any r mp v ts hT (ts.length + 1) p 0 W (by omega) (by omega) hr (E.grown g)
  cases e : P ts 0 p with
  | error nq =>
    obtain ⟨n, q⟩ := nq
    rw [e] at cp
    exact whole_bad r mp v ts p n q w h cp
  | ok xq =>
    obtain ⟨x, q⟩ := xq
    rw [e] at cp
    exact whole_ok r mp v ts p q x w h cp
end Go.Proofs.YtkieljleopbhoaaDoor.Lex
