/-
  What may stand in any place: the contract of atom.
-/
import Derived.Test.YtkieljleopbhoaaDoorAtomsR
import Derived.Test.YtkieljleopbhoaaDoorPrsSame
import Derived.BigQuiet
namespace Go.Proofs.YtkieljleopbhoaaDoor.Lex
open Go.ChangeShapes Go.WideShapes Go.ChangeAt Go.RowKit Go.Joins Go.WideMaps Go.WideElems Go.Maps
/-- What the reader needs besides. -/
structure PEnv (r mp : Nat) (w : World) : Prop where
  tabR : TabR w
  tabJ : TabJ w
  var : ∃ tp pv, w.var? Tryd.prog "strconv.ErrRange" = some #[.iface tp pv]
  am : AtM (fun _ => true) mp 0 w
  far : 8 ≤ r
  ne : mp ≠ r
theorem AtM.kept {b : Nat → Bool} {mp n : Nat} {w W : World} (h : AtM b mp n w) (hb : mp < w.heap.size → W.heap[mp]? = w.heap[mp]?) : AtM b mp n W := by
  obtain ⟨es, clock, e1, e2⟩ := h
  exact ⟨es, clock, (hb (Array.getElem?_eq_some_iff.1 e1).1).trans e1, e2⟩
theorem PEnv.grown {r mp : Nat} {w W : World} (h : PEnv r mp w) (g : w.grownBy W (some r)) : PEnv r mp W := by
  have hf := h.far
  have hb : ∀ k, k < w.heap.size → k ≠ r → W.heap[k]? = w.heap[k]? := fun k hk hkr => g.block k hk (fun e => by injection e with e; exact hkr e)
  refine ⟨?_, ?_, ?_, h.am.kept fun hl => hb mp hl h.ne, hf, h.ne⟩
  · obtain ⟨t, fz, e⟩ := h.tabR
    exact ⟨t, fz, (hb 3 (Array.getElem?_eq_some_iff.1 e).1 (by omega)).trans e⟩
  · obtain ⟨t, fz, e⟩ := h.tabJ
    exact ⟨t, fz, (hb 0 (Array.getElem?_eq_some_iff.1 e).1 (by omega)).trans e⟩
  · obtain ⟨tp, pv, e⟩ := h.var
    refine ⟨tp, pv, ?_⟩
    unfold World.var? at e ⊢
    rw [gRange] at e ⊢
    simp only [Option.bind_some] at e ⊢
    by_cases hl : 7 < w.heap.size
    · rw [hb 7 hl (by omega)]; exact e
    · rw [Array.getElem?_eq_none (by omega)] at e; cases e
theorem PEnv.below {r mp : Nat} {w W : World} (h : PEnv r mp w) (b : Below w.heap.size w W) : PEnv r mp W := h.grown (grown_below b _)
/-- Tokens that may be. -/
def TsOk (ts : List Mark) : Prop := ∀ m ∈ ts, m.kind < 256 ∧ m.text.size ≤ 1048576
theorem TsOk.at {ts : List Mark} (h : TsOk ts) (p : Nat) : (markAt ts p).kind < 256 ∧ (markAt ts p).text.size ≤ 1048576 := by
  unfold markAt
  rw [List.getD_eq_getElem?_getD]
  cases e : ts[p]? with
  | none => exact ⟨by decide, by decide⟩
  | some m => exact h m (List.mem_of_getElem? e)
theorem zeroFn (w : World) : (zeroValue 69).run Tryd.prog w = .ok .nilFunc w := by kernel_rfl
set_option maxRecDepth 100000 in
theorem AtM.look {mp : Nat} {w : World} (h : AtM (fun _ => true) mp 0 w) (m : Mark) (hk : m.kind < 256) (hs : m.text.size ≤ 1048576) :
    (∀ k, k < 8 → aKey k ≠ mkV m) ∧ (Instr.lookup 68 (.map (some mp)) (mkV m) true).run Tryd.prog w = .ok (.tuple #[.nilFunc, .bool false]) w ∨ ∃ k, k < 8 ∧ aKey k = mkV m ∧ (Instr.lookup 68 (.map (some mp)) (mkV m) true).run Tryd.prog w = .ok (.tuple #[aVal k, .bool true]) w := by
  obtain ⟨es, clock, hh, F, _, h1, h2⟩ := h
  obtain ⟨l, hl⟩ := key_is m hk (by unfold maxLen; omega)
  rcases fit_look true keyed81 Tryd.underlying68 (zeroFn w) hh F hl with ⟨e1, e2, _⟩ | ⟨e0, y, e1, e2, e3, _⟩
  · refine .inl ⟨fun k hk' e => ?_, e1⟩
    obtain ⟨x, hx, ex⟩ := h2 k hk' rfl
    exact e2 x hx (ex.trans e)
  · obtain ⟨k, hk', _, ek, ev⟩ := h1 e0 e1
    refine .inr ⟨k, hk', ek.symm.trans e2, ?_⟩
    rw [e3, ev]
    rfl
/-- A function value's call is a call of that function. -/
def Plain (F : FuncId) : Prop := ∀ (a : Array Value) (W : World), (callFunc F a).run Tryd.prog W = .ok (.enter F a) W
/-- What a reader's step answers, handed on from boxes. -/
theorem Post.behind {r mp : Nat} {v : Value} {ts : List Mark} {p q : Nat} {x : Ex} {s : Value} {w W w2 : World} (h : Rdr r mp v ts p w) (b0 : Below w.heap.size w W) (hs : w.heap.size < W.heap.size) (g2 : W.grownBy w2 (some r)) (st : StP (fun b => W.heap.size ≤ b) w2 x s) (h2 : Rdr r mp v ts q w2) (d : Array Value) :
    w.grownBy (w2.setRow w.heap.size d) (some r) ∧ StP (fun b => w.heap.size ≤ b) (w2.setRow w.heap.size d) x s ∧ Rdr r mp v ts q (w2.setRow w.heap.size d) := by
  refine ⟨grown_setRow (grown_on (grown_below b0 _) g2) d, ?_, h.setRow h2 d⟩
  refine StP.carryN (fun b hb hl => setRow_other _ _ _ _ (by have : W.heap.size ≤ b := hb; omega)) (fun b _ hb => ?_) _ x _ (Nat.le_refl _) st
  have : W.heap.size ≤ b := hb
  show w.heap.size ≤ b
  omega
set_option maxRecDepth 100000 in
set_option maxHeartbeats 1000000 in
theorem atom_first (F : FuncId) (hF : Plain F) (r mp : Nat) (v : Value) (ts : List Mark) (p : Nat) (w : World) (h : Rdr r mp v ts p w) (res : Res)
    (hl : ∀ W, w.grownBy W (some r) → (Instr.lookup 68 (.map (some mp)) (mkV (markAt ts p)) true).run Tryd.prog W = .ok (.tuple #[.func (.func F) #[] #[], .bool true]) W)
    (cf : ∀ W, Below w.heap.size w W → Calls Tryd.prog F #[.pointer (some ⟨r, 0, none⟩)] W (Post r mp v ts W res)) :
    Calls Tryd.prog 84 #[.pointer (some ⟨r, 0, none⟩)] w (Post r mp v ts w res) := by
  have b0 := (Below.refl w.heap.size w).alloc (Nat.le_refl _) (.cells #[.int .u8 0, .int .i64 0, .string ⟨#[]⟩, .slice none 0 0] 25)
  have c := fun W hW => peek r mp v ts p W (h.step hW)
  generalize markAt ts p = m at *
  have B0 := hid b0
  have H := hid h
  clear h b0
  go_enter Tryd.func84, Tryd.ntmps84
  go_wp2_with (go_at_call 80; refine (c _ B0.out).mono ?_; rintro e w2 ⟨rfl, b2⟩; have B2 := hid b2; clear b2 c)
  have b3 := (Below.refl w2.heap.size w2).alloc (Nat.le_refl _) (.cells #[.int .u8 (m.kind : Int), .string m.text] 81)
  have h3 := (H.out.step (bstep B0.out B2.out)).step b3
  have x2 : (w2.alloc (.cells #[.int .u8 (m.kind : Int), .string m.text] 81)).cell? ⟨r, 2, none⟩ = some (.map (some mp)) := by rw [cell_of_row _ _ _ _ 71 (0, 0) h3.cell]; rfl
  have hlk := fun n => hl ((w2.alloc (.cells #[.int .u8 (m.kind : Int), .string m.text] 81)).drewN n) (grown_below (below_drewN (bstep (bstep B0.out B2.out) b3) n) _)
  have hl0 := hl (w2.alloc (.cells #[.int .u8 (m.kind : Int), .string m.text] 81)) (grown_below (bstep (bstep B0.out B2.out) b3) _)
  have B3 := hid b3
  clear h3 hl b3
  go_quiet (fail)
  go_wp2
  rw [hF, Oper.upon_enter]
  have B4 := hid (below_drewN (bstep (bstep B0.out B2.out) B3.out) nq)
  have S4 := hid (show w.heap.size < ((w2.alloc (.cells #[.int .u8 (m.kind : Int), .string m.text] 81)).drewN nq).heap.size by
    have := B2.out.size
    simp at this
    show w.heap.size < (w2.alloc (.cells #[.int .u8 (m.kind : Int), .string m.text] 81)).heap.size
    simp
    omega)
  have X4 := hid (show ((w2.alloc (.cells #[.int .u8 (m.kind : Int), .string m.text] 81)).drewN nq).heap[w.heap.size]? = some (.cells #[.int .u8 0, .int .i64 0, .string ⟨#[]⟩, .slice none 0 0] 25 (0, 0)) from
    heap_drew ((B3.out.block _ (by have := B2.out.size; simp at this; omega)).trans ((B2.out.block _ (by simp)).trans (heap_alloc_new w _))) nq)
  generalize (w2.alloc (.cells #[.int .u8 (m.kind : Int), .string m.text] 81)).drewN nq = w4 at *
  refine (cf w4 B4.out).mono ?_
  clear hlk hl0 x2 B0 B2 B3 cf hF
  cases res with
  | error e =>
    obtain ⟨n, q⟩ := e
    rintro e w5 ⟨g5, rfl, h5⟩
    exact ⟨rfl, grown_on (grown_below B4.out _) g5, rfl, h5⟩
  | ok xq =>
    obtain ⟨x, q⟩ := xq
    rintro e w5 ⟨g5, s, rfl, st, h5⟩
    obtain ⟨ao, cap, rfl⟩ := st.form
    have hbx := kept X4.out g5 H.out.lt
    have Q := hid (Post.behind H.out B4.out S4.out g5 st h5 (ex4 x (.slice ao x.args.length cap)))
    clear g5 st h5
    rename_i hK1 hK
    refine hK _ _ ?_
    clear hK
    simp only [Act.put, List.setIfInBounds_toArray, List.set_cons_zero, List.set_cons_succ]
    go_wp2_with (refine wpList_store_row rfl 25 _ _ rfl w.heap.size (ex4 x (.slice ao x.args.length cap)) rfl rfl 25 _ hbx info25 rfl (by simp [Value.oneCell', ex4]) ?_)
    exact bodyPost_ret (results_cell_row rfl _ _ w.heap.size 25 (ex4 x (.slice ao x.args.length cap)) (0, 0) _ rfl (setRow_heap _ _ _ _ _ _ hbx) Tryd.underlying25 rfl info25) rfl ⟨Q.out.1, _, rfl, Q.out.2.1, Q.out.2.2⟩
set_option maxRecDepth 100000 in
set_option maxHeartbeats 1000000 in
theorem atom_second (F : FuncId) (hF : Plain F) (r mp : Nat) (v : Value) (ts : List Mark) (p : Nat) (w : World) (h : Rdr r mp v ts p w) (res : Res)
    (hl : ∀ W, w.grownBy W (some r) → (Instr.lookup 68 (.map (some mp)) (mkV (markAt ts p)) true).run Tryd.prog W = .ok (.tuple #[.nilFunc, .bool false]) W)
    (hl' : ∀ W, w.grownBy W (some r) → (Instr.lookup 68 (.map (some mp)) (mkV ⟨(markAt ts p).kind, ⟨#[]⟩⟩) true).run Tryd.prog W = .ok (.tuple #[.func (.func F) #[] #[], .bool true]) W)
    (cf : ∀ W, Below w.heap.size w W → Calls Tryd.prog F #[.pointer (some ⟨r, 0, none⟩)] W (Post r mp v ts W res)) :
    Calls Tryd.prog 84 #[.pointer (some ⟨r, 0, none⟩)] w (Post r mp v ts w res) := by
  have b0 := (Below.refl w.heap.size w).alloc (Nat.le_refl _) (.cells #[.int .u8 0, .int .i64 0, .string ⟨#[]⟩, .slice none 0 0] 25)
  have c := fun W hW => peek r mp v ts p W (h.step hW)
  generalize markAt ts p = m at *
  have B0 := hid b0
  have H := hid h
  clear h b0
  go_enter Tryd.func84, Tryd.ntmps84
  go_wp2_with (go_at_call 80; refine (c _ B0.out).mono ?_; rintro e w2 ⟨rfl, b2⟩; have B2 := hid b2; clear b2 c)
  have b3 := (Below.refl w2.heap.size w2).alloc (Nat.le_refl _) (.cells #[.int .u8 (m.kind : Int), .string m.text] 81)
  have h3 := (H.out.step (bstep B0.out B2.out)).step b3
  have x2 : (w2.alloc (.cells #[.int .u8 (m.kind : Int), .string m.text] 81)).cell? ⟨r, 2, none⟩ = some (.map (some mp)) := by rw [cell_of_row _ _ _ _ 71 (0, 0) h3.cell]; rfl
  have hlk := fun n => hl ((w2.alloc (.cells #[.int .u8 (m.kind : Int), .string m.text] 81)).drewN n) (grown_below (below_drewN (bstep (bstep B0.out B2.out) b3) n) _)
  have hl0 := hl (w2.alloc (.cells #[.int .u8 (m.kind : Int), .string m.text] 81)) (grown_below (bstep (bstep B0.out B2.out) b3) _)
  have hlk' := fun n => hl' ((w2.alloc (.cells #[.int .u8 (m.kind : Int), .string m.text] 81)).drewN n) (grown_below (below_drewN (bstep (bstep B0.out B2.out) b3) n) _)
  have B3 := hid b3
  clear h3 hl hl' b3
  go_quiet (fail)
  go_wp2
  generalize nq = n1 at *
  have x2' : ((w2.alloc (.cells #[.int .u8 (m.kind : Int), .string m.text] 81)).drewN n1).cell? ⟨r, 2, none⟩ = some (.map (some mp)) := x2
  go_quiet (fail)
  go_wp2
  rw [hF, Oper.upon_enter]
  have B4 := hid (below_drewN (bstep (bstep B0.out B2.out) B3.out) (n1 + nq))
  have S4 := hid (show w.heap.size < ((w2.alloc (.cells #[.int .u8 (m.kind : Int), .string m.text] 81)).drewN (n1 + nq)).heap.size by
    have := B2.out.size
    simp at this
    show w.heap.size < (w2.alloc (.cells #[.int .u8 (m.kind : Int), .string m.text] 81)).heap.size
    simp
    omega)
  have X4 := hid (show ((w2.alloc (.cells #[.int .u8 (m.kind : Int), .string m.text] 81)).drewN (n1 + nq)).heap[w.heap.size]? = some (.cells #[.int .u8 0, .int .i64 0, .string ⟨#[]⟩, .slice none 0 0] 25 (0, 0)) from
    heap_drew ((B3.out.block _ (by have := B2.out.size; simp at this; omega)).trans ((B2.out.block _ (by simp)).trans (heap_alloc_new w _))) (n1 + nq))
  generalize (w2.alloc (.cells #[.int .u8 (m.kind : Int), .string m.text] 81)).drewN (n1 + nq) = w4 at *
  refine (cf w4 B4.out).mono ?_
  clear hlk hl0 x2 B0 B2 B3 cf hF
  cases res with
  | error e =>
    obtain ⟨n, q⟩ := e
    rintro e w5 ⟨g5, rfl, h5⟩
    exact ⟨rfl, grown_on (grown_below B4.out _) g5, rfl, h5⟩
  | ok xq =>
    obtain ⟨x, q⟩ := xq
    rintro e w5 ⟨g5, s, rfl, st, h5⟩
    obtain ⟨ao, cap, rfl⟩ := st.form
    have hbx := kept X4.out g5 H.out.lt
    have Q := hid (Post.behind H.out B4.out S4.out g5 st h5 (ex4 x (.slice ao x.args.length cap)))
    clear g5 st h5
    rename_i hK1 hK
    refine hK _ _ ?_
    clear hK
    simp only [Act.put, List.setIfInBounds_toArray, List.set_cons_zero, List.set_cons_succ]
    go_wp2_with (refine wpList_store_row rfl 25 _ _ rfl w.heap.size (ex4 x (.slice ao x.args.length cap)) rfl rfl 25 _ hbx info25 rfl (by simp [Value.oneCell', ex4]) ?_)
    exact bodyPost_ret (results_cell_row rfl _ _ w.heap.size 25 (ex4 x (.slice ao x.args.length cap)) (0, 0) _ rfl (setRow_heap _ _ _ _ _ _ hbx) Tryd.underlying25 rfl info25) rfl ⟨Q.out.1, _, rfl, Q.out.2.1, Q.out.2.2⟩
set_option maxRecDepth 100000 in
set_option maxHeartbeats 1000000 in
theorem atom_none (r mp : Nat) (v : Value) (ts : List Mark) (p : Nat) (w : World) (h : Rdr r mp v ts p w) 
    (hl : ∀ W, w.grownBy W (some r) → (Instr.lookup 68 (.map (some mp)) (mkV (markAt ts p)) true).run Tryd.prog W = .ok (.tuple #[.nilFunc, .bool false]) W)
    (hl' : ∀ W, w.grownBy W (some r) → (Instr.lookup 68 (.map (some mp)) (mkV ⟨(markAt ts p).kind, ⟨#[]⟩⟩) true).run Tryd.prog W = .ok (.tuple #[.nilFunc, .bool false]) W) :
    Calls Tryd.prog 84 #[.pointer (some ⟨r, 0, none⟩)] w (Post r mp v ts w (.error (5, p))) := by
  have b0 := (Below.refl w.heap.size w).alloc (Nat.le_refl _) (.cells #[.int .u8 0, .int .i64 0, .string ⟨#[]⟩, .slice none 0 0] 25)
  have c := fun W hW => peek r mp v ts p W (h.step hW)
  generalize markAt ts p = m at *
  have B0 := hid b0
  have H := hid h
  clear h b0
  go_enter Tryd.func84, Tryd.ntmps84
  go_wp2_with (go_at_call 80; refine (c _ B0.out).mono ?_; rintro e w2 ⟨rfl, b2⟩; have B2 := hid b2; clear b2 c)
  have b3 := (Below.refl w2.heap.size w2).alloc (Nat.le_refl _) (.cells #[.int .u8 (m.kind : Int), .string m.text] 81)
  have h3 := (H.out.step (bstep B0.out B2.out)).step b3
  have x2 : (w2.alloc (.cells #[.int .u8 (m.kind : Int), .string m.text] 81)).cell? ⟨r, 2, none⟩ = some (.map (some mp)) := by rw [cell_of_row _ _ _ _ 71 (0, 0) h3.cell]; rfl
  have hlk := fun n => hl ((w2.alloc (.cells #[.int .u8 (m.kind : Int), .string m.text] 81)).drewN n) (grown_below (below_drewN (bstep (bstep B0.out B2.out) b3) n) _)
  have hl0 := hl (w2.alloc (.cells #[.int .u8 (m.kind : Int), .string m.text] 81)) (grown_below (bstep (bstep B0.out B2.out) b3) _)
  have hlk' := fun n => hl' ((w2.alloc (.cells #[.int .u8 (m.kind : Int), .string m.text] 81)).drewN n) (grown_below (below_drewN (bstep (bstep B0.out B2.out) b3) n) _)
  have B3 := hid b3
  clear h3 hl hl' b3
  go_quiet (fail)
  go_wp2
  generalize nq = n1 at *
  have x2' : ((w2.alloc (.cells #[.int .u8 (m.kind : Int), .string m.text] 81)).drewN n1).cell? ⟨r, 2, none⟩ = some (.map (some mp)) := x2
  go_quiet (fail)
  go_wp2
  have B4 := below_drewN (bstep (bstep B0.out B2.out) B3.out) (n1 + nq)
  exact ⟨rfl, grown_below B4 _, rfl, H.out.step B4⟩
end Go.Proofs.YtkieljleopbhoaaDoor.Lex
