/-
  What is worked out, from some token on: the contract of Parse.
  The contract of Parse, whatever the tokens.
  The document's own: of how many parts an operator is, how great it is, whether it may be.
  Ranks, signs, digits: the contracts on both sides.
  The contracts of written and inPlace.
-/
import Derived.Test.YtkieljleopbhoaaDoorU4
import Derived.Test.YtkieljleopbhoaaDoorU3
import Derived.BigQuiet
import Derived.Test.YtkieljleopbhoaaDoorU2
import Derived.Lib.AppendIntMem
namespace Go.Proofs.YtkieljleopbhoaaDoor.Lex
open Go.ChangeShapes Go.WideShapes Go.ChangeAt Go.RowKit Go.Joins Go.WideMaps Go.WideElems Go.Maps
theorem results_row_tmp2 {fn : Func} {p u u' : Tmp} {ty : TypeId} {P : Program} (h : fn.results = #[.cell p ty, .tmp u, .tmp u']) (tmps : Array Value) (w : World) (g : Nat) (cs : Array Value)
    (hp : tmps.getD p undef = .pointer (some ⟨g, 0, none⟩)) (hl : (loadVar ty ⟨g, 0, none⟩).run P w = .ok (.agg cs) w) :
    (results fn tmps).run P w = .ok (.tuple #[.agg cs, tmps.getD u undef, tmps.getD u' undef]) w := by
  have hp' : tmps[p]?.getD undef = .pointer (some ⟨g, 0, none⟩) := by simpa using hp
  simp [results, h, hp', asAddr, hl]
/-- What reading needs. -/
structure REnv (w : World) : Prop where
  tabR : TabR w
  tabJ : TabJ w
  var : ∃ tp pv, w.var? Tryd.prog "strconv.ErrRange" = some #[.iface tp pv]
theorem REnv.below {w W : World} (h : REnv w) (b : Below w.heap.size w W) : REnv W := by
  obtain ⟨tp, pv, e⟩ := h.var
  exact ⟨h.tabR.below b, h.tabJ.below b, tp, pv, varAt e b⟩
theorem REnv.size {w : World} (h : REnv w) : 8 ≤ w.heap.size := by
  obtain ⟨tp, pv, e⟩ := h.var
  unfold World.var? at e
  rw [gRange] at e
  simp only [Option.bind_some] at e
  by_cases hl : 7 < w.heap.size
  · omega
  · rw [Array.getElem?_eq_none (by omega)] at e; cases e
/-- What Parse answers. -/
def PostP (w : World) (p : Nat) (res : Res) (e : Ending) (w' : World) : Prop :=
  Below w.heap.size w w' ∧ match res with
    | .error (n, q) => e = .returned (.tuple #[.agg c25, .int .i64 (q : Int), .int .i64 (n : Int)])
    | .ok (x, q) => (chk x = true ∧ ∃ s, e = .returned (.tuple #[exV x s, .int .i64 (q : Int), .int .i64 0]) ∧ StP (fun b => w.heap.size ≤ b) w' x s) ∨ (chk x = false ∧ e = .returned (.tuple #[.agg c25, .int .i64 (p : Int), .int .i64 3]))
set_option maxRecDepth 100000 in
set_option maxHeartbeats 1000000 in
theorem parse_arg (v : Value) (a : Option Addr) (n cap : Nat) (hv : v = .slice a n cap) (i : Int) (h : i < 0 ∨ (n : Int) < i) (w : World) : Calls Tryd.prog 19 #[v, .int .i64 i] w fun e w' => e = .returned (.tuple #[.agg c25, .int .i64 0, .int .i64 1]) ∧ Below w.heap.size w w' := by
  subst hv
  have B0 := hid ((Below.refl w.heap.size w).alloc (Nat.le_refl _) (.cells c25 25))
  have X0 := heap_alloc_new w (.cells c25 25)
  by_cases h0 : i < 0
  · clear h
    go_enter Tryd.func19, Tryd.ntmps19
    go_wp2_with (refine wpList_store_row rfl 25 _ _ rfl w.heap.size c25 rfl rfl 25 _ X0 info25 rfl (by simp [Value.oneCell']) ?_)
    exact bodyPost_ret (results_row_tmp2 rfl _ _ w.heap.size c25 rfl (run_loadVar_row _ _ 25 25 c25 (0, 0) _ (setRow_heap _ _ _ _ _ _ X0) Tryd.underlying25 rfl info25)) rfl ⟨rfl, below_row B0.out B0.out.size (Nat.le_refl _) _⟩
  · have h1 : (n : Int) < i := h.resolve_left h0
    clear h
    go_enter Tryd.func19, Tryd.ntmps19
    go_wp2_with (refine wpList_store_row rfl 25 _ _ rfl w.heap.size c25 rfl rfl 25 _ X0 info25 rfl (by simp [Value.oneCell']) ?_)
    exact bodyPost_ret (results_row_tmp2 rfl _ _ w.heap.size c25 rfl (run_loadVar_row _ _ 25 25 c25 (0, 0) _ (setRow_heap _ _ _ _ _ _ X0) Tryd.underlying25 rfl info25)) rfl ⟨rfl, below_row B0.out B0.out.size (Nat.le_refl _) _⟩
/-- The reader, made. -/
theorem whole_new {w : World} {ts : List Mark} {p : Nat} {v : Value} (E : REnv w) (hT : TsOk ts) (hp : p ≤ ts.length) (hfew : ts.length ≤ 140737488355328) (b0 : Below w.heap.size w (w.alloc (.cells c25 25))) (hM : MarksAt w v ts) (hv : ∀ a n c, v = .slice (some a) n c → a.block < w.heap.size) {w2 : World} (b2 : Below (w.alloc (.cells c25 25)).heap.size (w.alloc (.cells c25 25)) w2) (A2 : AtM (fun _ => true) (w.alloc (.cells c25 25)).heap.size 0 w2) :
    Calls Tryd.prog 36 #[.pointer (some ⟨w2.heap.size, 0, none⟩)] (w2.alloc (.cells #[v, .int .i64 (p : Int), .map (some (w.alloc (.cells c25 25)).heap.size)] 71)) (PostW w2.heap.size (w.alloc (.cells c25 25)).heap.size v ts (w2.alloc (.cells #[v, .int .i64 (p : Int), .map (some (w.alloc (.cells c25 25)).heap.size)] 71)) (P ts 0 p)) := by
  have b3 := (Below.refl w2.heap.size w2).alloc (Nat.le_refl _) (.cells #[v, .int .i64 (p : Int), .map (some (w.alloc (.cells c25 25)).heap.size)] 71)
  have b12 := bstep b0 b2
  have b13 := bstep b12 b3
  have E3 := E.below b13
  have hmp : (w.alloc (.cells c25 25)).heap.size < w2.heap.size := by
    obtain ⟨es, cl, e, _⟩ := A2
    exact (Array.getElem?_eq_some_iff.1 e).1
  have hs := E.size
  have hs2 := b12.size
  have hM2 : MarksAt w2 v ts := hM.carry fun a n c _ hlt => b12.block a.block hlt
  refine whole w2.heap.size (w.alloc (.cells c25 25)).heap.size v ts hT p _ ⟨heap_alloc_new w2 _, hM2.carry fun a n c _ hlt => b3.block a.block hlt, hp, hfew, fun a n c e => ?_, Nat.ne_of_lt hmp⟩ ⟨E3.tabR, E3.tabJ, E3.var, A2.kept fun hl => b3.block _ hl, by omega, Nat.ne_of_lt hmp⟩
  have := hv a n c e
  omega
theorem kept0 {W W' : World} {r k : Nat} {o : Obj} (h : W.heap[k]? = some o) (g : W.grownBy W' (some r)) (hk : k ≠ r) : W'.heap[k]? = some o :=
  (g.block k (Array.getElem?_eq_some_iff.1 h).1 (fun e => by injection e with e; exact hk e)).trans h
theorem below_of_grown {w W W' : World} {r : Nat} (b : Below w.heap.size w W) (g : W.grownBy W' (some r)) (hr : w.heap.size ≤ r) : Below w.heap.size w W' :=
  ⟨g.os.trans b.os, g.tape.trans b.tape, g.output.trans b.output, Nat.le_trans b.size g.size, fun k hk => (g.block k (Nat.lt_of_lt_of_le hk b.size) (fun e => by injection e; omega)).trans (b.block k hk)⟩
set_option maxRecDepth 100000 in
set_option maxHeartbeats 1000000 in
theorem parse_bad {w : World} (v : Value) (ts : List Mark) (p : Nat) (hM : MarksAt w v ts) (hv : ∀ a n c, v = .slice (some a) n c → a.block < w.heap.size) (E : REnv w) (hT : TsOk ts) (hp : p ≤ ts.length) (hfew : ts.length ≤ 140737488355328) (n q : Nat) (hP : P ts 0 p = .error (n, q)) (hn : n ≠ 0) : Calls Tryd.prog 19 #[v, .int .i64 (p : Int)] w (PostP w p (.error (n, q))) := by
  have hM0 := hM
  obtain ⟨a, cap0, rfl, hm⟩ := hM
  have b0 := (Below.refl w.heap.size w).alloc (Nat.le_refl _) (.cells c25 25)
  have ca := atoms (w.alloc (.cells c25 25))
  have cw : ∀ w2, Below (w.alloc (.cells c25 25)).heap.size (w.alloc (.cells c25 25)) w2 → AtM (fun _ => true) (w.alloc (.cells c25 25)).heap.size 0 w2 → Calls Tryd.prog 36 #[.pointer (some ⟨w2.heap.size, 0, none⟩)] (w2.alloc (.cells #[.slice a ts.length cap0, .int .i64 (p : Int), .map (some (w.alloc (.cells c25 25)).heap.size)] 71)) (PostW w2.heap.size (w.alloc (.cells c25 25)).heap.size (.slice a ts.length cap0) ts (w2.alloc (.cells #[.slice a ts.length cap0, .int .i64 (p : Int), .map (some (w.alloc (.cells c25 25)).heap.size)] 71)) (P ts 0 p)) := fun w2 b2 A2 => whole_new E hT hp hfew b0 ⟨a, cap0, rfl, hm⟩ hv b2 A2
  have LE := hid hp
  have hp0 : decide ((p : Int) < 0) = false := by simp
  have hp0' : ¬ (p : Int) < 0 := by omega
  have hp1 : decide (ts.length < p) = false := by simp; omega
  have hp1' : ¬ (ts.length : Int) < (p : Int) := by omega
  have B0 := hid b0
  have E0 := hid E
  have X0 := hid (heap_alloc_new w (.cells c25 25))
  have SZ : (w.alloc (.cells c25 25)).heap.size = w.heap.size + 1 := by simp
  simp only [SZ] at cw
  rw [hP] at cw
  clear hM0 b0 E hT hp hP hm hv hfew
  have hn0 : ¬ (n : Int) = 0 := by omega
  have hn1 : ((n : Int) == 0) = false := by simp; omega
  go_enter Tryd.func19, Tryd.ntmps19
  go_wp2_with (first
    | (go_at_call 35; refine ca.mono ?_; rintro e w2 ⟨mp, rfl, A2, hmp, b2⟩; rw [SZ] at hmp; subst hmp; have B2 := hid b2; rw [SZ] at b2; have c36 := cw w2 b2 A2; clear A2 b2 ca cw)
    | (go_at_call 36; refine c36.mono ?_; rintro e w3 ⟨g3, rfl, h3⟩; have g4 := grown_on (grown_below ((Below.refl w2.heap.size w2).alloc (Nat.le_refl _) (.cells #[.slice a ts.length cap0, .int .i64 (p : Int), .map (some (w.heap.size + 1))] 71)) (some w2.heap.size)) g3; have S2 := hid (show w.heap.size < w2.heap.size from Nat.lt_of_lt_of_le (by rw [SZ]; exact Nat.lt_succ_self _) B2.out.size); have b4 : Below w.heap.size w w3 := below_of_grown (bstep B0.out B2.out) g4 (Nat.le_of_lt S2.out); have X3 := kept0 ((B2.out.block _ (by rw [SZ]; exact Nat.lt_succ_self _)).trans X0.out) g4 (Nat.ne_of_lt S2.out); have H3 := hid h3; have B4 := hid b4; clear g3 g4 h3 b4 c36)
    | (refine wpList_store_row rfl 25 _ _ rfl w.heap.size c25 rfl rfl 25 _ X3 info25 rfl (by simp [Value.oneCell']) ?_))
  rename_i K6 hK6
  have hne : w2.heap.size ≠ w.heap.size := Nat.ne_of_gt S2.out
  have YR : (w3.setRow w.heap.size c25).drew.cell? ⟨w2.heap.size, 1, none⟩ = some (.int .i64 (q : Int)) := (World.cell?_of_block (w := w3) (a := ⟨w2.heap.size, 1, none⟩) (setRow_other w3 _ _ _ hne)).trans H3.out.at1.1
  have X5 : (w3.setRow w.heap.size c25).drew.heap[w.heap.size]? = some (.cells c25 25 (0, 0)) := setRow_heap _ _ _ _ _ _ X3
  have B5 := hid (below_drewN (below_row B4.out B4.out.size (Nat.le_refl w.heap.size) c25) 1)
  have YR2 : ((w3.setRow w.heap.size c25).drew.setRow w.heap.size c25).cell? ⟨w2.heap.size, 1, none⟩ = some (.int .i64 (q : Int)) := (World.cell?_of_block (w := (w3.setRow w.heap.size c25).drew) (a := ⟨w2.heap.size, 1, none⟩) (setRow_other _ _ _ _ hne)).trans YR
  refine wp_region_held_drew (S := fun V => V.cell? ⟨w2.heap.size, 1, none⟩ = some (.int .i64 (q : Int))) (by kernel_rfl) ?_ (fun hHeld => ?_)
  · exact YR
  refine wpAnyH_take (i := 0) (oi := { dst := some 29, op := Go.Op.build 25 #[], type := 25, pos := _, after := #[], guard := none }) (v := ?_) rfl (by kernel_rfl) (by kernel_rfl) (by kernel_rfl) (fun _ _ _ h => h) (Or.inl ⟨by rfl, ?_⟩) (by assumption) ?_
  rotate_left
  · intro w hSw; (try dsimp only at hSw); go_simp <;> with_reducible rfl
  simp only [Act.put, List.setIfInBounds_toArray, List.set_cons_zero, List.set_cons_succ]
  refine wpAnyH_take (i := 1) (oi := { dst := some 30, op := Go.Op.move (Go.Operand.tmp 7), type := 67, pos := _, after := #[{ on := 6, ground := Go.Ground.gcOnly Go.Departure.lateStores }], guard := none }) (v := ?_) rfl (by kernel_rfl) (by kernel_rfl) (by kernel_rfl) (fun _ _ _ h => h) (Or.inl ⟨by rfl, ?_⟩) (by assumption) ?_
  rotate_left
  · intro w hSw; (try dsimp only at hSw); go_simp <;> with_reducible rfl
  simp only [Act.put, List.setIfInBounds_toArray, List.set_cons_zero, List.set_cons_succ]
  refine wpAnyH_take (i := 2) (oi := { dst := some 31, op := Go.Op.nilCheck (Go.Operand.tmp 30), type := 0, pos := _, after := #[{ on := 1, ground := Go.Ground.data }, { on := 6, ground := Go.Ground.gcOnly Go.Departure.lateStores }], guard := none }) (v := ?_) rfl (by kernel_rfl) (by kernel_rfl) (by kernel_rfl) (fun _ _ _ h => h) (Or.inl ⟨by rfl, ?_⟩) (by assumption) ?_
  rotate_left
  · intro w hSw; (try dsimp only at hSw); go_simp <;> with_reducible rfl
  simp only [Act.put, List.setIfInBounds_toArray, List.set_cons_zero, List.set_cons_succ]
  refine wpAnyH_take (i := 3) (oi := { dst := some 32, op := Go.Op.fieldAddr 71 (Go.Operand.tmp 31) 1, type := 0, pos := _, after := #[{ on := 2, ground := Go.Ground.data }, { on := 6, ground := Go.Ground.gcOnly Go.Departure.lateStores }], guard := none }) (v := ?_) rfl (by kernel_rfl) (by kernel_rfl) (by kernel_rfl) (fun _ _ _ h => h) (Or.inl ⟨by rfl, ?_⟩) (by assumption) ?_
  rotate_left
  · intro w hSw; (try dsimp only at hSw); go_simp <;> with_reducible rfl
  simp only [Act.put, List.setIfInBounds_toArray, List.set_cons_zero, List.set_cons_succ]
  refine wpAnyH_take (i := 4) (oi := { dst := some 33, op := Go.Op.load 3 (Go.Operand.tmp 32), type := 3, pos := _, after := #[{ on := 3, ground := Go.Ground.data }, { on := 6, ground := Go.Ground.gcOnly Go.Departure.lateStores }], guard := none }) (v := ?_) rfl (by kernel_rfl) (by kernel_rfl) (by kernel_rfl) (fun _ _ _ h => h) (Or.inl ⟨by rfl, ?_⟩) (by assumption) ?_
  rotate_left
  · intro w hSw; (try dsimp only at hSw); go_simp <;> with_reducible rfl
  simp only [Act.put, List.setIfInBounds_toArray, List.set_cons_zero, List.set_cons_succ]
  refine wpAnyH_take (i := 5) (oi := { dst := some 34, op := Go.Op.move (Go.Operand.tmp 6), type := 28, pos := _, after := #[{ on := 7, ground := Go.Ground.gcOnly Go.Departure.lateStores }], guard := none }) (v := ?_) rfl (by kernel_rfl) (by kernel_rfl) (by kernel_rfl) (fun _ _ _ h => h) (Or.inl ⟨by rfl, ?_⟩) (by assumption) ?_
  rotate_left
  · intro w hSw; (try dsimp only at hSw); go_simp <;> with_reducible rfl
  simp only [Act.put, List.setIfInBounds_toArray, List.set_cons_zero, List.set_cons_succ]
  refine wpAnyH_ready (rs := [6]) (by kernel_rfl) (by simp) ?_
  refine AllReadyH.cons (o := { dst := none, op := Go.Op.store 25 (Go.Operand.tmp 4) (Go.Operand.tmp 29), type := 0, pos := _, after := #[{ on := 0, ground := Go.Ground.data }, { on := 0, ground := Go.Ground.phase }, { on := 1, ground := Go.Ground.textOnly Go.Departure.lateStores }, { on := 2, ground := Go.Ground.textOnly Go.Departure.lateStores }, { on := 3, ground := Go.Ground.textOnly Go.Departure.lateStores }, { on := 4, ground := Go.Ground.textOnly Go.Departure.lateStores }, { on := 5, ground := Go.Ground.textOnly Go.Departure.lateStores }], guard := none }) rfl (fun K hK => ?_) AllReadyH.nil
  refine if_take (by rfl) ?_
  refine wp_store_row 25 _ _ rfl w.heap.size c25 rfl rfl 25 _ X5 info25 rfl (by simp [Value.oneCell']) ?_
  refine hK.out _ _ ?_ (fun _ => ?_)
  · exact YR2
  clear hK K
  refine wpAnyH_take (i := 7) (oi := { dst := some 5, op := Go.Op.assign (Go.Operand.tmp 33), type := 3, pos := _, after := #[{ on := 4, ground := Go.Ground.data }, { on := 6, ground := Go.Ground.chain }, { on := 0, ground := Go.Ground.phase }, { on := 1, ground := Go.Ground.phase }, { on := 2, ground := Go.Ground.phase }, { on := 3, ground := Go.Ground.phase }, { on := 4, ground := Go.Ground.phase }, { on := 5, ground := Go.Ground.textOnly Go.Departure.lateStores }, { on := 6, ground := Go.Ground.phase }], guard := none }) (v := ?_) rfl (by kernel_rfl) (by kernel_rfl) (by kernel_rfl) (fun _ _ _ h => h) (Or.inl ⟨by rfl, ?_⟩) (by assumption) ?_
  rotate_left
  · intro w hSw; (try dsimp only at hSw); go_simp <;> with_reducible rfl
  simp only [Act.put, List.setIfInBounds_toArray, List.set_cons_zero, List.set_cons_succ]
  refine wpAnyH_take (i := 8) (oi := { dst := some 6, op := Go.Op.assign (Go.Operand.tmp 34), type := 28, pos := _, after := #[{ on := 5, ground := Go.Ground.data }, { on := 7, ground := Go.Ground.chain }, { on := 0, ground := Go.Ground.phase }, { on := 1, ground := Go.Ground.phase }, { on := 2, ground := Go.Ground.phase }, { on := 3, ground := Go.Ground.phase }, { on := 4, ground := Go.Ground.phase }, { on := 5, ground := Go.Ground.phase }, { on := 6, ground := Go.Ground.phase }, { on := 7, ground := Go.Ground.phase }], guard := none }) (v := ?_) rfl (by kernel_rfl) (by kernel_rfl) (by kernel_rfl) (fun _ _ _ h => h) (Or.inl ⟨by rfl, ?_⟩) (by assumption) ?_
  rotate_left
  · intro w hSw; (try dsimp only at hSw); go_simp <;> with_reducible rfl
  simp only [Act.put, List.setIfInBounds_toArray, List.set_cons_zero, List.set_cons_succ]
  refine wpAnyH_done (by kernel_rfl) ?_ _
  refine hK6 _ _ ?_
  go_wp2
  exact bodyPost_ret (results_row_tmp2 rfl _ _ w.heap.size c25 rfl (run_loadVar_row _ _ 25 25 c25 (0, 0) _ (setRow_heap _ _ _ _ _ _ X5) Tryd.underlying25 rfl info25)) rfl ⟨below_row B5.out B5.out.size (Nat.le_refl _) _, rfl⟩
theorem st_over {w w2 w3 : World} {c : Array Value} {t : TypeId} {x : Ex} {s : Value} (st : StP (fun b => (w2.alloc (.cells c t)).heap.size ≤ b) w3 x s) (h : w.heap.size < w2.heap.size) (d : Array Value) : StP (fun b => w.heap.size < b) (w3.setRow w.heap.size d) x s := by
  refine StP.carryN (fun b hb hl => ?_) (fun b _ hb => ?_) _ x _ (Nat.le_refl _) st
  · simp at hb
    exact setRow_other _ _ _ _ (by omega)
  · simp at hb
    show w.heap.size < b
    omega
set_option maxRecDepth 100000 in
set_option maxHeartbeats 1000000 in
theorem parse_ok {w : World} (v : Value) (ts : List Mark) (p : Nat) (hM : MarksAt w v ts) (hv : ∀ a n c, v = .slice (some a) n c → a.block < w.heap.size) (E : REnv w) (hT : TsOk ts) (hp : p ≤ ts.length) (hfew : ts.length ≤ 140737488355328) (x : Ex) (q : Nat) (hP : P ts 0 p = .ok (x, q)) (hchk : chk x = true) : Calls Tryd.prog 19 #[v, .int .i64 (p : Int)] w (PostP w p (.ok (x, q))) := by
  have hM0 := hM
  obtain ⟨a, cap0, rfl, hm⟩ := hM
  have b0 := (Below.refl w.heap.size w).alloc (Nat.le_refl _) (.cells c25 25)
  have ca := atoms (w.alloc (.cells c25 25))
  have cw : ∀ w2, Below (w.alloc (.cells c25 25)).heap.size (w.alloc (.cells c25 25)) w2 → AtM (fun _ => true) (w.alloc (.cells c25 25)).heap.size 0 w2 → Calls Tryd.prog 36 #[.pointer (some ⟨w2.heap.size, 0, none⟩)] (w2.alloc (.cells #[.slice a ts.length cap0, .int .i64 (p : Int), .map (some (w.alloc (.cells c25 25)).heap.size)] 71)) (PostW w2.heap.size (w.alloc (.cells c25 25)).heap.size (.slice a ts.length cap0) ts (w2.alloc (.cells #[.slice a ts.length cap0, .int .i64 (p : Int), .map (some (w.alloc (.cells c25 25)).heap.size)] 71)) (P ts 0 p)) := fun w2 b2 A2 => whole_new E hT hp hfew b0 ⟨a, cap0, rfl, hm⟩ hv b2 A2
  have LE := hid hp
  have hp0 : decide ((p : Int) < 0) = false := by simp
  have hp0' : ¬ (p : Int) < 0 := by omega
  have hp1 : decide (ts.length < p) = false := by simp; omega
  have hp1' : ¬ (ts.length : Int) < (p : Int) := by omega
  have B0 := hid b0
  have E0 := hid E
  have X0 := hid (heap_alloc_new w (.cells c25 25))
  have SZ : (w.alloc (.cells c25 25)).heap.size = w.heap.size + 1 := by simp
  simp only [SZ] at cw
  rw [hP] at cw
  have cc := fun W S (hb : Below w.heap.size w W) (hS : St W x S) => check x W S hS (E.below hb).tabR (E.below hb).tabJ
  clear hM0 b0 E hT hp hP hm hv hfew
  rw [hchk] at cc
  go_enter Tryd.func19, Tryd.ntmps19
  go_wp2_with (first
    | (go_at_call 35; refine ca.mono ?_; rintro e w2 ⟨mp, rfl, A2, hmp, b2⟩; rw [SZ] at hmp; subst hmp; have B2 := hid b2; rw [SZ] at b2; have c36 := cw w2 b2 A2; clear A2 b2 ca cw)
    | (go_at_call 36; refine c36.mono ?_; rintro e w3 ⟨g3, s, rfl, st, h3⟩; obtain ⟨ao, cap, rfl⟩ := st.form; have g4 := grown_on (grown_below ((Below.refl w2.heap.size w2).alloc (Nat.le_refl _) (.cells #[.slice a ts.length cap0, .int .i64 (p : Int), .map (some (w.heap.size + 1))] 71)) (some w2.heap.size)) g3; have S2 := hid (show w.heap.size < w2.heap.size from Nat.lt_of_lt_of_le (by rw [SZ]; exact Nat.lt_succ_self _) B2.out.size); have b4 : Below w.heap.size w w3 := below_of_grown (bstep B0.out B2.out) g4 (Nat.le_of_lt S2.out); have X3 := kept0 ((B2.out.block _ (by rw [SZ]; exact Nat.lt_succ_self _)).trans X0.out) g4 (Nat.ne_of_lt S2.out); have H3 := hid h3; have B4 := hid b4; have X5 := setRow_heap w3 w.heap.size _ (ex4 x (.slice ao x.args.length cap)) 25 (0, 0) X3; have B5 := hid (below_row b4 b4.size (Nat.le_refl w.heap.size) (ex4 x (.slice ao x.args.length cap))); have T5 := hid (st_over st S2.out (ex4 x (.slice ao x.args.length cap))); clear g3 g4 h3 b4 c36 st)
    | (refine wpList_store_row rfl 25 _ _ rfl w.heap.size (ex4 x (.slice ao x.args.length cap)) rfl rfl 25 _ X3 info25 rfl (by simp [Value.oneCell', ex4]) ?_)
    | (refine wpList_load_row rfl 25 _ rfl w.heap.size rfl 25 (ex4 x (.slice ao x.args.length cap)) (0, 0) _ X5 Tryd.underlying25 rfl info25 ?_)
    | (go_at_call 11; refine (cc _ _ B5.out T5.out.st).mono ?_; rintro e w6 ⟨rfl, b6⟩; have X6 := (b6.block _ (Array.getElem?_eq_some_iff.1 X5).1).trans X5; have B6 := hid b6; clear b6 cc X5))
  rename_i K6 hK6
  have hne : w2.heap.size ≠ w.heap.size := Nat.ne_of_gt S2.out
  have hlt : w2.heap.size < (w3.setRow w.heap.size (ex4 x (.slice ao x.args.length cap))).heap.size := Nat.lt_of_lt_of_le H3.out.lt (by simp [World.setRow])
  have hr6 : w6.cell? ⟨w2.heap.size, 1, none⟩ = some (.int .i64 (q : Int)) := by
    rw [World.cell?_of_block (w := w3.setRow w.heap.size (ex4 x (.slice ao x.args.length cap))) (a := ⟨w2.heap.size, 1, none⟩) (B6.out.block _ hlt)]
    exact (World.cell?_of_block (w := w3) (a := ⟨w2.heap.size, 1, none⟩) (setRow_other w3 _ _ _ hne)).trans H3.out.at1.1
  have T6 := hid (T5.out.carry fun b _ hl => B6.out.block b hl)
  have D6 := hid (bstep B5.out (B6.out.trans (below_drewN (Below.refl _ w6) 1)))
  have YR : w6.drew.cell? ⟨w2.heap.size, 1, none⟩ = some (.int .i64 (q : Int)) ∧ w6.drew.cell? ⟨w.heap.size, 0, none⟩ = some (.int .u8 (x.op : Int)) ∧ w6.drew.cell? ⟨w.heap.size, 1, none⟩ = some (.int .i64 x.n) ∧ w6.drew.cell? ⟨w.heap.size, 2, none⟩ = some (.string x.name) ∧ w6.drew.cell? ⟨w.heap.size, 3, none⟩ = some (.slice ao x.args.length cap) :=
    ⟨hr6, (cell_of_row _ _ _ _ 25 (0, 0) X6).trans rfl, (cell_of_row _ _ _ _ 25 (0, 0) X6).trans rfl, (cell_of_row _ _ _ _ 25 (0, 0) X6).trans rfl, (cell_of_row _ _ _ _ 25 (0, 0) X6).trans rfl⟩
  have X6 : w6.drew.heap[w.heap.size]? = some (.cells (ex4 x (.slice ao x.args.length cap)) 25 (0, 0)) := X6
  have X7 := setRow_heap w6.drew w.heap.size _ (ex4 x (.slice ao x.args.length cap)) 25 (0, 0) X6
  have hr7 := (World.cell?_of_block (w := w6.drew) (a := ⟨w2.heap.size, 1, none⟩) (setRow_other w6.drew w.heap.size _ (ex4 x (.slice ao x.args.length cap)) hne)).trans YR.1
  have YR2 : (w6.drew.setRow w.heap.size (ex4 x (.slice ao x.args.length cap))).cell? ⟨w2.heap.size, 1, none⟩ = some (.int .i64 (q : Int)) ∧ (w6.drew.setRow w.heap.size (ex4 x (.slice ao x.args.length cap))).cell? ⟨w.heap.size, 0, none⟩ = some (.int .u8 (x.op : Int)) ∧ (w6.drew.setRow w.heap.size (ex4 x (.slice ao x.args.length cap))).cell? ⟨w.heap.size, 1, none⟩ = some (.int .i64 x.n) ∧ (w6.drew.setRow w.heap.size (ex4 x (.slice ao x.args.length cap))).cell? ⟨w.heap.size, 2, none⟩ = some (.string x.name) ∧ (w6.drew.setRow w.heap.size (ex4 x (.slice ao x.args.length cap))).cell? ⟨w.heap.size, 3, none⟩ = some (.slice ao x.args.length cap) :=
    ⟨hr7, (cell_of_row _ _ _ _ 25 (0, 0) X7).trans rfl, (cell_of_row _ _ _ _ 25 (0, 0) X7).trans rfl, (cell_of_row _ _ _ _ 25 (0, 0) X7).trans rfl, (cell_of_row _ _ _ _ 25 (0, 0) X7).trans rfl⟩
  refine wp_region_held_drew (S := fun V => V.cell? ⟨w2.heap.size, 1, none⟩ = some (.int .i64 (q : Int)) ∧ V.cell? ⟨w.heap.size, 0, none⟩ = some (.int .u8 (x.op : Int)) ∧ V.cell? ⟨w.heap.size, 1, none⟩ = some (.int .i64 x.n) ∧ V.cell? ⟨w.heap.size, 2, none⟩ = some (.string x.name) ∧ V.cell? ⟨w.heap.size, 3, none⟩ = some (.slice ao x.args.length cap)) (by kernel_rfl) ?_ (fun hHeld => ?_)
  · exact YR
  refine wpAnyH_take (i := 0) (oi := { dst := some 40, op := Go.Op.load 25 (Go.Operand.tmp 4), type := 25, pos := _, after := #[], guard := none }) (v := ?_) rfl (by kernel_rfl) (by kernel_rfl) (by kernel_rfl) (fun _ _ _ h => h) (Or.inl ⟨by rfl, ?_⟩) (by assumption) ?_
  rotate_left
  · intro w hSw; (try dsimp only at hSw); go_simp <;> with_reducible rfl
  simp only [Act.put, List.setIfInBounds_toArray, List.set_cons_zero, List.set_cons_succ]
  refine wpAnyH_take (i := 1) (oi := { dst := some 41, op := Go.Op.move (Go.Operand.tmp 7), type := 67, pos := _, after := #[{ on := 5, ground := Go.Ground.gcOnly Go.Departure.lateStores }], guard := none }) (v := ?_) rfl (by kernel_rfl) (by kernel_rfl) (by kernel_rfl) (fun _ _ _ h => h) (Or.inl ⟨by rfl, ?_⟩) (by assumption) ?_
  rotate_left
  · intro w hSw; (try dsimp only at hSw); go_simp <;> with_reducible rfl
  simp only [Act.put, List.setIfInBounds_toArray, List.set_cons_zero, List.set_cons_succ]
  refine wpAnyH_take (i := 2) (oi := { dst := some 42, op := Go.Op.nilCheck (Go.Operand.tmp 41), type := 0, pos := _, after := #[{ on := 1, ground := Go.Ground.data }, { on := 5, ground := Go.Ground.gcOnly Go.Departure.lateStores }], guard := none }) (v := ?_) rfl (by kernel_rfl) (by kernel_rfl) (by kernel_rfl) (fun _ _ _ h => h) (Or.inl ⟨by rfl, ?_⟩) (by assumption) ?_
  rotate_left
  · intro w hSw; (try dsimp only at hSw); go_simp <;> with_reducible rfl
  simp only [Act.put, List.setIfInBounds_toArray, List.set_cons_zero, List.set_cons_succ]
  refine wpAnyH_take (i := 3) (oi := { dst := some 43, op := Go.Op.fieldAddr 71 (Go.Operand.tmp 42) 1, type := 0, pos := _, after := #[{ on := 2, ground := Go.Ground.data }, { on := 5, ground := Go.Ground.gcOnly Go.Departure.lateStores }], guard := none }) (v := ?_) rfl (by kernel_rfl) (by kernel_rfl) (by kernel_rfl) (fun _ _ _ h => h) (Or.inl ⟨by rfl, ?_⟩) (by assumption) ?_
  rotate_left
  · intro w hSw; (try dsimp only at hSw); go_simp <;> with_reducible rfl
  simp only [Act.put, List.setIfInBounds_toArray, List.set_cons_zero, List.set_cons_succ]
  refine wpAnyH_take (i := 4) (oi := { dst := some 44, op := Go.Op.load 3 (Go.Operand.tmp 43), type := 3, pos := _, after := #[{ on := 3, ground := Go.Ground.data }, { on := 5, ground := Go.Ground.gcOnly Go.Departure.lateStores }], guard := none }) (v := ?_) rfl (by kernel_rfl) (by kernel_rfl) (by kernel_rfl) (fun _ _ _ h => h) (Or.inl ⟨by rfl, ?_⟩) (by assumption) ?_
  rotate_left
  · intro w hSw; (try dsimp only at hSw); go_simp <;> with_reducible rfl
  simp only [Act.put, List.setIfInBounds_toArray, List.set_cons_zero, List.set_cons_succ]
  refine wpAnyH_ready (rs := [5]) (by kernel_rfl) (by simp) ?_
  refine AllReadyH.cons (o := { dst := none, op := Go.Op.store 25 (Go.Operand.tmp 4) (Go.Operand.tmp 40), type := 0, pos := _, after := #[{ on := 0, ground := Go.Ground.data }, { on := 0, ground := Go.Ground.phase }, { on := 1, ground := Go.Ground.textOnly Go.Departure.lateStores }, { on := 2, ground := Go.Ground.textOnly Go.Departure.lateStores }, { on := 3, ground := Go.Ground.textOnly Go.Departure.lateStores }, { on := 4, ground := Go.Ground.textOnly Go.Departure.lateStores }], guard := none }) rfl (fun K hK => ?_) AllReadyH.nil
  refine if_take (by rfl) ?_
  refine wp_store_row 25 _ _ rfl w.heap.size (ex4 x (.slice ao x.args.length cap)) rfl rfl 25 _ X6 info25 rfl (by simp [Value.oneCell', ex4]) ?_
  refine hK.out _ _ ?_ (fun _ => ?_)
  · exact YR2
  clear hK K
  refine wpAnyH_take (i := 6) (oi := { dst := some 5, op := Go.Op.assign (Go.Operand.tmp 44), type := 3, pos := _, after := #[{ on := 4, ground := Go.Ground.data }, { on := 5, ground := Go.Ground.chain }, { on := 0, ground := Go.Ground.phase }, { on := 1, ground := Go.Ground.phase }, { on := 2, ground := Go.Ground.phase }, { on := 3, ground := Go.Ground.phase }, { on := 4, ground := Go.Ground.phase }, { on := 5, ground := Go.Ground.phase }], guard := none }) (v := ?_) rfl (by kernel_rfl) (by kernel_rfl) (by kernel_rfl) (fun _ _ _ h => h) (Or.inl ⟨by rfl, ?_⟩) (by assumption) ?_
  rotate_left
  · intro w hSw; (try dsimp only at hSw); go_simp <;> with_reducible rfl
  simp only [Act.put, List.setIfInBounds_toArray, List.set_cons_zero, List.set_cons_succ]
  refine wpAnyH_take (i := 7) (oi := { dst := some 6, op := Go.Op.assign (Go.Operand.const (Go.Value.int Go.IntKind.i64 0)), type := 28, pos := _, after := #[{ on := 6, ground := Go.Ground.chain }, { on := 0, ground := Go.Ground.phase }, { on := 1, ground := Go.Ground.phase }, { on := 2, ground := Go.Ground.phase }, { on := 3, ground := Go.Ground.phase }, { on := 4, ground := Go.Ground.phase }, { on := 5, ground := Go.Ground.phase }, { on := 6, ground := Go.Ground.phase }], guard := none }) (v := ?_) rfl (by kernel_rfl) (by kernel_rfl) (by kernel_rfl) (fun _ _ _ h => h) (Or.inl ⟨by rfl, ?_⟩) (by assumption) ?_
  rotate_left
  · intro w hSw; (try dsimp only at hSw); go_simp <;> with_reducible rfl
  simp only [Act.put, List.setIfInBounds_toArray, List.set_cons_zero, List.set_cons_succ]
  refine wpAnyH_done (by kernel_rfl) ?_ _
  refine hK6 _ _ ?_
  go_wp2
  refine bodyPost_ret (results_row_tmp2 rfl _ _ w.heap.size (ex4 x (.slice ao x.args.length cap)) rfl (run_loadVar_row _ _ 25 25 (ex4 x (.slice ao x.args.length cap)) (0, 0) _ X7 Tryd.underlying25 rfl info25)) rfl ⟨below_row D6.out D6.out.size (Nat.le_refl _) _, .inl ⟨hchk, _, rfl, ?_⟩⟩
  exact StP.carryN (w := w6) (fun b hb _ => (setRow_other w6.drew _ _ _ (Nat.ne_of_gt hb)).trans rfl) (fun b _ hb => Nat.le_of_lt hb) _ x _ (Nat.le_refl _) T6.out
set_option maxRecDepth 100000 in
set_option maxHeartbeats 1000000 in
theorem parse_lim {w : World} (v : Value) (ts : List Mark) (p : Nat) (hM : MarksAt w v ts) (hv : ∀ a n c, v = .slice (some a) n c → a.block < w.heap.size) (E : REnv w) (hT : TsOk ts) (hp : p ≤ ts.length) (hfew : ts.length ≤ 140737488355328) (x : Ex) (q : Nat) (hP : P ts 0 p = .ok (x, q)) (hchk : chk x = false) : Calls Tryd.prog 19 #[v, .int .i64 (p : Int)] w (PostP w p (.ok (x, q))) := by
  have hM0 := hM
  obtain ⟨a, cap0, rfl, hm⟩ := hM
  have b0 := (Below.refl w.heap.size w).alloc (Nat.le_refl _) (.cells c25 25)
  have ca := atoms (w.alloc (.cells c25 25))
  have cw : ∀ w2, Below (w.alloc (.cells c25 25)).heap.size (w.alloc (.cells c25 25)) w2 → AtM (fun _ => true) (w.alloc (.cells c25 25)).heap.size 0 w2 → Calls Tryd.prog 36 #[.pointer (some ⟨w2.heap.size, 0, none⟩)] (w2.alloc (.cells #[.slice a ts.length cap0, .int .i64 (p : Int), .map (some (w.alloc (.cells c25 25)).heap.size)] 71)) (PostW w2.heap.size (w.alloc (.cells c25 25)).heap.size (.slice a ts.length cap0) ts (w2.alloc (.cells #[.slice a ts.length cap0, .int .i64 (p : Int), .map (some (w.alloc (.cells c25 25)).heap.size)] 71)) (P ts 0 p)) := fun w2 b2 A2 => whole_new E hT hp hfew b0 ⟨a, cap0, rfl, hm⟩ hv b2 A2
  have LE := hid hp
  have hp0 : decide ((p : Int) < 0) = false := by simp
  have hp0' : ¬ (p : Int) < 0 := by omega
  have hp1 : decide (ts.length < p) = false := by simp; omega
  have hp1' : ¬ (ts.length : Int) < (p : Int) := by omega
  have B0 := hid b0
  have E0 := hid E
  have X0 := hid (heap_alloc_new w (.cells c25 25))
  have SZ : (w.alloc (.cells c25 25)).heap.size = w.heap.size + 1 := by simp
  simp only [SZ] at cw
  rw [hP] at cw
  have cc := fun W S (hb : Below w.heap.size w W) (hS : St W x S) => check x W S hS (E.below hb).tabR (E.below hb).tabJ
  clear hM0 b0 E hT hp hP hm hv hfew
  rw [hchk] at cc
  go_enter Tryd.func19, Tryd.ntmps19
  go_wp2_with (first
    | (go_at_call 35; refine ca.mono ?_; rintro e w2 ⟨mp, rfl, A2, hmp, b2⟩; rw [SZ] at hmp; subst hmp; have B2 := hid b2; rw [SZ] at b2; have c36 := cw w2 b2 A2; clear A2 b2 ca cw)
    | (go_at_call 36; refine c36.mono ?_; rintro e w3 ⟨g3, s, rfl, st, h3⟩; obtain ⟨ao, cap, rfl⟩ := st.form; have g4 := grown_on (grown_below ((Below.refl w2.heap.size w2).alloc (Nat.le_refl _) (.cells #[.slice a ts.length cap0, .int .i64 (p : Int), .map (some (w.heap.size + 1))] 71)) (some w2.heap.size)) g3; have S2 := hid (show w.heap.size < w2.heap.size from Nat.lt_of_lt_of_le (by rw [SZ]; exact Nat.lt_succ_self _) B2.out.size); have b4 : Below w.heap.size w w3 := below_of_grown (bstep B0.out B2.out) g4 (Nat.le_of_lt S2.out); have X3 := kept0 ((B2.out.block _ (by rw [SZ]; exact Nat.lt_succ_self _)).trans X0.out) g4 (Nat.ne_of_lt S2.out); have H3 := hid h3; have B4 := hid b4; have X5 := setRow_heap w3 w.heap.size _ (ex4 x (.slice ao x.args.length cap)) 25 (0, 0) X3; have B5 := hid (below_row b4 b4.size (Nat.le_refl w.heap.size) (ex4 x (.slice ao x.args.length cap))); have T5 := hid (st_over st S2.out (ex4 x (.slice ao x.args.length cap))); clear g3 g4 h3 b4 c36 st)
    | (refine wpList_store_row rfl 25 _ _ rfl w.heap.size (ex4 x (.slice ao x.args.length cap)) rfl rfl 25 _ X3 info25 rfl (by simp [Value.oneCell', ex4]) ?_)
    | (refine wpList_load_row rfl 25 _ rfl w.heap.size rfl 25 (ex4 x (.slice ao x.args.length cap)) (0, 0) _ X5 Tryd.underlying25 rfl info25 ?_)
    | (go_at_call 11; refine (cc _ _ B5.out T5.out.st).mono ?_; rintro e w6 ⟨rfl, b6⟩; have X6 := (b6.block _ (Array.getElem?_eq_some_iff.1 X5).1).trans X5; have B6 := hid b6; clear b6 cc X5)
    | (refine wpList_store_row rfl 25 _ _ rfl w.heap.size c25 rfl rfl 25 _ X6 info25 rfl (by simp [Value.oneCell']) ?_))
  refine bodyPost_ret (results_row_tmp2 rfl _ _ w.heap.size c25 rfl (run_loadVar_row _ _ 25 25 c25 (0, 0) _ (setRow_heap _ _ _ _ _ _ X6) Tryd.underlying25 rfl info25)) rfl ⟨below_row (bstep B5.out B6.out) (bstep B5.out B6.out).size (Nat.le_refl _) _, .inr ⟨hchk, rfl⟩⟩
end Go.Proofs.YtkieljleopbhoaaDoor.Lex
namespace Go.Proofs.YtkieljleopbhoaaDoor.Lex
open Go.ChangeShapes Go.WideShapes Go.ChangeAt Go.RowKit Go.Joins
theorem Res.go_bad {r : Res} {f : Ex → Nat → Res} {e : Nat × Nat} (h : r.go f = .error e) : r = .error e ∨ ∃ x q, r = .ok (x, q) ∧ f x q = .error e := by
  unfold Res.go at h
  split at h
  · exact .inr ⟨_, _, rfl, h⟩
  · cases h; exact .inl rfl
theorem passR_bad {ts : List Mark} {kind : Nat} {text : ByteArray} {p : Nat} {f : Nat → Res} {e : Nat × Nat} (h : passR ts kind text p f = .error e) : e.1 = 5 ∨ f (p + 1) = .error e := by
  unfold passR at h
  split at h
  · exact .inr h
  · cases h; exact .inl rfl
theorem numE_bad {s : ByteArray} (h : ¬ numE s = 0) : (numE s).toNat ≠ 0 := by
  have := numE_nat s
  omega
theorem atomR_bad {ts : List Mark} {part : Nat → Nat → Res} {p n q : Nat} (hp : p < ts.length → ∀ a q n q', p < q → part a q = .error (n, q') → n ≠ 0) (h : atomR ts part p = .error (n, q)) : n ≠ 0 := by
  unfold atomR at h
  simp only at h
  split at h
  · cases h
  split at h
  · cases h
  split at h
  · rename_i hm
    rcases Res.go_bad h with h | ⟨x, q1, _, h⟩
    · exact hp (isMk_lt (by omega) hm) _ _ _ _ (by omega) h
    · rcases passR_bad h with h | h
      · simp only at h; omega
      · cases h
  iterate 3
    split at h
    · rename_i hm
      rcases Res.go_bad h with h | ⟨x, q1, _, h⟩
      · exact hp (isMk_lt (by omega) hm) _ _ _ _ (by omega) h
      · cases h
  split at h
  · split at h
    · cases h
    · cases h; omega
  split at h
  · split at h
    · cases h
    · rename_i hn
      cases h
      exact numE_bad hn
  · cases h; omega
theorem choiceR_bad {ts : List Mark} {part : Nat → Nat → Res} {p n q : Nat} (hf : ∀ a q x q', part a q = .ok (x, q') → q < q') (hp : ∀ a q n q', p < q → part a q = .error (n, q') → n ≠ 0) (h : choiceR ts part p = .error (n, q)) : n ≠ 0 := by
  unfold choiceR at h
  rcases Res.go_bad h with h | ⟨x, q1, e1, h⟩
  · exact hp _ _ _ _ (by omega) h
  rcases passR_bad h with h | h
  · simp only at h; omega
  have := hf _ _ _ _ e1
  rcases Res.go_bad h with h | ⟨y, q2, e2, h⟩
  · exact hp _ _ _ _ (by omega) h
  rcases passR_bad h with h | h
  · simp only at h; omega
  have := hf _ _ _ _ e2
  rcases Res.go_bad h with h | ⟨z, q3, e3, h⟩
  · exact hp _ _ _ _ (by omega) h
  · cases h
theorem prs_bad (ts : List Mark) : ∀ k, (∀ a p n q, 2 * (ts.length - p) + 2 ≤ k → prs ts k a none p = .error (n, q) → n ≠ 0) ∧ ∀ a y p n q, 2 * (ts.length - p) + 1 ≤ k → prs ts k a (some y) p = .error (n, q) → n ≠ 0
  | 0 => ⟨fun a p n q h => by omega, fun a y p n q h => by omega⟩
  | k + 1 => by
    obtain ⟨i1, i2⟩ := prs_bad ts k
    refine ⟨fun a p n q hk h => ?_, fun a y p n q hk h => ?_⟩
    · rw [prs] at h
      split at h
      · rename_i hm
        have hl := isMk_lt (by omega) hm.2
        exact choiceR_bad (part := fun a q => prs ts k a none q) (prs_far ts k).1 (fun a q n q' hq => i1 a q n q' (by omega)) h
      · rcases Res.go_bad h with h | ⟨x, q1, e1, h⟩
        · exact atomR_bad (part := fun a q => prs ts k a none q) (fun hl a q n q' hq => i1 a q n q' (by omega)) h
        · have := atomR_far (part := fun a q => prs ts k a none q) (prs_far ts k).1 e1
          exact i2 _ _ _ _ _ (by omega) h
    · obtain ⟨y, rank⟩ := y
      rw [prs] at h
      split at h
      · cases h
      · rename_i j hj
        have hl := jAt_lt hj
        split at h
        · cases h
        · rcases Res.go_bad h with h | ⟨x, q1, e1, h⟩
          · exact i1 _ _ _ _ (by omega) h
          · have := (prs_far ts k).1 _ _ _ _ e1
            exact i2 _ _ _ _ _ (by omega) h
theorem P_bad {ts : List Mark} {a p n q : Nat} (h : P ts a p = .error (n, q)) : n ≠ 0 := (prs_bad ts _).1 a p n q (Nat.le_refl _) h
/-- Parse, from a token on. -/
theorem parse {w : World} (v : Value) (ts : List Mark) (p : Nat) (hM : MarksAt w v ts) (hv : ∀ a n c, v = .slice (some a) n c → a.block < w.heap.size) (E : REnv w) (hT : TsOk ts) (hp : p ≤ ts.length) (hfew : ts.length ≤ 140737488355328) : Calls Tryd.prog 19 #[v, .int .i64 (p : Int)] w (PostP w p (P ts 0 p)) := by
  cases hP : P ts 0 p with
  | error nq =>
    obtain ⟨n, q⟩ := nq
    exact parse_bad v ts p hM hv E hT hp hfew n q hP (P_bad hP)
  | ok xq =>
    obtain ⟨x, q⟩ := xq
    cases hc : chk x with
    | true => exact parse_ok v ts p hM hv E hT hp hfew x q hP hc
    | false => exact parse_lim v ts p hM hv E hT hp hfew x q hP hc
end Go.Proofs.YtkieljleopbhoaaDoor.Lex
namespace Go.Proofs.YtkieljleopbhoaaDoor.Lex
open Go.ChangeShapes Go.WideShapes Go.ChangeAt Go.RowKit Go.Joins
/-- Of how many parts; below 0: none. -/
def manyI (op : Nat) : Int := if op = 1 ∨ op = 2 ∨ op = 3 then 0 else if 0 < parts op then (parts op : Int) else -1
theorem many_1 (w : World) : Calls Tryd.prog 49 #[.int .u8 (1 : Int)] w fun e w' => e = .returned (.int .i64 (manyI 1)) ∧ w' = w := by
  have h : manyI 1 = 0 := by decide
  rw [h]
  go_enter Tryd.func49, Tryd.ntmps49
  go_wp2
  go_ret
  exact ⟨rfl, rfl⟩
theorem many_2 (w : World) : Calls Tryd.prog 49 #[.int .u8 (2 : Int)] w fun e w' => e = .returned (.int .i64 (manyI 2)) ∧ w' = w := by
  have h : manyI 2 = 0 := by decide
  rw [h]
  go_enter Tryd.func49, Tryd.ntmps49
  go_wp2
  go_ret
  exact ⟨rfl, rfl⟩
theorem many_3 (w : World) : Calls Tryd.prog 49 #[.int .u8 (3 : Int)] w fun e w' => e = .returned (.int .i64 (manyI 3)) ∧ w' = w := by
  have h : manyI 3 = 0 := by decide
  rw [h]
  go_enter Tryd.func49, Tryd.ntmps49
  go_wp2
  go_ret
  exact ⟨rfl, rfl⟩
theorem many_4 (w : World) : Calls Tryd.prog 49 #[.int .u8 (4 : Int)] w fun e w' => e = .returned (.int .i64 (manyI 4)) ∧ w' = w := by
  have h : manyI 4 = 1 := by decide
  rw [h]
  go_enter Tryd.func49, Tryd.ntmps49
  go_wp2
  go_ret
  exact ⟨rfl, rfl⟩
theorem many_5 (w : World) : Calls Tryd.prog 49 #[.int .u8 (5 : Int)] w fun e w' => e = .returned (.int .i64 (manyI 5)) ∧ w' = w := by
  have h : manyI 5 = 1 := by decide
  rw [h]
  go_enter Tryd.func49, Tryd.ntmps49
  go_wp2
  go_ret
  exact ⟨rfl, rfl⟩
theorem many_6 (w : World) : Calls Tryd.prog 49 #[.int .u8 (6 : Int)] w fun e w' => e = .returned (.int .i64 (manyI 6)) ∧ w' = w := by
  have h : manyI 6 = 2 := by decide
  rw [h]
  go_enter Tryd.func49, Tryd.ntmps49
  go_wp2
  go_ret
  exact ⟨rfl, rfl⟩
theorem many_7 (w : World) : Calls Tryd.prog 49 #[.int .u8 (7 : Int)] w fun e w' => e = .returned (.int .i64 (manyI 7)) ∧ w' = w := by
  have h : manyI 7 = 2 := by decide
  rw [h]
  go_enter Tryd.func49, Tryd.ntmps49
  go_wp2
  go_ret
  exact ⟨rfl, rfl⟩
theorem many_8 (w : World) : Calls Tryd.prog 49 #[.int .u8 (8 : Int)] w fun e w' => e = .returned (.int .i64 (manyI 8)) ∧ w' = w := by
  have h : manyI 8 = 2 := by decide
  rw [h]
  go_enter Tryd.func49, Tryd.ntmps49
  go_wp2
  go_ret
  exact ⟨rfl, rfl⟩
theorem many_9 (w : World) : Calls Tryd.prog 49 #[.int .u8 (9 : Int)] w fun e w' => e = .returned (.int .i64 (manyI 9)) ∧ w' = w := by
  have h : manyI 9 = 2 := by decide
  rw [h]
  go_enter Tryd.func49, Tryd.ntmps49
  go_wp2
  go_ret
  exact ⟨rfl, rfl⟩
theorem many_10 (w : World) : Calls Tryd.prog 49 #[.int .u8 (10 : Int)] w fun e w' => e = .returned (.int .i64 (manyI 10)) ∧ w' = w := by
  have h : manyI 10 = 2 := by decide
  rw [h]
  go_enter Tryd.func49, Tryd.ntmps49
  go_wp2
  go_ret
  exact ⟨rfl, rfl⟩
theorem many_11 (w : World) : Calls Tryd.prog 49 #[.int .u8 (11 : Int)] w fun e w' => e = .returned (.int .i64 (manyI 11)) ∧ w' = w := by
  have h : manyI 11 = 2 := by decide
  rw [h]
  go_enter Tryd.func49, Tryd.ntmps49
  go_wp2
  go_ret
  exact ⟨rfl, rfl⟩
theorem many_12 (w : World) : Calls Tryd.prog 49 #[.int .u8 (12 : Int)] w fun e w' => e = .returned (.int .i64 (manyI 12)) ∧ w' = w := by
  have h : manyI 12 = 2 := by decide
  rw [h]
  go_enter Tryd.func49, Tryd.ntmps49
  go_wp2
  go_ret
  exact ⟨rfl, rfl⟩
theorem many_13 (w : World) : Calls Tryd.prog 49 #[.int .u8 (13 : Int)] w fun e w' => e = .returned (.int .i64 (manyI 13)) ∧ w' = w := by
  have h : manyI 13 = 2 := by decide
  rw [h]
  go_enter Tryd.func49, Tryd.ntmps49
  go_wp2
  go_ret
  exact ⟨rfl, rfl⟩
theorem many_14 (w : World) : Calls Tryd.prog 49 #[.int .u8 (14 : Int)] w fun e w' => e = .returned (.int .i64 (manyI 14)) ∧ w' = w := by
  have h : manyI 14 = 2 := by decide
  rw [h]
  go_enter Tryd.func49, Tryd.ntmps49
  go_wp2
  go_ret
  exact ⟨rfl, rfl⟩
theorem many_15 (w : World) : Calls Tryd.prog 49 #[.int .u8 (15 : Int)] w fun e w' => e = .returned (.int .i64 (manyI 15)) ∧ w' = w := by
  have h : manyI 15 = 2 := by decide
  rw [h]
  go_enter Tryd.func49, Tryd.ntmps49
  go_wp2
  go_ret
  exact ⟨rfl, rfl⟩
theorem many_16 (w : World) : Calls Tryd.prog 49 #[.int .u8 (16 : Int)] w fun e w' => e = .returned (.int .i64 (manyI 16)) ∧ w' = w := by
  have h : manyI 16 = 2 := by decide
  rw [h]
  go_enter Tryd.func49, Tryd.ntmps49
  go_wp2
  go_ret
  exact ⟨rfl, rfl⟩
theorem many_17 (w : World) : Calls Tryd.prog 49 #[.int .u8 (17 : Int)] w fun e w' => e = .returned (.int .i64 (manyI 17)) ∧ w' = w := by
  have h : manyI 17 = 3 := by decide
  rw [h]
  go_enter Tryd.func49, Tryd.ntmps49
  go_wp2
  go_ret
  exact ⟨rfl, rfl⟩
theorem many_18 (w : World) : Calls Tryd.prog 49 #[.int .u8 (18 : Int)] w fun e w' => e = .returned (.int .i64 (manyI 18)) ∧ w' = w := by
  have h : manyI 18 = 2 := by decide
  rw [h]
  go_enter Tryd.func49, Tryd.ntmps49
  go_wp2
  go_ret
  exact ⟨rfl, rfl⟩
theorem many_19 (w : World) : Calls Tryd.prog 49 #[.int .u8 (19 : Int)] w fun e w' => e = .returned (.int .i64 (manyI 19)) ∧ w' = w := by
  have h : manyI 19 = 1 := by decide
  rw [h]
  go_enter Tryd.func49, Tryd.ntmps49
  go_wp2
  go_ret
  exact ⟨rfl, rfl⟩
theorem jOf_far {op : Nat} (h : 20 ≤ op) : jOf op = none := by
  unfold jOf JT
  rw [List.find?_eq_none]
  intro r hr
  simp only [List.mem_cons, List.not_mem_nil, or_false] at hr
  rcases hr with rfl | rfl | rfl | rfl | rfl | rfl | rfl | rfl | rfl | rfl | rfl | rfl <;> simp <;> omega
theorem many_far {op : Nat} (h : op = 0 ∨ 20 ≤ op) : manyI op = -1 := by
  rcases h with rfl | h
  · decide
  · have hp : parts op = 0 := by unfold parts; rw [if_neg (by omega), if_neg (by omega), jOf_far h]; rfl
    unfold manyI
    rw [if_neg (by omega), hp]
    rfl
theorem many_any (op : Nat) (w : World) : Calls Tryd.prog 49 #[.int .u8 (op : Int)] w fun e w' => e = .returned (.int .i64 (manyI op)) ∧ w' = w := by
  by_cases hop : op = 0 ∨ 20 ≤ op
  · rw [many_far hop]
    have e1 := neN (a := op) (b := 1) (by omega)
    have e2 := neN (a := op) (b := 2) (by omega)
    have e3 := neN (a := op) (b := 3) (by omega)
    have e4 := neN (a := op) (b := 4) (by omega)
    have e5 := neN (a := op) (b := 5) (by omega)
    have e6 := neN (a := op) (b := 6) (by omega)
    have e7 := neN (a := op) (b := 7) (by omega)
    have e8 := neN (a := op) (b := 8) (by omega)
    have e9 := neN (a := op) (b := 9) (by omega)
    have e10 := neN (a := op) (b := 10) (by omega)
    have e11 := neN (a := op) (b := 11) (by omega)
    have e12 := neN (a := op) (b := 12) (by omega)
    have e13 := neN (a := op) (b := 13) (by omega)
    have e14 := neN (a := op) (b := 14) (by omega)
    have e15 := neN (a := op) (b := 15) (by omega)
    have e16 := neN (a := op) (b := 16) (by omega)
    have e17 := neN (a := op) (b := 17) (by omega)
    have e18 := neN (a := op) (b := 18) (by omega)
    have e19 := neN (a := op) (b := 19) (by omega)
    clear hop
    go_enter Tryd.func49, Tryd.ntmps49
    go_wp2
    go_ret
    exact ⟨rfl, rfl⟩
  · have h : op = 1 ∨ op = 2 ∨ op = 3 ∨ op = 4 ∨ op = 5 ∨ op = 6 ∨ op = 7 ∨ op = 8 ∨ op = 9 ∨ op = 10 ∨ op = 11 ∨ op = 12 ∨ op = 13 ∨ op = 14 ∨ op = 15 ∨ op = 16 ∨ op = 17 ∨ op = 18 ∨ op = 19 := by omega
    clear hop
    rcases h with rfl | rfl | rfl | rfl | rfl | rfl | rfl | rfl | rfl | rfl | rfl | rfl | rfl | rfl | rfl | rfl | rfl | rfl | rfl
    · exact many_1 w
    · exact many_2 w
    · exact many_3 w
    · exact many_4 w
    · exact many_5 w
    · exact many_6 w
    · exact many_7 w
    · exact many_8 w
    · exact many_9 w
    · exact many_10 w
    · exact many_11 w
    · exact many_12 w
    · exact many_13 w
    · exact many_14 w
    · exact many_15 w
    · exact many_16 w
    · exact many_17 w
    · exact many_18 w
    · exact many_19 w
/-- The fields but for the parts. -/
def fldOk (op : Nat) (n : Int) (nm : ByteArray) : Bool :=
  if op = 1 then decide (0 ≤ n) && decide (nm.size = 0)
  else if op = 2 then (decide (n = 0) || decide (n = 1)) && decide (nm.size = 0)
  else if op = 3 then decide (n = 0) && isName nm
  else decide (n = 0) && decide (nm.size = 0)
theorem fields_split (op : Nat) (n : Int) (nm : ByteArray) (len : Nat) : fieldsOk op n nm len = (decide (manyI op = (len : Int)) && fldOk op n nm) := by
  have hz : decide ((0 : Int) = (len : Int)) = decide (len = 0) := by
    by_cases h : len = 0
    · rw [decide_eq_true h, decide_eq_true (by omega)]
    · rw [decide_eq_false h, decide_eq_false (by omega)]
  unfold fieldsOk fldOk
  by_cases h1 : op = 1
  · rw [if_pos h1, if_pos h1, manyI, if_pos (.inl h1), hz]
    cases decide (0 ≤ n) <;> cases decide (nm.size = 0) <;> cases decide (len = 0) <;> rfl
  · rw [if_neg h1, if_neg h1]
    by_cases h2 : op = 2
    · rw [if_pos h2, if_pos h2, manyI, if_pos (.inr (.inl h2)), hz]
      cases (decide (n = 0) || decide (n = 1)) <;> cases decide (nm.size = 0) <;> cases decide (len = 0) <;> rfl
    · rw [if_neg h2, if_neg h2]
      by_cases h3 : op = 3
      · rw [if_pos h3, if_pos h3, manyI, if_pos (.inr (.inr h3)), hz]
        cases decide (n = 0) <;> cases isName nm <;> cases decide (len = 0) <;> rfl
      · rw [if_neg h3, if_neg h3, manyI, if_neg (by omega)]
        by_cases hp : 0 < parts op
        · rw [if_pos hp, decide_eq_true hp]
          have : decide ((parts op : Int) = (len : Int)) = decide (len = parts op) := by
            by_cases h : len = parts op
            · rw [decide_eq_true h, decide_eq_true (by omega)]
            · rw [decide_eq_false h, decide_eq_false (by omega)]
          rw [this]
          cases decide (n = 0) <;> cases decide (nm.size = 0) <;> cases decide (len = parts op) <;> rfl
        · have hl : decide ((-1 : Int) = (len : Int)) = false := decide_eq_false (by omega)
          rw [if_neg hp, decide_eq_false hp, hl]
          rfl
end Go.Proofs.YtkieljleopbhoaaDoor.Lex
namespace Go.Proofs.YtkieljleopbhoaaDoor.Lex
open Go.ChangeShapes Go.WideShapes Go.ChangeAt Go.RowKit Go.Joins
set_option maxRecDepth 100000 in
theorem rankOf (op : Nat) (w : World) (hT : TabJ w) : Calls Tryd.prog 70 #[.int .u8 (op : Int)] w fun e w' => e = .returned (.int .i64 (rkOf op : Int)) ∧ Below w.heap.size w w' := by
  have c := joinOf op w hT
  unfold jOut jrow at c
  cases hj : jOf op with
  | some r =>
    have hp : rkOf op = r.rank := by unfold rkOf; rw [hj]
    rw [hp]
    rw [hj] at c
    simp only [Option.getD_some, Option.isSome_some] at c
    clear hp hj
    go_enter Tryd.func70, Tryd.ntmps70
    go_wp2_with (go_at_call 43; refine c.mono ?_; rintro e w2 ⟨rfl, hb2⟩)
    go_ret
    exact ⟨rfl, bstep hb2 ((Below.refl _ _).alloc (Nat.le_refl _) _)⟩
  | none =>
    have hp : rkOf op = if op = 17 then 0 else if op = 4 ∨ op = 5 ∨ op = 19 then 6 else 7 := by unfold rkOf; rw [hj]
    rw [hp]
    rw [hj] at c
    simp only [Option.getD_none, Option.isSome_none] at c
    clear hp hj
    by_cases h17 : op = 17
    · have e17 := eqN (b := 17) h17
      rw [if_pos h17]
      clear h17
      go_enter Tryd.func70, Tryd.ntmps70
      go_wp2_with (go_at_call 43; refine c.mono ?_; rintro e w2 ⟨rfl, hb2⟩)
      go_ret
      exact ⟨rfl, bstep hb2 ((Below.refl _ _).alloc (Nat.le_refl _) _)⟩
    · have e17 := neN (b := 17) h17
      rw [if_neg h17]
      by_cases h4 : op = 4
      · have e4 := eqN (b := 4) h4
        rw [if_pos (.inl h4)]
        clear h17 h4
        go_enter Tryd.func70, Tryd.ntmps70
        go_wp2_with (go_at_call 43; refine c.mono ?_; rintro e w2 ⟨rfl, hb2⟩)
        go_ret
        exact ⟨rfl, bstep hb2 ((Below.refl _ _).alloc (Nat.le_refl _) _)⟩
      · have e4 := neN (b := 4) h4
        by_cases h5 : op = 5
        · have e5 := eqN (b := 5) h5
          rw [if_pos (.inr (.inl h5))]
          clear h17 h4 h5
          go_enter Tryd.func70, Tryd.ntmps70
          go_wp2_with (go_at_call 43; refine c.mono ?_; rintro e w2 ⟨rfl, hb2⟩)
          go_ret
          exact ⟨rfl, bstep hb2 ((Below.refl _ _).alloc (Nat.le_refl _) _)⟩
        · have e5 := neN (b := 5) h5
          by_cases h19 : op = 19
          · have e19 := eqN (b := 19) h19
            rw [if_pos (.inr (.inr h19))]
            clear h17 h4 h5 h19
            go_enter Tryd.func70, Tryd.ntmps70
            go_wp2_with (go_at_call 43; refine c.mono ?_; rintro e w2 ⟨rfl, hb2⟩)
            go_ret
            exact ⟨rfl, bstep hb2 ((Below.refl _ _).alloc (Nat.le_refl _) _)⟩
          · have e19 := neN (b := 19) h19
            rw [if_neg (by omega)]
            clear h17 h4 h5 h19
            go_enter Tryd.func70, Tryd.ntmps70
            go_wp2_with (go_at_call 43; refine c.mono ?_; rintro e w2 ⟨rfl, hb2⟩)
            go_ret
            exact ⟨rfl, bstep hb2 ((Below.refl _ _).alloc (Nat.le_refl _) _)⟩
theorem rank_1 (w : World) : Calls Tryd.prog 44 #[.int .u8 (1 : Int)] w fun e w' => e = .returned (.int .i64 (rkOf 1 : Int)) ∧ w' = w := by
  have h : rkOf 1 = 7 := by decide
  rw [h]
  go_enter Tryd.func44, Tryd.ntmps44
  go_wp2
  go_ret
  exact ⟨rfl, rfl⟩
theorem rank_2 (w : World) : Calls Tryd.prog 44 #[.int .u8 (2 : Int)] w fun e w' => e = .returned (.int .i64 (rkOf 2 : Int)) ∧ w' = w := by
  have h : rkOf 2 = 7 := by decide
  rw [h]
  go_enter Tryd.func44, Tryd.ntmps44
  go_wp2
  go_ret
  exact ⟨rfl, rfl⟩
theorem rank_3 (w : World) : Calls Tryd.prog 44 #[.int .u8 (3 : Int)] w fun e w' => e = .returned (.int .i64 (rkOf 3 : Int)) ∧ w' = w := by
  have h : rkOf 3 = 7 := by decide
  rw [h]
  go_enter Tryd.func44, Tryd.ntmps44
  go_wp2
  go_ret
  exact ⟨rfl, rfl⟩
theorem rank_4 (w : World) : Calls Tryd.prog 44 #[.int .u8 (4 : Int)] w fun e w' => e = .returned (.int .i64 (rkOf 4 : Int)) ∧ w' = w := by
  have h : rkOf 4 = 6 := by decide
  rw [h]
  go_enter Tryd.func44, Tryd.ntmps44
  go_wp2
  go_ret
  exact ⟨rfl, rfl⟩
theorem rank_5 (w : World) : Calls Tryd.prog 44 #[.int .u8 (5 : Int)] w fun e w' => e = .returned (.int .i64 (rkOf 5 : Int)) ∧ w' = w := by
  have h : rkOf 5 = 6 := by decide
  rw [h]
  go_enter Tryd.func44, Tryd.ntmps44
  go_wp2
  go_ret
  exact ⟨rfl, rfl⟩
theorem rank_6 (w : World) : Calls Tryd.prog 44 #[.int .u8 (6 : Int)] w fun e w' => e = .returned (.int .i64 (rkOf 6 : Int)) ∧ w' = w := by
  have h : rkOf 6 = 4 := by decide
  rw [h]
  go_enter Tryd.func44, Tryd.ntmps44
  go_wp2
  go_ret
  exact ⟨rfl, rfl⟩
theorem rank_7 (w : World) : Calls Tryd.prog 44 #[.int .u8 (7 : Int)] w fun e w' => e = .returned (.int .i64 (rkOf 7 : Int)) ∧ w' = w := by
  have h : rkOf 7 = 4 := by decide
  rw [h]
  go_enter Tryd.func44, Tryd.ntmps44
  go_wp2
  go_ret
  exact ⟨rfl, rfl⟩
theorem rank_8 (w : World) : Calls Tryd.prog 44 #[.int .u8 (8 : Int)] w fun e w' => e = .returned (.int .i64 (rkOf 8 : Int)) ∧ w' = w := by
  have h : rkOf 8 = 5 := by decide
  rw [h]
  go_enter Tryd.func44, Tryd.ntmps44
  go_wp2
  go_ret
  exact ⟨rfl, rfl⟩
theorem rank_9 (w : World) : Calls Tryd.prog 44 #[.int .u8 (9 : Int)] w fun e w' => e = .returned (.int .i64 (rkOf 9 : Int)) ∧ w' = w := by
  have h : rkOf 9 = 5 := by decide
  rw [h]
  go_enter Tryd.func44, Tryd.ntmps44
  go_wp2
  go_ret
  exact ⟨rfl, rfl⟩
theorem rank_10 (w : World) : Calls Tryd.prog 44 #[.int .u8 (10 : Int)] w fun e w' => e = .returned (.int .i64 (rkOf 10 : Int)) ∧ w' = w := by
  have h : rkOf 10 = 5 := by decide
  rw [h]
  go_enter Tryd.func44, Tryd.ntmps44
  go_wp2
  go_ret
  exact ⟨rfl, rfl⟩
theorem rank_11 (w : World) : Calls Tryd.prog 44 #[.int .u8 (11 : Int)] w fun e w' => e = .returned (.int .i64 (rkOf 11 : Int)) ∧ w' = w := by
  have h : rkOf 11 = 3 := by decide
  rw [h]
  go_enter Tryd.func44, Tryd.ntmps44
  go_wp2
  go_ret
  exact ⟨rfl, rfl⟩
theorem rank_12 (w : World) : Calls Tryd.prog 44 #[.int .u8 (12 : Int)] w fun e w' => e = .returned (.int .i64 (rkOf 12 : Int)) ∧ w' = w := by
  have h : rkOf 12 = 3 := by decide
  rw [h]
  go_enter Tryd.func44, Tryd.ntmps44
  go_wp2
  go_ret
  exact ⟨rfl, rfl⟩
theorem rank_13 (w : World) : Calls Tryd.prog 44 #[.int .u8 (13 : Int)] w fun e w' => e = .returned (.int .i64 (rkOf 13 : Int)) ∧ w' = w := by
  have h : rkOf 13 = 3 := by decide
  rw [h]
  go_enter Tryd.func44, Tryd.ntmps44
  go_wp2
  go_ret
  exact ⟨rfl, rfl⟩
theorem rank_14 (w : World) : Calls Tryd.prog 44 #[.int .u8 (14 : Int)] w fun e w' => e = .returned (.int .i64 (rkOf 14 : Int)) ∧ w' = w := by
  have h : rkOf 14 = 3 := by decide
  rw [h]
  go_enter Tryd.func44, Tryd.ntmps44
  go_wp2
  go_ret
  exact ⟨rfl, rfl⟩
theorem rank_15 (w : World) : Calls Tryd.prog 44 #[.int .u8 (15 : Int)] w fun e w' => e = .returned (.int .i64 (rkOf 15 : Int)) ∧ w' = w := by
  have h : rkOf 15 = 2 := by decide
  rw [h]
  go_enter Tryd.func44, Tryd.ntmps44
  go_wp2
  go_ret
  exact ⟨rfl, rfl⟩
theorem rank_16 (w : World) : Calls Tryd.prog 44 #[.int .u8 (16 : Int)] w fun e w' => e = .returned (.int .i64 (rkOf 16 : Int)) ∧ w' = w := by
  have h : rkOf 16 = 1 := by decide
  rw [h]
  go_enter Tryd.func44, Tryd.ntmps44
  go_wp2
  go_ret
  exact ⟨rfl, rfl⟩
theorem rank_17 (w : World) : Calls Tryd.prog 44 #[.int .u8 (17 : Int)] w fun e w' => e = .returned (.int .i64 (rkOf 17 : Int)) ∧ w' = w := by
  have h : rkOf 17 = 0 := by decide
  rw [h]
  go_enter Tryd.func44, Tryd.ntmps44
  go_wp2
  go_ret
  exact ⟨rfl, rfl⟩
theorem rank_18 (w : World) : Calls Tryd.prog 44 #[.int .u8 (18 : Int)] w fun e w' => e = .returned (.int .i64 (rkOf 18 : Int)) ∧ w' = w := by
  have h : rkOf 18 = 0 := by decide
  rw [h]
  go_enter Tryd.func44, Tryd.ntmps44
  go_wp2
  go_ret
  exact ⟨rfl, rfl⟩
theorem rank_19 (w : World) : Calls Tryd.prog 44 #[.int .u8 (19 : Int)] w fun e w' => e = .returned (.int .i64 (rkOf 19 : Int)) ∧ w' = w := by
  have h : rkOf 19 = 6 := by decide
  rw [h]
  go_enter Tryd.func44, Tryd.ntmps44
  go_wp2
  go_ret
  exact ⟨rfl, rfl⟩
theorem rk_far {op : Nat} (h : op = 0 ∨ 20 ≤ op) : rkOf op = 7 := by
  rcases h with rfl | h
  · decide
  · unfold rkOf
    rw [jOf_far h]
    simp only
    rw [if_neg (by omega), if_neg (by omega)]
theorem rank_any (op : Nat) (w : World) : Calls Tryd.prog 44 #[.int .u8 (op : Int)] w fun e w' => e = .returned (.int .i64 (rkOf op : Int)) ∧ w' = w := by
  by_cases hop : op = 0 ∨ 20 ≤ op
  · rw [rk_far hop]
    have e1 := neN (a := op) (b := 1) (by omega)
    have e2 := neN (a := op) (b := 2) (by omega)
    have e3 := neN (a := op) (b := 3) (by omega)
    have e4 := neN (a := op) (b := 4) (by omega)
    have e5 := neN (a := op) (b := 5) (by omega)
    have e6 := neN (a := op) (b := 6) (by omega)
    have e7 := neN (a := op) (b := 7) (by omega)
    have e8 := neN (a := op) (b := 8) (by omega)
    have e9 := neN (a := op) (b := 9) (by omega)
    have e10 := neN (a := op) (b := 10) (by omega)
    have e11 := neN (a := op) (b := 11) (by omega)
    have e12 := neN (a := op) (b := 12) (by omega)
    have e13 := neN (a := op) (b := 13) (by omega)
    have e14 := neN (a := op) (b := 14) (by omega)
    have e15 := neN (a := op) (b := 15) (by omega)
    have e16 := neN (a := op) (b := 16) (by omega)
    have e17 := neN (a := op) (b := 17) (by omega)
    have e18 := neN (a := op) (b := 18) (by omega)
    have e19 := neN (a := op) (b := 19) (by omega)
    clear hop
    go_enter Tryd.func44, Tryd.ntmps44
    go_wp2
    go_ret
    exact ⟨rfl, rfl⟩
  · have h : op = 1 ∨ op = 2 ∨ op = 3 ∨ op = 4 ∨ op = 5 ∨ op = 6 ∨ op = 7 ∨ op = 8 ∨ op = 9 ∨ op = 10 ∨ op = 11 ∨ op = 12 ∨ op = 13 ∨ op = 14 ∨ op = 15 ∨ op = 16 ∨ op = 17 ∨ op = 18 ∨ op = 19 := by omega
    clear hop
    rcases h with rfl | rfl | rfl | rfl | rfl | rfl | rfl | rfl | rfl | rfl | rfl | rfl | rfl | rfl | rfl | rfl | rfl | rfl | rfl
    · exact rank_1 w
    · exact rank_2 w
    · exact rank_3 w
    · exact rank_4 w
    · exact rank_5 w
    · exact rank_6 w
    · exact rank_7 w
    · exact rank_8 w
    · exact rank_9 w
    · exact rank_10 w
    · exact rank_11 w
    · exact rank_12 w
    · exact rank_13 w
    · exact rank_14 w
    · exact rank_15 w
    · exact rank_16 w
    · exact rank_17 w
    · exact rank_18 w
    · exact rank_19 w
/-- negated. -/
theorem negated (s : ByteArray) (w : World) (hs : s.size ≤ 65536) : Calls Tryd.prog 41 #[.string s] w fun e w' => e = .returned (.string ⟨(negW s.data.toList).toArray⟩) ∧ w' = w := by
  have c := Tryd.strings_HasPrefix s ⟨#[45]⟩ w
  unfold negW
  cases hp : Lib.hasPrefix s.data.toList [45]
  · rw [hp] at c
    go_enter Tryd.func41, Tryd.ntmps41
    go_wp2_with (go_at_call 69; refine c.mono ?_; rintro e w2 ⟨rfl, rfl⟩)
    go_ret
    refine ⟨?_, rfl⟩
    congr 2
  · rw [hp] at c
    go_enter Tryd.func41, Tryd.ntmps41
    go_wp2_with (go_at_call 69; refine c.mono ?_; rintro e w2 ⟨rfl, rfl⟩)
    go_ret
    refine ⟨?_, rfl⟩
    congr 2
theorem wrap_id {x : Int} (h1 : -9223372036854775808 ≤ x) (h2 : x ≤ 9223372036854775807) : IntKind.i64.wrap x = x := by
  simp only [IntKind.wrap, IntKind.signed, IntKind.bits]
  simp
  omega
def tenS : ByteArray := ⟨#[48, 49, 50, 51, 52, 53, 54, 55, 56, 57]⟩
theorem ten_ext (r : Nat) (h : r < 10) : (⟨#[48, 49, 50, 51, 52, 53, 54, 55, 56, 57]⟩ : ByteArray).extract r (r + 1) = ⟨#[UInt8.ofNat (48 + r)]⟩ := by
  have h : r = 0 ∨ r = 1 ∨ r = 2 ∨ r = 3 ∨ r = 4 ∨ r = 5 ∨ r = 6 ∨ r = 7 ∨ r = 8 ∨ r = 9 := by omega
  rcases h with rfl | rfl | rfl | rfl | rfl | rfl | rfl | rfl | rfl | rfl <;> decide
set_option maxRecDepth 100000 in
set_option maxHeartbeats 1000000 in
/-- The document's own digits. -/
theorem digits : ∀ (m u : Nat), u ≤ m → u ≤ 9223372036854775807 → ∀ (w : World), Calls Tryd.prog 45 #[.int .i64 (u : Int)] w fun e w' => e = .returned (.string ⟨(Lib.decDigits u).toArray⟩) ∧ ∃ n, w' = w.drewN n := by
  intro m
  induction m with
  | zero =>
    intro u hu _ w
    obtain rfl : u = 0 := by omega
    have h0 := ten_ext 0 (by omega)
    rw [Lib.decDigits, dif_pos (by omega)]
    go_enter Tryd.func45, Tryd.ntmps45
    go_wp2
    go_ret
    exact ⟨by first | rfl | (rw [h0]), 0, rfl⟩
  | succ m ih =>
    intro u hu hmax w
    have hneg : ¬ (u : Int) < 0 := by omega
    have hgt : (-10 : Int) < (u : Int) := by omega
    by_cases h10 : u < 10
    · have h10' : (u : Int) < 10 := by omega
      have h0 := ten_ext u h10
      rw [Lib.decDigits, dif_pos h10]
      go_enter Tryd.func45, Tryd.ntmps45
      go_wp2
      go_ret
      exact ⟨by first | rfl | (rw [h0]; rfl), 0, rfl⟩
    · have h10' : ¬ (u : Int) < 10 := by omega
      have h0 := ten_ext (u % 10) (by omega)
      have c := ih (u / 10) (by omega) (by omega)
      have hl := dec_len 18 (u / 10) (by have : (10 : Nat) ^ (18 + 1) = 10000000000000000000 := by decide
                                         omega)
      have hd : Int.tdiv (u : Int) 10 = ((u / 10 : Nat) : Int) := by rw [Int.tdiv_eq_ediv_of_nonneg (by omega)]; omega
      have hr : Int.tmod (u : Int) 10 = ((u % 10 : Nat) : Int) := by rw [Int.tmod_eq_emod_of_nonneg (by omega)]; omega
      have hr9 : u % 10 < 10 := by omega
      rw [Lib.decDigits, dif_neg h10]
      go_enter Tryd.func45, Tryd.ntmps45
      go_wp2
      have hw1 : IntKind.i64.wrap ((u / 10 : Nat) : Int) = ((u / 10 : Nat) : Int) := wrap_id (by omega) (by omega)
      have hw2 : IntKind.i64.wrap ((u % 10 : Nat) : Int) = ((u % 10 : Nat) : Int) := wrap_id (by omega) (by omega)
      have hw3 : IntKind.i64.wrap (((u % 10 : Nat) : Int) + 1) = ((u % 10 : Nat) : Int) + 1 := wrap_id (by omega) (by omega)
      generalize hD : Lib.decDigits (u / 10) = D at *
      have hDs : (⟨D.toArray⟩ : ByteArray).size ≤ 19 := by rw [Lib.size_eq]; simpa using hl
      go_quiet ((go_at_call 45; exact Calls.quiet_of (c _)))
      go_wp2
      go_ret
      refine ⟨?_, nq, rfl⟩
      have e : (⟨D.toArray⟩ : ByteArray) ++ (⟨#[48 + UInt8.ofNat (u % 10)]⟩ : ByteArray) = ⟨(D ++ [UInt8.ofNat (48 + u % 10)]).toArray⟩ := by
        apply ByteArray.ext
        rw [ByteArray.data_append]
        simp [UInt8.ofNat_add]
      subst hD
      exact congrArg (fun s => Ending.returned (.string s)) e
def opsV : Array Value := #[.int .u8 18, .int .u8 16, .int .u8 15, .int .u8 11, .int .u8 12, .int .u8 13, .int .u8 14, .int .u8 6, .int .u8 7, .int .u8 8, .int .u8 9, .int .u8 10]
def sgnV : Array Value := #[.string ⟨#[45, 62]⟩, .string ⟨#[111, 114]⟩, .string ⟨#[97, 110, 100]⟩, .string ⟨#[61, 61]⟩, .string ⟨#[33, 61]⟩, .string ⟨#[60]⟩, .string ⟨#[60, 61]⟩, .string ⟨#[43]⟩, .string ⟨#[45]⟩, .string ⟨#[42]⟩, .string ⟨#[47]⟩, .string ⟨#[37]⟩]
theorem ops_at (k : Nat) (hk : k < 12) : opsV[k]? = some (.int .u8 ((jR k).op : Int)) ∧ sgnV[k]? = some (.string (jR k).text) := by
  have h : k = 0 ∨ k = 1 ∨ k = 2 ∨ k = 3 ∨ k = 4 ∨ k = 5 ∨ k = 6 ∨ k = 7 ∨ k = 8 ∨ k = 9 ∨ k = 10 ∨ k = 11 := by omega
  rcases h with rfl | rfl | rfl | rfl | rfl | rfl | rfl | rfl | rfl | rfl | rfl | rfl <;> exact ⟨rfl, rfl⟩
/-- The document's own sign of an operator of two. -/
theorem sign_of (op : Nat) (r : J) (hr : jOf op = some r) (w : World) : Calls Tryd.prog 47 #[.int .u8 (op : Int)] w fun e w' => e = .returned (.string r.text) ∧ Below w.heap.size w w' := by
  have e1 : (w.alloc (.cells opsV 22)).heap.size = w.heap.size + 1 := by simp
  have HB : Hid (Below w.heap.size w ((w.alloc (.cells opsV 22)).alloc (.cells sgnV 9))) := bstep ((Below.refl _ _).alloc (Nat.le_refl _) _) ((Below.refl _ _).alloc (Nat.le_refl _) _)
  have c1 : ∀ k, k < 12 → ((w.alloc (.cells opsV 22)).alloc (.cells sgnV 9)).cell? ⟨w.heap.size, k, none⟩ = some (.int .u8 ((jR k).op : Int)) := fun k hk => by
    have h0 : (w.alloc (.cells opsV 22)).cell? ⟨w.heap.size, k, none⟩ = some (.int .u8 ((jR k).op : Int)) := by rw [World.cell?_alloc_at _ _ _ _ rfl]; exact (ops_at k hk).1
    exact cell_kept h0 ((Below.refl _ _).alloc (Nat.le_refl _) _)
  have c2 : ∀ k, k < 12 → ((w.alloc (.cells opsV 22)).alloc (.cells sgnV 9)).cell? ⟨w.heap.size + 1, k, none⟩ = some (.string (jR k).text) := fun k hk => by
    have h0 : ((w.alloc (.cells opsV 22)).alloc (.cells sgnV 9)).cell? ⟨(w.alloc (.cells opsV 22)).heap.size, k, none⟩ = some (.string (jR k).text) := by rw [World.cell?_alloc_at _ _ _ _ rfl]; exact (ops_at k hk).2
    rwa [e1] at h0
  unfold opsV sgnV at c1 c2 HB
  have C1 := hid c1
  have C2 := hid c2
  clear c1 c2 e1
  go_enter Tryd.func47, Tryd.ntmps47
  go_wp2
  go_loop [5] (fun i => ∃ k : Nat, k ≤ 12 ∧ i = .int .i64 (k : Int) ∧ Hid (∀ j, j < k → ((jR j).op == op) = false)) (fun i => 12 - (intOf i).toNat)
  case atStart => exact ⟨0, by omega, rfl, fun j hj => by omega⟩
  case round =>
    obtain ⟨k, hk, rfl, hall⟩ := hrel
    by_cases hlt : k < 12
    · have hlt' : (k : Int) < 12 := by omega
      have hk0 : (0 : Int) ≤ (k : Int) := by omega
      have x1 := C1.out k hlt
      have x2 := C2.out k hlt
      cases he : ((jR k).op == op)
      · have he' : (((jR k).op : Int) == (op : Int)) = false := by simp at he ⊢; omega
        have Hnew : Hid (∀ j, j < k + 1 → ((jR j).op == op) = false) := fun j hj => by
          by_cases e : j = k
          · rw [e]; exact he
          · exact hall.out j (by omega)
        clear hall he x2
        generalize (jR k).op = O at *
        go_wp2
        go_round
        case rel => exact ⟨k + 1, by omega, by go_num, Hnew⟩
        case measure => simp [intOf]; omega
      · have he' : (((jR k).op : Int) == (op : Int)) = true := by simp at he ⊢; omega
        have Hr : Hid (jR k = r) := Option.some.inj ((jOf_some k hlt hall.out he).symm.trans hr)
        clear hall he
        go_wp2
        go_ret
        exact ⟨by rw [Hr.out]; rfl, HB.out⟩
    · have hno : jOf op = none := jOf_none fun j hj => hall.out j (by omega)
      rw [hno] at hr
      cases hr
end Go.Proofs.YtkieljleopbhoaaDoor.Lex
namespace Go.Proofs.YtkieljleopbhoaaDoor.Lex
open Go.ChangeShapes Go.WideShapes Go.ChangeAt Go.RowKit Go.Joins
set_option linter.unusedVariables false
/-- The powers of ten stand in their variable. -/
def TabP (w : World) : Prop := Lib.TabIs Tryd.prog w "internal/strconv.uint64pow10" .u64 Lib.pow10Tab
theorem gPow : Tryd.prog.globalNamed "internal/strconv.uint64pow10" = some 2 := by kernel_rfl
theorem TabP.below {w W : World} (h : TabP w) (hb : Below w.heap.size w W) : TabP W := by
  unfold TabP Lib.TabIs World.var? at h ⊢
  rw [gPow] at h ⊢
  simp only [Option.bind_some] at h ⊢
  by_cases hl : 2 < w.heap.size
  · rw [hb.block 2 hl]; exact h
  · rw [Array.getElem?_eq_none (by omega)] at h; cases h
/-- What the variables hold. -/
structure Env (w : World) : Prop where
  res : TabR w
  joins : TabJ w
  pow : TabP w
theorem Env.below {w W : World} (h : Env w) (hb : Below w.heap.size w W) : Env W := ⟨h.res.below hb, h.joins.below hb, h.pow.below hb⟩
/-- A part's cells. -/
def KidAt (W : World) (bb off : Nat) (a : Ex) (ka : Option Addr) (ca : Nat) : Prop :=
  W.cell? ⟨bb, off, none⟩ = some (.int .u8 (a.op : Int)) ∧ W.cell? ⟨bb, off + 1, none⟩ = some (.int .i64 a.n) ∧ W.cell? ⟨bb, off + 2, none⟩ = some (.string a.name) ∧ W.cell? ⟨bb, off + 3, none⟩ = some (.slice ka a.args.length ca)
theorem KidAt.keep {w W : World} {bb off : Nat} {a : Ex} {ka : Option Addr} {ca : Nat} (h : KidAt w bb off a ka ca) (hb : Below w.heap.size w W) : KidAt W bb off a ka ca :=
  ⟨cell_kept h.1 hb, cell_kept h.2.1 hb, cell_kept h.2.2.1 hb, cell_kept h.2.2.2 hb⟩
theorem St.kids {w : World} {x : Ex} {s : Value} (h : St w x s) (h0 : x.args.length ≠ 0) : ∃ bb o cap, s = .slice (some ⟨bb, o, none⟩) x.args.length cap ∧ ∀ i (hi : i < x.args.length), ∃ ka ca, St w x.args[i] (.slice ka x.args[i].args.length ca) ∧ KidAt w bb (o + i * 4) x.args[i] ka ca := by
  obtain ⟨ao, cap, sl, rfl, _, _, _, _, _, hc, hs⟩ := h.out
  obtain ⟨bb, o, rfl, hcc⟩ := hc.resolve_left h0
  refine ⟨bb, o, cap, rfl, fun i hi => ?_⟩
  obtain ⟨c0, c1, c2, c3⟩ := hcc i hi
  have hst := hs i hi
  obtain ⟨ka, ca, _, e, _⟩ := hst.out
  rw [e] at hst c3
  exact ⟨ka, ca, hst, c0, c1, c2, c3⟩
def WrC (d : Nat) : Prop := ∀ (x : Ex) (w : World) (s : Value) (M k : Nat), M ≤ 200 → sz d M x = some k → St w x s → Env w → Calls Tryd.prog 25 #[exV x s] w fun e w' => e = .returned (.string ⟨(wr x).toArray⟩) ∧ Below w.heap.size w w'
def PlC (d : Nat) : Prop := ∀ (x : Ex) (w : World) (s : Value) (M k asked : Nat), M ≤ 200 → asked ≤ 7 → sz d M x = some k → St w x s → Env w → Calls Tryd.prog 42 #[exV x s, .int .i64 (asked : Int)] w fun e w' => e = .returned (.string ⟨(put asked (rkOf x.op) (wr x)).toArray⟩) ∧ Below w.heap.size w w'
theorem bsize (l : List UInt8) : (⟨l.toArray⟩ : ByteArray).size = l.length := by rw [Lib.size_eq]
theorem bapp (a b : List UInt8) : (⟨a.toArray⟩ : ByteArray) ++ (⟨b.toArray⟩ : ByteArray) = ⟨(a ++ b).toArray⟩ := by
  apply ByteArray.ext
  rw [ByteArray.data_append]
  simp
set_option maxRecDepth 100000 in
theorem pl_of (d : Nat) (h : WrC d) : PlC d := by
  intro x w s M k asked hM hA hz hS hE
  obtain ⟨ao, cap, sl, rfl, _⟩ := hS.out
  have hl := wr_len d M x k w _ hz hS
  have hk := (sz_le _ _ _ _ hz).2
  have b1 := (Below.refl w.heap.size w).alloc (Nat.le_refl _) (.cells #[.int .u8 (x.op : Int), .int .i64 x.n, .string x.name, .slice ao x.args.length cap] 25)
  have cr := rankOf x.op _ (hE.joins.below b1)
  have cw := fun W (hb : Below w.heap.size w W) => h x W _ M k hM hz (hS.keep hb) (hE.below hb)
  have B1 := hid b1
  have bx := fun j v => box_at w #[.int .u8 (x.op : Int), .int .i64 x.n, .string x.name, .slice ao x.args.length cap] 25 j v
  obtain ⟨X, hX⟩ : ∃ X : ByteArray, (⟨(wr x).toArray⟩ : ByteArray) = X := ⟨_, rfl⟩
  have hXs : X.size ≤ 13000 := by rw [← hX, bsize]; omega
  unfold put
  clear hS hE hz hl hk b1 h
  by_cases hr : rkOf x.op < asked
  · have hr' : (rkOf x.op : Int) < (asked : Int) := by omega
    have HG : Hid ((⟨(40 :: (wr x ++ [41])).toArray⟩ : ByteArray) = (⟨#[40]⟩ : ByteArray) ++ X ++ (⟨#[41]⟩ : ByteArray)) := by
      unfold Hid
      rw [← hX]
      apply ByteArray.ext
      rw [ByteArray.data_append, ByteArray.data_append]
      simp
    rw [if_pos hr, HG.out]
    rw [hX] at cw
    clear hr HG hX
    generalize (rkOf x.op : Int) = R at *
    go_enter Tryd.func42, Tryd.ntmps42
    go_wp2_with (first
      | (go_at_call 70; refine cr.mono ?_; rintro e w2 ⟨rfl, hb2⟩; have y0 := cell_kept (bx 0 _ rfl) hb2; have y1 := cell_kept (bx 1 _ rfl) hb2; have y2 := cell_kept (bx 2 _ rfl) hb2; have y3 := cell_kept (bx 3 _ rfl) hb2; have B2 := hid (bstep B1.out hb2); clear hb2 bx cr)
      | (go_at_call 25; refine (cw _ B2.out).mono ?_; rintro e w3 ⟨rfl, hb3⟩; have B3 := hid (bstep B2.out hb3); clear hb3 cw))
    go_ret
    exact ⟨rfl, B3.out⟩
  · have hr' : ¬ (rkOf x.op : Int) < (asked : Int) := by omega
    rw [if_neg hr, hX]
    rw [hX] at cw
    clear hr hX
    generalize (rkOf x.op : Int) = R at *
    go_enter Tryd.func42, Tryd.ntmps42
    go_wp2_with (first
      | (go_at_call 70; refine cr.mono ?_; rintro e w2 ⟨rfl, hb2⟩; have y0 := cell_kept (bx 0 _ rfl) hb2; have y1 := cell_kept (bx 1 _ rfl) hb2; have y2 := cell_kept (bx 2 _ rfl) hb2; have y3 := cell_kept (bx 3 _ rfl) hb2; have B2 := hid (bstep B1.out hb2); clear hb2 bx cr)
      | (go_at_call 25; refine (cw _ B2.out).mono ?_; rintro e w3 ⟨rfl, hb3⟩; have B3 := hid (bstep B2.out hb3); clear hb3 cw))
    go_ret
    exact ⟨rfl, B3.out⟩
set_option maxRecDepth 100000 in
theorem wr_int (x : Ex) (w : World) (ao : Option Addr) (cap : Nat) (e1 : ((x.op : Int) == 1) = true) (h0 : -9223372036854775808 ≤ x.n) (h1 : x.n ≤ 9223372036854775807) (hP : TabP w) :
    Calls Tryd.prog 25 #[exV x (.slice ao x.args.length cap)] w fun e w' => e = .returned (.string ⟨(Lib.itoa x.n).toArray⟩) ∧ Below w.heap.size w w' := by
  have b1 := (Below.refl w.heap.size w).alloc (Nat.le_refl _) (.cells #[.int .u8 (x.op : Int), .int .i64 x.n, .string x.name, .slice ao x.args.length cap] 25)
  have c := Tryd.strconv_FormatInt_10 x.n h0 h1 _ (hP.below b1)
  have B1 := hid b1
  clear hP b1
  go_enter Tryd.func25, Tryd.ntmps25
  go_wp2_with (go_at_call 39; refine c.mono ?_; rintro e w2 ⟨rfl, k, os, rfl⟩)
  go_ret
  exact ⟨rfl, bstep B1.out (Lib.below_grow _ _ (Nat.le_refl _) k os)⟩
set_option maxRecDepth 100000 in
theorem wr_bool (x : Ex) (w : World) (ao : Option Addr) (cap : Nat) (e1 : ((x.op : Int) == 1) = false) (e2 : ((x.op : Int) == 2) = true) :
    Calls Tryd.prog 25 #[exV x (.slice ao x.args.length cap)] w fun e w' => e = .returned (.string ⟨(yesNo (x.n == 1)).toArray⟩) ∧ Below w.heap.size w w' := by
  have c := fun b W => Tryd.strconv_FormatBool b W
  have hy : ∀ b, Lib.formatBool b = yesNo b := by intro b; cases b <;> decide
  rw [← hy]
  go_enter Tryd.func25, Tryd.ntmps25
  go_wp2_with (go_at_call 40; refine (c _ _).mono ?_; rintro e w2 ⟨rfl, rfl⟩)
  go_ret
  exact ⟨rfl, (Below.refl _ _).alloc (Nat.le_refl _) _⟩
set_option maxRecDepth 100000 in
theorem wr_name (x : Ex) (w : World) (ao : Option Addr) (cap : Nat) (e1 : ((x.op : Int) == 1) = false) (e2 : ((x.op : Int) == 2) = false) (e3 : ((x.op : Int) == 3) = true) (hs : x.name.size ≤ 65536) :
    Calls Tryd.prog 25 #[exV x (.slice ao x.args.length cap)] w fun e w' => e = .returned (.string x.name) ∧ Below w.heap.size w w' := by
  have b1 := (Below.refl w.heap.size w).alloc (Nat.le_refl _) (.cells #[.int .u8 (x.op : Int), .int .i64 x.n, .string x.name, .slice ao x.args.length cap] 25)
  have c := fun W => clone x.name W hs
  have B1 := hid b1
  clear b1 hs
  go_enter Tryd.func25, Tryd.ntmps25
  go_wp2_with (go_at_call 38; refine (c _).mono ?_; rintro e w2 ⟨rfl, hb2⟩)
  go_ret
  exact ⟨rfl, bstep B1.out hb2⟩
set_option maxRecDepth 100000 in
theorem wr_neg (x a : Ex) (w : World) (bb o cap : Nat) (ka : Option Addr) (ca : Nat) (e1 : ((x.op : Int) == 1) = false) (e2 : ((x.op : Int) == 2) = false) (e3 : ((x.op : Int) == 3) = false) (e4 : ((x.op : Int) == 4) = true) (Y : ByteArray) (hY : Y.size ≤ 13100) (hk : KidAt w bb o a ka ca)
    (c : ∀ W, Below w.heap.size w W → Calls Tryd.prog 42 #[exV a (.slice ka a.args.length ca), .int .i64 6] W fun e w' => e = .returned (.string Y) ∧ Below W.heap.size W w') :
    Calls Tryd.prog 25 #[exV x (.slice (some ⟨bb, o, none⟩) 1 cap)] w fun e w' => e = .returned (.string ⟨(negW Y.data.toList).toArray⟩) ∧ Below w.heap.size w w' := by
  have b1 := (Below.refl w.heap.size w).alloc (Nat.le_refl _) (.cells #[.int .u8 (x.op : Int), .int .i64 x.n, .string x.name, .slice (some ⟨bb, o, none⟩) 1 cap] 25)
  obtain ⟨v0, v1, v2, v3⟩ := hk.keep b1
  have B1 := hid b1
  have cn := fun W => negated Y W (by omega)
  clear hk b1
  go_enter Tryd.func25, Tryd.ntmps25
  go_wp2_with (first
    | (go_at_call 42; refine (c _ B1.out).mono ?_; rintro e w2 ⟨rfl, hb2⟩; have B2 := hid (bstep B1.out hb2); clear hb2 c)
    | (go_at_call 41; refine (cn _).mono ?_; rintro e w3 ⟨rfl, rfl⟩))
  go_ret
  exact ⟨rfl, B2.out⟩
set_option maxRecDepth 100000 in
theorem wr_not (x a : Ex) (w : World) (bb o cap : Nat) (ka : Option Addr) (ca : Nat) (e1 : ((x.op : Int) == 1) = false) (e2 : ((x.op : Int) == 2) = false) (e3 : ((x.op : Int) == 3) = false) (e4 : ((x.op : Int) == 4) = false) (e5 : ((x.op : Int) == 5) = true) (Y : ByteArray) (hY : Y.size ≤ 13100) (hk : KidAt w bb o a ka ca)
    (c : ∀ W, Below w.heap.size w W → Calls Tryd.prog 42 #[exV a (.slice ka a.args.length ca), .int .i64 6] W fun e w' => e = .returned (.string Y) ∧ Below W.heap.size W w') :
    Calls Tryd.prog 25 #[exV x (.slice (some ⟨bb, o, none⟩) 1 cap)] w fun e w' => e = .returned (.string ((⟨#[110, 111, 116, 32]⟩ : ByteArray) ++ Y)) ∧ Below w.heap.size w w' := by
  have b1 := (Below.refl w.heap.size w).alloc (Nat.le_refl _) (.cells #[.int .u8 (x.op : Int), .int .i64 x.n, .string x.name, .slice (some ⟨bb, o, none⟩) 1 cap] 25)
  obtain ⟨v0, v1, v2, v3⟩ := hk.keep b1
  have B1 := hid b1
  clear hk b1
  go_enter Tryd.func25, Tryd.ntmps25
  go_wp2_with (first
    | (go_at_call 42; refine (c _ B1.out).mono ?_; rintro e w2 ⟨rfl, hb2⟩; have B2 := hid (bstep B1.out hb2); clear hb2 c)
    | (go_at_call 41; refine (cn _).mono ?_; rintro e w3 ⟨rfl, rfl⟩))
  go_ret
  exact ⟨rfl, B2.out⟩
set_option maxRecDepth 100000 in
theorem wr_pre (x a : Ex) (w : World) (bb o cap : Nat) (ka : Option Addr) (ca : Nat) (e1 : ((x.op : Int) == 1) = false) (e2 : ((x.op : Int) == 2) = false) (e3 : ((x.op : Int) == 3) = false) (e4 : ((x.op : Int) == 4) = false) (e5 : ((x.op : Int) == 5) = false) (e19 : ((x.op : Int) == 19) = true) (Y : ByteArray) (hY : Y.size ≤ 13100) (hk : KidAt w bb o a ka ca)
    (c : ∀ W, Below w.heap.size w W → Calls Tryd.prog 42 #[exV a (.slice ka a.args.length ca), .int .i64 6] W fun e w' => e = .returned (.string Y) ∧ Below W.heap.size W w') :
    Calls Tryd.prog 25 #[exV x (.slice (some ⟨bb, o, none⟩) 1 cap)] w fun e w' => e = .returned (.string ((⟨#[112, 114, 101, 32]⟩ : ByteArray) ++ Y)) ∧ Below w.heap.size w w' := by
  have b1 := (Below.refl w.heap.size w).alloc (Nat.le_refl _) (.cells #[.int .u8 (x.op : Int), .int .i64 x.n, .string x.name, .slice (some ⟨bb, o, none⟩) 1 cap] 25)
  obtain ⟨v0, v1, v2, v3⟩ := hk.keep b1
  have B1 := hid b1
  clear hk b1
  go_enter Tryd.func25, Tryd.ntmps25
  go_wp2_with (first
    | (go_at_call 42; refine (c _ B1.out).mono ?_; rintro e w2 ⟨rfl, hb2⟩; have B2 := hid (bstep B1.out hb2); clear hb2 c)
    | (go_at_call 41; refine (cn _).mono ?_; rintro e w3 ⟨rfl, rfl⟩))
  go_ret
  exact ⟨rfl, B2.out⟩
set_option maxRecDepth 100000 in
set_option maxHeartbeats 2000000 in
theorem wr_if (x a b c : Ex) (w : World) (bb o cap : Nat) (ka kb kc : Option Addr) (ca cb cc : Nat) (e1 : ((x.op : Int) == 1) = false) (e2 : ((x.op : Int) == 2) = false) (e3 : ((x.op : Int) == 3) = false) (e4 : ((x.op : Int) == 4) = false) (e5 : ((x.op : Int) == 5) = false) (e19 : ((x.op : Int) == 19) = false) (e17 : ((x.op : Int) == 17) = true) (Y1 Y2 Y3 : ByteArray) (hY1 : Y1.size ≤ 13100) (hY2 : Y2.size ≤ 13100) (hY3 : Y3.size ≤ 13100)
    (hk : KidAt w bb o a ka ca ∧ KidAt w bb (o + 4) b kb cb ∧ KidAt w bb (o + 8) c kc cc)
    (c1 : ∀ W, Below w.heap.size w W → Calls Tryd.prog 42 #[exV a (.slice ka a.args.length ca), .int .i64 0] W fun e w' => e = .returned (.string Y1) ∧ Below W.heap.size W w')
    (c2 : ∀ W, Below w.heap.size w W → Calls Tryd.prog 42 #[exV b (.slice kb b.args.length cb), .int .i64 0] W fun e w' => e = .returned (.string Y2) ∧ Below W.heap.size W w')
    (c3 : ∀ W, Below w.heap.size w W → Calls Tryd.prog 42 #[exV c (.slice kc c.args.length cc), .int .i64 0] W fun e w' => e = .returned (.string Y3) ∧ Below W.heap.size W w') :
    Calls Tryd.prog 25 #[exV x (.slice (some ⟨bb, o, none⟩) 3 cap)] w fun e w' => e = .returned (.string ((⟨#[105, 102, 32]⟩ : ByteArray) ++ Y1 ++ (⟨#[32, 116, 104, 101, 110, 32]⟩ : ByteArray) ++ Y2 ++ (⟨#[32, 101, 108, 115, 101, 32]⟩ : ByteArray) ++ Y3)) ∧ Below w.heap.size w w' := by
  have b1 := (Below.refl w.heap.size w).alloc (Nat.le_refl _) (.cells #[.int .u8 (x.op : Int), .int .i64 x.n, .string x.name, .slice (some ⟨bb, o, none⟩) 3 cap] 25)
  have B1 := hid b1
  have X1 : (w.alloc (.cells #[.int .u8 (x.op : Int), .int .i64 x.n, .string x.name, .slice (some ⟨bb, o, none⟩) 3 cap] 25)).drew.cell? ⟨w.heap.size, 3, none⟩ = some (.slice (some ⟨bb, o, none⟩) 3 cap) := box_at w _ 25 3 _ rfl
  have hSH : ∀ W, Below w.heap.size w W → W.cell? ⟨w.heap.size, 3, none⟩ = some (.slice (some ⟨bb, o, none⟩) 3 cap) → W.cell? ⟨w.heap.size, 3, none⟩ = some (.slice (some ⟨bb, o, none⟩) 3 cap) ∧ (W.cell? ⟨bb, o, none⟩ = some (.int .u8 (a.op : Int)) ∧ W.cell? ⟨bb, o + 1, none⟩ = some (.int .i64 a.n) ∧ W.cell? ⟨bb, o + 2, none⟩ = some (.string a.name) ∧ W.cell? ⟨bb, o + 3, none⟩ = some (.slice ka a.args.length ca)) ∧ (W.cell? ⟨bb, o + 4, none⟩ = some (.int .u8 (b.op : Int)) ∧ W.cell? ⟨bb, o + 5, none⟩ = some (.int .i64 b.n) ∧ W.cell? ⟨bb, o + 6, none⟩ = some (.string b.name) ∧ W.cell? ⟨bb, o + 7, none⟩ = some (.slice kb b.args.length cb)) ∧ (W.cell? ⟨bb, o + 8, none⟩ = some (.int .u8 (c.op : Int)) ∧ W.cell? ⟨bb, o + 9, none⟩ = some (.int .i64 c.n) ∧ W.cell? ⟨bb, o + 10, none⟩ = some (.string c.name) ∧ W.cell? ⟨bb, o + 11, none⟩ = some (.slice kc c.args.length cc)) := fun W hb h => ⟨h, hk.1.keep hb, hk.2.1.keep hb, hk.2.2.keep hb⟩
  clear hk b1
  go_enter Tryd.func25, Tryd.ntmps25
  go_wp2
  refine wp_region_held_drew (S := fun W => W.cell? ⟨w.heap.size, 3, none⟩ = some (.slice (some ⟨bb, o, none⟩) 3 cap) ∧ (W.cell? ⟨bb, o, none⟩ = some (.int .u8 (a.op : Int)) ∧ W.cell? ⟨bb, o + 1, none⟩ = some (.int .i64 a.n) ∧ W.cell? ⟨bb, o + 2, none⟩ = some (.string a.name) ∧ W.cell? ⟨bb, o + 3, none⟩ = some (.slice ka a.args.length ca)) ∧ (W.cell? ⟨bb, o + 4, none⟩ = some (.int .u8 (b.op : Int)) ∧ W.cell? ⟨bb, o + 5, none⟩ = some (.int .i64 b.n) ∧ W.cell? ⟨bb, o + 6, none⟩ = some (.string b.name) ∧ W.cell? ⟨bb, o + 7, none⟩ = some (.slice kb b.args.length cb)) ∧ (W.cell? ⟨bb, o + 8, none⟩ = some (.int .u8 (c.op : Int)) ∧ W.cell? ⟨bb, o + 9, none⟩ = some (.int .i64 c.n) ∧ W.cell? ⟨bb, o + 10, none⟩ = some (.string c.name) ∧ W.cell? ⟨bb, o + 11, none⟩ = some (.slice kc c.args.length cc))) (by kernel_rfl) ?_ (fun hHeld => ?_)
  · exact hSH _ B1.out.drew X1
  refine wpAnyH_take (i := 0) (oi := { dst := some 49, op := Go.Op.fieldAddr 25 (Go.Operand.tmp 1) 3, type := 0, pos := _, after := #[], guard := none }) (v := ?_) rfl (by kernel_rfl) (by kernel_rfl) (by kernel_rfl) (fun _ _ _ h => h) (Or.inl ⟨by rfl, ?_⟩) (by assumption) ?_
  rotate_left
  · intro w hSw; (try dsimp only at hSw); go_simp <;> first | with_reducible rfl | (rw [if_neg (by first | omega | (simp only [ByteArray.size_append] at *; omega))])
  simp only [Act.put, List.setIfInBounds_toArray, List.set_cons_zero, List.set_cons_succ]
  refine wpAnyH_take (i := 1) (oi := { dst := some 50, op := Go.Op.load 23 (Go.Operand.tmp 49), type := 23, pos := _, after := #[{ on := 0, ground := Go.Ground.data }], guard := none }) (v := ?_) rfl (by kernel_rfl) (by kernel_rfl) (by kernel_rfl) (fun _ _ _ h => h) (Or.inl ⟨by rfl, ?_⟩) (by assumption) ?_
  rotate_left
  · intro w hSw; (try dsimp only at hSw); go_simp <;> first | with_reducible rfl | (rw [if_neg (by first | omega | (simp only [ByteArray.size_append] at *; omega))])
  simp only [Act.put, List.setIfInBounds_toArray, List.set_cons_zero, List.set_cons_succ]
  refine wpAnyH_take (i := 2) (oi := { dst := some 51, op := Go.Op.indexAddr 23 (Go.Operand.tmp 50) (Go.Operand.const (Go.Value.int Go.IntKind.i64 0)), type := 0, pos := _, after := #[{ on := 1, ground := Go.Ground.data }], guard := none }) (v := ?_) rfl (by kernel_rfl) (by kernel_rfl) (by kernel_rfl) (fun _ _ _ h => h) (Or.inl ⟨by rfl, ?_⟩) (by assumption) ?_
  rotate_left
  · intro w hSw; (try dsimp only at hSw); go_simp <;> first | with_reducible rfl | (rw [if_neg (by first | omega | (simp only [ByteArray.size_append] at *; omega))])
  simp only [Act.put, List.setIfInBounds_toArray, List.set_cons_zero, List.set_cons_succ]
  refine wpAnyH_take (i := 3) (oi := { dst := some 52, op := Go.Op.load 25 (Go.Operand.tmp 51), type := 25, pos := _, after := #[{ on := 2, ground := Go.Ground.data }], guard := none }) (v := ?_) rfl (by kernel_rfl) (by kernel_rfl) (by kernel_rfl) (fun _ _ _ h => h) (Or.inl ⟨by rfl, ?_⟩) (by assumption) ?_
  rotate_left
  · intro w hSw; (try dsimp only at hSw); go_simp <;> first | with_reducible rfl | (rw [if_neg (by first | omega | (simp only [ByteArray.size_append] at *; omega))])
  simp only [Act.put, List.setIfInBounds_toArray, List.set_cons_zero, List.set_cons_succ]
  refine wpAnyH_take (i := 7) (oi := { dst := some 56, op := Go.Op.fieldAddr 25 (Go.Operand.tmp 1) 3, type := 0, pos := _, after := #[], guard := none }) (v := ?_) rfl (by kernel_rfl) (by kernel_rfl) (by kernel_rfl) (fun _ _ _ h => h) (Or.inl ⟨by rfl, ?_⟩) (by assumption) ?_
  rotate_left
  · intro w hSw; (try dsimp only at hSw); go_simp <;> first | with_reducible rfl | (rw [if_neg (by first | omega | (simp only [ByteArray.size_append] at *; omega))])
  simp only [Act.put, List.setIfInBounds_toArray, List.set_cons_zero, List.set_cons_succ]
  refine wpAnyH_take (i := 8) (oi := { dst := some 57, op := Go.Op.load 23 (Go.Operand.tmp 56), type := 23, pos := _, after := #[{ on := 7, ground := Go.Ground.data }], guard := none }) (v := ?_) rfl (by kernel_rfl) (by kernel_rfl) (by kernel_rfl) (fun _ _ _ h => h) (Or.inl ⟨by rfl, ?_⟩) (by assumption) ?_
  rotate_left
  · intro w hSw; (try dsimp only at hSw); go_simp <;> first | with_reducible rfl | (rw [if_neg (by first | omega | (simp only [ByteArray.size_append] at *; omega))])
  simp only [Act.put, List.setIfInBounds_toArray, List.set_cons_zero, List.set_cons_succ]
  refine wpAnyH_take (i := 9) (oi := { dst := some 58, op := Go.Op.indexAddr 23 (Go.Operand.tmp 57) (Go.Operand.const (Go.Value.int Go.IntKind.i64 1)), type := 0, pos := _, after := #[{ on := 8, ground := Go.Ground.data }], guard := none }) (v := ?_) rfl (by kernel_rfl) (by kernel_rfl) (by kernel_rfl) (fun _ _ _ h => h) (Or.inl ⟨by rfl, ?_⟩) (by assumption) ?_
  rotate_left
  · intro w hSw; (try dsimp only at hSw); go_simp <;> first | with_reducible rfl | (rw [if_neg (by first | omega | (simp only [ByteArray.size_append] at *; omega))])
  simp only [Act.put, List.setIfInBounds_toArray, List.set_cons_zero, List.set_cons_succ]
  refine wpAnyH_take (i := 10) (oi := { dst := some 59, op := Go.Op.load 25 (Go.Operand.tmp 58), type := 25, pos := _, after := #[{ on := 9, ground := Go.Ground.data }], guard := none }) (v := ?_) rfl (by kernel_rfl) (by kernel_rfl) (by kernel_rfl) (fun _ _ _ h => h) (Or.inl ⟨by rfl, ?_⟩) (by assumption) ?_
  rotate_left
  · intro w hSw; (try dsimp only at hSw); go_simp <;> first | with_reducible rfl | (rw [if_neg (by first | omega | (simp only [ByteArray.size_append] at *; omega))])
  simp only [Act.put, List.setIfInBounds_toArray, List.set_cons_zero, List.set_cons_succ]
  refine wpAnyH_take (i := 14) (oi := { dst := some 63, op := Go.Op.fieldAddr 25 (Go.Operand.tmp 1) 3, type := 0, pos := _, after := #[], guard := none }) (v := ?_) rfl (by kernel_rfl) (by kernel_rfl) (by kernel_rfl) (fun _ _ _ h => h) (Or.inl ⟨by rfl, ?_⟩) (by assumption) ?_
  rotate_left
  · intro w hSw; (try dsimp only at hSw); go_simp <;> first | with_reducible rfl | (rw [if_neg (by first | omega | (simp only [ByteArray.size_append] at *; omega))])
  simp only [Act.put, List.setIfInBounds_toArray, List.set_cons_zero, List.set_cons_succ]
  refine wpAnyH_take (i := 15) (oi := { dst := some 64, op := Go.Op.load 23 (Go.Operand.tmp 63), type := 23, pos := _, after := #[{ on := 14, ground := Go.Ground.data }], guard := none }) (v := ?_) rfl (by kernel_rfl) (by kernel_rfl) (by kernel_rfl) (fun _ _ _ h => h) (Or.inl ⟨by rfl, ?_⟩) (by assumption) ?_
  rotate_left
  · intro w hSw; (try dsimp only at hSw); go_simp <;> first | with_reducible rfl | (rw [if_neg (by first | omega | (simp only [ByteArray.size_append] at *; omega))])
  simp only [Act.put, List.setIfInBounds_toArray, List.set_cons_zero, List.set_cons_succ]
  refine wpAnyH_take (i := 16) (oi := { dst := some 65, op := Go.Op.indexAddr 23 (Go.Operand.tmp 64) (Go.Operand.const (Go.Value.int Go.IntKind.i64 2)), type := 0, pos := _, after := #[{ on := 15, ground := Go.Ground.data }], guard := none }) (v := ?_) rfl (by kernel_rfl) (by kernel_rfl) (by kernel_rfl) (fun _ _ _ h => h) (Or.inl ⟨by rfl, ?_⟩) (by assumption) ?_
  rotate_left
  · intro w hSw; (try dsimp only at hSw); go_simp <;> first | with_reducible rfl | (rw [if_neg (by first | omega | (simp only [ByteArray.size_append] at *; omega))])
  simp only [Act.put, List.setIfInBounds_toArray, List.set_cons_zero, List.set_cons_succ]
  refine wpAnyH_take (i := 17) (oi := { dst := some 66, op := Go.Op.load 25 (Go.Operand.tmp 65), type := 25, pos := _, after := #[{ on := 16, ground := Go.Ground.data }], guard := none }) (v := ?_) rfl (by kernel_rfl) (by kernel_rfl) (by kernel_rfl) (fun _ _ _ h => h) (Or.inl ⟨by rfl, ?_⟩) (by assumption) ?_
  rotate_left
  · intro w hSw; (try dsimp only at hSw); go_simp <;> first | with_reducible rfl | (rw [if_neg (by first | omega | (simp only [ByteArray.size_append] at *; omega))])
  simp only [Act.put, List.setIfInBounds_toArray, List.set_cons_zero, List.set_cons_succ]
  refine wpAnyH_ready (rs := [4]) (by kernel_rfl) (by simp) ?_
  refine AllReadyH.cons (o := { dst := some 53, op := Go.Op.call { callee := Go.Callee.value (Go.Operand.func 42), args := #[Go.Operand.tmp 52, Go.Operand.const (Go.Value.int Go.IntKind.i64 0)], argTypes := #[25, 3] }, type := 9, pos := _, after := #[{ on := 3, ground := Go.Ground.data }], guard := none }) rfl (fun K hK => ?_) AllReadyH.nil
  go_simp
  refine (c1 _ (B1.out.drew)).mono ?_
  rintro e w2 ⟨rfl, hw2⟩
  have B2 := hid (bstep (B1.out.drew) hw2)
  have X2 := cell_kept X1 hw2
  go_wp2_with fail
  refine hK.out _ _ ?_ (fun hHeld1 => ?_)
  · exact hSH _ B2.out X2
  clear hK K
  refine wpAnyH_take (i := 5) (oi := { dst := some 54, op := Go.Op.binOp Go.BinOp.add 9 (Go.Operand.const (Go.Value.string { data := #[105, 102, 32] })) (Go.Operand.tmp 53) 9, type := 9, pos := _, after := #[{ on := 4, ground := Go.Ground.data }], guard := none }) (v := ?_) rfl (by kernel_rfl) (by kernel_rfl) (by kernel_rfl) (fun _ _ _ h => h) (Or.inl ⟨by rfl, ?_⟩) (by assumption) ?_
  rotate_left
  · intro w hSw; (try dsimp only at hSw); go_simp <;> first | with_reducible rfl | (rw [if_neg (by first | omega | (simp only [ByteArray.size_append] at *; omega))])
  simp only [Act.put, List.setIfInBounds_toArray, List.set_cons_zero, List.set_cons_succ]
  refine wpAnyH_take (i := 6) (oi := { dst := some 55, op := Go.Op.binOp Go.BinOp.add 9 (Go.Operand.tmp 54) (Go.Operand.const (Go.Value.string { data := #[32, 116, 104, 101, 110, 32] })) 9, type := 9, pos := _, after := #[{ on := 5, ground := Go.Ground.data }], guard := none }) (v := ?_) rfl (by kernel_rfl) (by kernel_rfl) (by kernel_rfl) (fun _ _ _ h => h) (Or.inl ⟨by rfl, ?_⟩) (by assumption) ?_
  rotate_left
  · intro w hSw; (try dsimp only at hSw); go_simp <;> first | with_reducible rfl | (rw [if_neg (by first | omega | (simp only [ByteArray.size_append] at *; omega))])
  simp only [Act.put, List.setIfInBounds_toArray, List.set_cons_zero, List.set_cons_succ]
  refine wpAnyH_ready (rs := [11]) (by kernel_rfl) (by simp) ?_
  refine AllReadyH.cons (o := { dst := some 60, op := Go.Op.call { callee := Go.Callee.value (Go.Operand.func 42), args := #[Go.Operand.tmp 59, Go.Operand.const (Go.Value.int Go.IntKind.i64 0)], argTypes := #[25, 3] }, type := 9, pos := _, after := #[{ on := 10, ground := Go.Ground.data }, { on := 4, ground := Go.Ground.chain }], guard := none }) rfl (fun K hK => ?_) AllReadyH.nil
  go_simp
  refine (c2 _ (B2.out)).mono ?_
  rintro e w3 ⟨rfl, hw3⟩
  have B3 := hid (bstep (B2.out) hw3)
  have X3 := cell_kept X2 hw3
  go_wp2_with fail
  refine hK.out _ _ ?_ (fun hHeld2 => ?_)
  · exact hSH _ B3.out X3
  clear hK K
  refine wpAnyH_take (i := 12) (oi := { dst := some 61, op := Go.Op.binOp Go.BinOp.add 9 (Go.Operand.tmp 55) (Go.Operand.tmp 60) 9, type := 9, pos := _, after := #[{ on := 6, ground := Go.Ground.data }, { on := 11, ground := Go.Ground.data }], guard := none }) (v := ?_) rfl (by kernel_rfl) (by kernel_rfl) (by kernel_rfl) (fun _ _ _ h => h) (Or.inl ⟨by rfl, ?_⟩) (by assumption) ?_
  rotate_left
  · intro w hSw; (try dsimp only at hSw); go_simp <;> first | with_reducible rfl | (rw [if_neg (by first | omega | (simp only [ByteArray.size_append] at *; omega))])
  simp only [Act.put, List.setIfInBounds_toArray, List.set_cons_zero, List.set_cons_succ]
  refine wpAnyH_take (i := 13) (oi := { dst := some 62, op := Go.Op.binOp Go.BinOp.add 9 (Go.Operand.tmp 61) (Go.Operand.const (Go.Value.string { data := #[32, 101, 108, 115, 101, 32] })) 9, type := 9, pos := _, after := #[{ on := 12, ground := Go.Ground.data }], guard := none }) (v := ?_) rfl (by kernel_rfl) (by kernel_rfl) (by kernel_rfl) (fun _ _ _ h => h) (Or.inl ⟨by rfl, ?_⟩) (by assumption) ?_
  rotate_left
  · intro w hSw; (try dsimp only at hSw); go_simp <;> first | with_reducible rfl | (rw [if_neg (by first | omega | (simp only [ByteArray.size_append] at *; omega))])
  simp only [Act.put, List.setIfInBounds_toArray, List.set_cons_zero, List.set_cons_succ]
  refine wpAnyH_ready (rs := [18]) (by kernel_rfl) (by simp) ?_
  refine AllReadyH.cons (o := { dst := some 67, op := Go.Op.call { callee := Go.Callee.value (Go.Operand.func 42), args := #[Go.Operand.tmp 66, Go.Operand.const (Go.Value.int Go.IntKind.i64 0)], argTypes := #[25, 3] }, type := 9, pos := _, after := #[{ on := 17, ground := Go.Ground.data }, { on := 11, ground := Go.Ground.chain }], guard := none }) rfl (fun K hK => ?_) AllReadyH.nil
  go_simp
  refine (c3 _ (B3.out)).mono ?_
  rintro e w4 ⟨rfl, hw4⟩
  have B4 := hid (bstep (B3.out) hw4)
  have X4 := cell_kept X3 hw4
  go_wp2_with fail
  refine hK.out _ _ ?_ (fun hHeld3 => ?_)
  · exact hSH _ B4.out X4
  clear hK K
  refine wpAnyH_take (i := 19) (oi := { dst := some 68, op := Go.Op.binOp Go.BinOp.add 9 (Go.Operand.tmp 62) (Go.Operand.tmp 67) 9, type := 9, pos := _, after := #[{ on := 13, ground := Go.Ground.data }, { on := 18, ground := Go.Ground.data }], guard := none }) (v := ?_) rfl (by kernel_rfl) (by kernel_rfl) (by kernel_rfl) (fun _ _ _ h => h) (Or.inl ⟨by rfl, ?_⟩) (by assumption) ?_
  rotate_left
  · intro w hSw; (try dsimp only at hSw); go_simp <;> first | with_reducible rfl | (rw [if_neg (by first | omega | (simp only [ByteArray.size_append] at *; omega))])
  simp only [Act.put, List.setIfInBounds_toArray, List.set_cons_zero, List.set_cons_succ]
  refine wpAnyH_take (i := 20) (oi := { dst := some 2, op := Go.Op.assign (Go.Operand.tmp 68), type := 9, pos := _, after := #[{ on := 19, ground := Go.Ground.data }, { on := 18, ground := Go.Ground.chain }, { on := 0, ground := Go.Ground.phase }, { on := 1, ground := Go.Ground.phase }, { on := 2, ground := Go.Ground.phase }, { on := 3, ground := Go.Ground.phase }, { on := 4, ground := Go.Ground.phase }, { on := 5, ground := Go.Ground.phase }, { on := 6, ground := Go.Ground.phase }, { on := 7, ground := Go.Ground.phase }, { on := 8, ground := Go.Ground.phase }, { on := 9, ground := Go.Ground.phase }, { on := 10, ground := Go.Ground.phase }, { on := 11, ground := Go.Ground.phase }, { on := 12, ground := Go.Ground.phase }, { on := 13, ground := Go.Ground.phase }, { on := 14, ground := Go.Ground.phase }, { on := 15, ground := Go.Ground.phase }, { on := 16, ground := Go.Ground.phase }, { on := 17, ground := Go.Ground.phase }, { on := 18, ground := Go.Ground.phase }, { on := 19, ground := Go.Ground.phase }], guard := none }) (v := ?_) rfl (by kernel_rfl) (by kernel_rfl) (by kernel_rfl) (fun _ _ _ h => h) (Or.inl ⟨by rfl, ?_⟩) (by assumption) ?_
  rotate_left
  · intro w hSw; (try dsimp only at hSw); go_simp <;> first | with_reducible rfl | (rw [if_neg (by first | omega | (simp only [ByteArray.size_append] at *; omega))])
  simp only [Act.put, List.setIfInBounds_toArray, List.set_cons_zero, List.set_cons_succ]
  refine wpAnyH_done (by kernel_rfl) ?_ _
  go_wp2
  go_ret
  exact ⟨rfl, B4.out⟩
set_option maxRecDepth 100000 in
set_option maxHeartbeats 2000000 in
theorem wr_join (x a b : Ex) (w : World) (bb o cap : Nat) (ka kb : Option Addr) (ca cb : Nat) (e1 : ((x.op : Int) == 1) = false) (e2 : ((x.op : Int) == 2) = false) (e3 : ((x.op : Int) == 3) = false) (e4 : ((x.op : Int) == 4) = false) (e5 : ((x.op : Int) == 5) = false) (e19 : ((x.op : Int) == 19) = false) (e17 : ((x.op : Int) == 17) = false) (r : J) (hr : r.text.size ≤ 3) (Y1 Y2 : ByteArray) (hY1 : Y1.size ≤ 13100) (hY2 : Y2.size ≤ 13100)
    (hk : KidAt w bb o a ka ca ∧ KidAt w bb (o + 4) b kb cb)
    (c0 : ∀ W, Below w.heap.size w W → Calls Tryd.prog 43 #[.int .u8 (x.op : Int)] W fun e w' => e = .returned (.tuple #[.agg #[.int .u8 (r.op : Int), .int .u8 (r.kind : Int), .string r.text, .int .i64 (r.rank : Int), .int .i64 (r.first : Int), .int .i64 (r.second : Int)], .bool true]) ∧ Below W.heap.size W w')
    (c1 : ∀ W, Below w.heap.size w W → Calls Tryd.prog 42 #[exV a (.slice ka a.args.length ca), .int .i64 (r.first : Int)] W fun e w' => e = .returned (.string Y1) ∧ Below W.heap.size W w')
    (c2 : ∀ W, Below w.heap.size w W → Calls Tryd.prog 42 #[exV b (.slice kb b.args.length cb), .int .i64 (r.second : Int)] W fun e w' => e = .returned (.string Y2) ∧ Below W.heap.size W w') :
    Calls Tryd.prog 25 #[exV x (.slice (some ⟨bb, o, none⟩) 2 cap)] w fun e w' => e = .returned (.string (Y1 ++ (⟨#[32]⟩ : ByteArray) ++ r.text ++ (⟨#[32]⟩ : ByteArray) ++ Y2)) ∧ Below w.heap.size w w' := by
  have b0 := (Below.refl w.heap.size w).alloc (Nat.le_refl _) (.cells #[.int .u8 (x.op : Int), .int .i64 x.n, .string x.name, .slice (some ⟨bb, o, none⟩) 2 cap] 25)
  have B0 := hid b0
  have X0 : (w.alloc (.cells #[.int .u8 (x.op : Int), .int .i64 x.n, .string x.name, .slice (some ⟨bb, o, none⟩) 2 cap] 25)).cell? ⟨w.heap.size, 3, none⟩ = some (.slice (some ⟨bb, o, none⟩) 2 cap) := box_at w _ 25 3 _ rfl
  have HK := hid hk
  clear hk b0
  go_enter Tryd.func25, Tryd.ntmps25
  go_wp2_with (go_at_call 43; refine (c0 _ B0.out).mono ?_; rintro e w0 ⟨rfl, hb0⟩)
  have B1 := hid (bstep (bstep B0.out hb0) ((Below.refl _ _).alloc (Nat.le_refl _) (.cells #[.int .u8 (r.op : Int), .int .u8 (r.kind : Int), .string r.text, .int .i64 (r.rank : Int), .int .i64 (r.first : Int), .int .i64 (r.second : Int)] 83)))
  have hx0 : (w0.alloc (.cells #[.int .u8 (r.op : Int), .int .u8 (r.kind : Int), .string r.text, .int .i64 (r.rank : Int), .int .i64 (r.first : Int), .int .i64 (r.second : Int)] 83)).cell? ⟨w.heap.size, 3, none⟩ = some (.slice (some ⟨bb, o, none⟩) 2 cap) := cell_kept (cell_kept X0 hb0) ((Below.refl _ _).alloc (Nat.le_refl _) _)
  have X1 : (w0.alloc (.cells #[.int .u8 (r.op : Int), .int .u8 (r.kind : Int), .string r.text, .int .i64 (r.rank : Int), .int .i64 (r.first : Int), .int .i64 (r.second : Int)] 83)).drew.cell? ⟨w.heap.size, 3, none⟩ = some (.slice (some ⟨bb, o, none⟩) 2 cap) ∧ (w0.alloc (.cells #[.int .u8 (r.op : Int), .int .u8 (r.kind : Int), .string r.text, .int .i64 (r.rank : Int), .int .i64 (r.first : Int), .int .i64 (r.second : Int)] 83)).drew.cell? ⟨w0.heap.size, 2, none⟩ = some (.string r.text) ∧ (w0.alloc (.cells #[.int .u8 (r.op : Int), .int .u8 (r.kind : Int), .string r.text, .int .i64 (r.rank : Int), .int .i64 (r.first : Int), .int .i64 (r.second : Int)] 83)).drew.cell? ⟨w0.heap.size, 4, none⟩ = some (.int .i64 (r.first : Int)) ∧ (w0.alloc (.cells #[.int .u8 (r.op : Int), .int .u8 (r.kind : Int), .string r.text, .int .i64 (r.rank : Int), .int .i64 (r.first : Int), .int .i64 (r.second : Int)] 83)).drew.cell? ⟨w0.heap.size, 5, none⟩ = some (.int .i64 (r.second : Int)) := ⟨hx0, box_at w0 _ 83 2 _ rfl, box_at w0 _ 83 4 _ rfl, box_at w0 _ 83 5 _ rfl⟩
  clear hx0 hb0 c0 X0
  have hSH : ∀ W, Below w.heap.size w W → (W.cell? ⟨w.heap.size, 3, none⟩ = some (.slice (some ⟨bb, o, none⟩) 2 cap) ∧ W.cell? ⟨w0.heap.size, 2, none⟩ = some (.string r.text) ∧ W.cell? ⟨w0.heap.size, 4, none⟩ = some (.int .i64 (r.first : Int)) ∧ W.cell? ⟨w0.heap.size, 5, none⟩ = some (.int .i64 (r.second : Int))) → (W.cell? ⟨w.heap.size, 3, none⟩ = some (.slice (some ⟨bb, o, none⟩) 2 cap) ∧ W.cell? ⟨w0.heap.size, 2, none⟩ = some (.string r.text) ∧ W.cell? ⟨w0.heap.size, 4, none⟩ = some (.int .i64 (r.first : Int)) ∧ W.cell? ⟨w0.heap.size, 5, none⟩ = some (.int .i64 (r.second : Int))) ∧ (W.cell? ⟨bb, o, none⟩ = some (.int .u8 (a.op : Int)) ∧ W.cell? ⟨bb, o + 1, none⟩ = some (.int .i64 a.n) ∧ W.cell? ⟨bb, o + 2, none⟩ = some (.string a.name) ∧ W.cell? ⟨bb, o + 3, none⟩ = some (.slice ka a.args.length ca)) ∧ (W.cell? ⟨bb, o + 4, none⟩ = some (.int .u8 (b.op : Int)) ∧ W.cell? ⟨bb, o + 5, none⟩ = some (.int .i64 b.n) ∧ W.cell? ⟨bb, o + 6, none⟩ = some (.string b.name) ∧ W.cell? ⟨bb, o + 7, none⟩ = some (.slice kb b.args.length cb)) := fun W hb h => ⟨h, HK.out.1.keep hb, HK.out.2.keep hb⟩
  refine wp_region_held_drew (S := fun W => (W.cell? ⟨w.heap.size, 3, none⟩ = some (.slice (some ⟨bb, o, none⟩) 2 cap) ∧ W.cell? ⟨w0.heap.size, 2, none⟩ = some (.string r.text) ∧ W.cell? ⟨w0.heap.size, 4, none⟩ = some (.int .i64 (r.first : Int)) ∧ W.cell? ⟨w0.heap.size, 5, none⟩ = some (.int .i64 (r.second : Int))) ∧ (W.cell? ⟨bb, o, none⟩ = some (.int .u8 (a.op : Int)) ∧ W.cell? ⟨bb, o + 1, none⟩ = some (.int .i64 a.n) ∧ W.cell? ⟨bb, o + 2, none⟩ = some (.string a.name) ∧ W.cell? ⟨bb, o + 3, none⟩ = some (.slice ka a.args.length ca)) ∧ (W.cell? ⟨bb, o + 4, none⟩ = some (.int .u8 (b.op : Int)) ∧ W.cell? ⟨bb, o + 5, none⟩ = some (.int .i64 b.n) ∧ W.cell? ⟨bb, o + 6, none⟩ = some (.string b.name) ∧ W.cell? ⟨bb, o + 7, none⟩ = some (.slice kb b.args.length cb))) (by kernel_rfl) ?_ (fun hHeld => ?_)
  · exact hSH _ B1.out.drew X1
  refine wpAnyH_take (i := 0) (oi := { dst := some 75, op := Go.Op.fieldAddr 25 (Go.Operand.tmp 1) 3, type := 0, pos := _, after := #[], guard := none }) (v := ?_) rfl (by kernel_rfl) (by kernel_rfl) (by kernel_rfl) (fun _ _ _ h => h) (Or.inl ⟨by rfl, ?_⟩) (by assumption) ?_
  rotate_left
  · intro w hSw; (try dsimp only at hSw); go_simp <;> first | with_reducible rfl | (rw [if_neg (by first | omega | (simp only [ByteArray.size_append] at *; omega))])
  simp only [Act.put, List.setIfInBounds_toArray, List.set_cons_zero, List.set_cons_succ]
  refine wpAnyH_take (i := 1) (oi := { dst := some 76, op := Go.Op.load 23 (Go.Operand.tmp 75), type := 23, pos := _, after := #[{ on := 0, ground := Go.Ground.data }], guard := none }) (v := ?_) rfl (by kernel_rfl) (by kernel_rfl) (by kernel_rfl) (fun _ _ _ h => h) (Or.inl ⟨by rfl, ?_⟩) (by assumption) ?_
  rotate_left
  · intro w hSw; (try dsimp only at hSw); go_simp <;> first | with_reducible rfl | (rw [if_neg (by first | omega | (simp only [ByteArray.size_append] at *; omega))])
  simp only [Act.put, List.setIfInBounds_toArray, List.set_cons_zero, List.set_cons_succ]
  refine wpAnyH_take (i := 2) (oi := { dst := some 77, op := Go.Op.indexAddr 23 (Go.Operand.tmp 76) (Go.Operand.const (Go.Value.int Go.IntKind.i64 0)), type := 0, pos := _, after := #[{ on := 1, ground := Go.Ground.data }], guard := none }) (v := ?_) rfl (by kernel_rfl) (by kernel_rfl) (by kernel_rfl) (fun _ _ _ h => h) (Or.inl ⟨by rfl, ?_⟩) (by assumption) ?_
  rotate_left
  · intro w hSw; (try dsimp only at hSw); go_simp <;> first | with_reducible rfl | (rw [if_neg (by first | omega | (simp only [ByteArray.size_append] at *; omega))])
  simp only [Act.put, List.setIfInBounds_toArray, List.set_cons_zero, List.set_cons_succ]
  refine wpAnyH_take (i := 3) (oi := { dst := some 78, op := Go.Op.load 25 (Go.Operand.tmp 77), type := 25, pos := _, after := #[{ on := 2, ground := Go.Ground.data }], guard := none }) (v := ?_) rfl (by kernel_rfl) (by kernel_rfl) (by kernel_rfl) (fun _ _ _ h => h) (Or.inl ⟨by rfl, ?_⟩) (by assumption) ?_
  rotate_left
  · intro w hSw; (try dsimp only at hSw); go_simp <;> first | with_reducible rfl | (rw [if_neg (by first | omega | (simp only [ByteArray.size_append] at *; omega))])
  simp only [Act.put, List.setIfInBounds_toArray, List.set_cons_zero, List.set_cons_succ]
  refine wpAnyH_take (i := 4) (oi := { dst := some 79, op := Go.Op.fieldAddr 83 (Go.Operand.tmp 3) 3, type := 0, pos := _, after := #[], guard := none }) (v := ?_) rfl (by kernel_rfl) (by kernel_rfl) (by kernel_rfl) (fun _ _ _ h => h) (Or.inl ⟨by rfl, ?_⟩) (by assumption) ?_
  rotate_left
  · intro w hSw; (try dsimp only at hSw); go_simp <;> first | with_reducible rfl | (rw [if_neg (by first | omega | (simp only [ByteArray.size_append] at *; omega))])
  simp only [Act.put, List.setIfInBounds_toArray, List.set_cons_zero, List.set_cons_succ]
  refine wpAnyH_take (i := 5) (oi := { dst := some 80, op := Go.Op.load 3 (Go.Operand.tmp 79), type := 3, pos := _, after := #[{ on := 4, ground := Go.Ground.data }], guard := none }) (v := ?_) rfl (by kernel_rfl) (by kernel_rfl) (by kernel_rfl) (fun _ _ _ h => h) (Or.inl ⟨by rfl, ?_⟩) (by assumption) ?_
  rotate_left
  · intro w hSw; (try dsimp only at hSw); go_simp <;> first | with_reducible rfl | (rw [if_neg (by first | omega | (simp only [ByteArray.size_append] at *; omega))])
  simp only [Act.put, List.setIfInBounds_toArray, List.set_cons_zero, List.set_cons_succ]
  refine wpAnyH_take (i := 8) (oi := { dst := some 83, op := Go.Op.fieldAddr 83 (Go.Operand.tmp 3) 1, type := 0, pos := _, after := #[], guard := none }) (v := ?_) rfl (by kernel_rfl) (by kernel_rfl) (by kernel_rfl) (fun _ _ _ h => h) (Or.inl ⟨by rfl, ?_⟩) (by assumption) ?_
  rotate_left
  · intro w hSw; (try dsimp only at hSw); go_simp <;> first | with_reducible rfl | (rw [if_neg (by first | omega | (simp only [ByteArray.size_append] at *; omega))])
  simp only [Act.put, List.setIfInBounds_toArray, List.set_cons_zero, List.set_cons_succ]
  refine wpAnyH_take (i := 9) (oi := { dst := some 84, op := Go.Op.fieldAddr 81 (Go.Operand.tmp 83) 1, type := 0, pos := _, after := #[{ on := 8, ground := Go.Ground.data }], guard := none }) (v := ?_) rfl (by kernel_rfl) (by kernel_rfl) (by kernel_rfl) (fun _ _ _ h => h) (Or.inl ⟨by rfl, ?_⟩) (by assumption) ?_
  rotate_left
  · intro w hSw; (try dsimp only at hSw); go_simp <;> first | with_reducible rfl | (rw [if_neg (by first | omega | (simp only [ByteArray.size_append] at *; omega))])
  simp only [Act.put, List.setIfInBounds_toArray, List.set_cons_zero, List.set_cons_succ]
  refine wpAnyH_take (i := 10) (oi := { dst := some 85, op := Go.Op.load 9 (Go.Operand.tmp 84), type := 9, pos := _, after := #[{ on := 9, ground := Go.Ground.data }], guard := none }) (v := ?_) rfl (by kernel_rfl) (by kernel_rfl) (by kernel_rfl) (fun _ _ _ h => h) (Or.inl ⟨by rfl, ?_⟩) (by assumption) ?_
  rotate_left
  · intro w hSw; (try dsimp only at hSw); go_simp <;> first | with_reducible rfl | (rw [if_neg (by first | omega | (simp only [ByteArray.size_append] at *; omega))])
  simp only [Act.put, List.setIfInBounds_toArray, List.set_cons_zero, List.set_cons_succ]
  refine wpAnyH_take (i := 13) (oi := { dst := some 88, op := Go.Op.fieldAddr 25 (Go.Operand.tmp 1) 3, type := 0, pos := _, after := #[], guard := none }) (v := ?_) rfl (by kernel_rfl) (by kernel_rfl) (by kernel_rfl) (fun _ _ _ h => h) (Or.inl ⟨by rfl, ?_⟩) (by assumption) ?_
  rotate_left
  · intro w hSw; (try dsimp only at hSw); go_simp <;> first | with_reducible rfl | (rw [if_neg (by first | omega | (simp only [ByteArray.size_append] at *; omega))])
  simp only [Act.put, List.setIfInBounds_toArray, List.set_cons_zero, List.set_cons_succ]
  refine wpAnyH_take (i := 14) (oi := { dst := some 89, op := Go.Op.load 23 (Go.Operand.tmp 88), type := 23, pos := _, after := #[{ on := 13, ground := Go.Ground.data }], guard := none }) (v := ?_) rfl (by kernel_rfl) (by kernel_rfl) (by kernel_rfl) (fun _ _ _ h => h) (Or.inl ⟨by rfl, ?_⟩) (by assumption) ?_
  rotate_left
  · intro w hSw; (try dsimp only at hSw); go_simp <;> first | with_reducible rfl | (rw [if_neg (by first | omega | (simp only [ByteArray.size_append] at *; omega))])
  simp only [Act.put, List.setIfInBounds_toArray, List.set_cons_zero, List.set_cons_succ]
  refine wpAnyH_take (i := 15) (oi := { dst := some 90, op := Go.Op.indexAddr 23 (Go.Operand.tmp 89) (Go.Operand.const (Go.Value.int Go.IntKind.i64 1)), type := 0, pos := _, after := #[{ on := 14, ground := Go.Ground.data }], guard := none }) (v := ?_) rfl (by kernel_rfl) (by kernel_rfl) (by kernel_rfl) (fun _ _ _ h => h) (Or.inl ⟨by rfl, ?_⟩) (by assumption) ?_
  rotate_left
  · intro w hSw; (try dsimp only at hSw); go_simp <;> first | with_reducible rfl | (rw [if_neg (by first | omega | (simp only [ByteArray.size_append] at *; omega))])
  simp only [Act.put, List.setIfInBounds_toArray, List.set_cons_zero, List.set_cons_succ]
  refine wpAnyH_take (i := 16) (oi := { dst := some 91, op := Go.Op.load 25 (Go.Operand.tmp 90), type := 25, pos := _, after := #[{ on := 15, ground := Go.Ground.data }], guard := none }) (v := ?_) rfl (by kernel_rfl) (by kernel_rfl) (by kernel_rfl) (fun _ _ _ h => h) (Or.inl ⟨by rfl, ?_⟩) (by assumption) ?_
  rotate_left
  · intro w hSw; (try dsimp only at hSw); go_simp <;> first | with_reducible rfl | (rw [if_neg (by first | omega | (simp only [ByteArray.size_append] at *; omega))])
  simp only [Act.put, List.setIfInBounds_toArray, List.set_cons_zero, List.set_cons_succ]
  refine wpAnyH_take (i := 17) (oi := { dst := some 92, op := Go.Op.fieldAddr 83 (Go.Operand.tmp 3) 4, type := 0, pos := _, after := #[], guard := none }) (v := ?_) rfl (by kernel_rfl) (by kernel_rfl) (by kernel_rfl) (fun _ _ _ h => h) (Or.inl ⟨by rfl, ?_⟩) (by assumption) ?_
  rotate_left
  · intro w hSw; (try dsimp only at hSw); go_simp <;> first | with_reducible rfl | (rw [if_neg (by first | omega | (simp only [ByteArray.size_append] at *; omega))])
  simp only [Act.put, List.setIfInBounds_toArray, List.set_cons_zero, List.set_cons_succ]
  refine wpAnyH_take (i := 18) (oi := { dst := some 93, op := Go.Op.load 3 (Go.Operand.tmp 92), type := 3, pos := _, after := #[{ on := 17, ground := Go.Ground.data }], guard := none }) (v := ?_) rfl (by kernel_rfl) (by kernel_rfl) (by kernel_rfl) (fun _ _ _ h => h) (Or.inl ⟨by rfl, ?_⟩) (by assumption) ?_
  rotate_left
  · intro w hSw; (try dsimp only at hSw); go_simp <;> first | with_reducible rfl | (rw [if_neg (by first | omega | (simp only [ByteArray.size_append] at *; omega))])
  simp only [Act.put, List.setIfInBounds_toArray, List.set_cons_zero, List.set_cons_succ]
  refine wpAnyH_ready (rs := [6]) (by kernel_rfl) (by simp) ?_
  refine AllReadyH.cons (o := { dst := some 81, op := Go.Op.call { callee := Go.Callee.value (Go.Operand.func 42), args := #[Go.Operand.tmp 78, Go.Operand.tmp 80], argTypes := #[25, 3] }, type := 9, pos := _, after := #[{ on := 3, ground := Go.Ground.data }, { on := 5, ground := Go.Ground.data }], guard := none }) rfl (fun K hK => ?_) AllReadyH.nil
  go_simp
  refine (c1 _ (B1.out.drew)).mono ?_
  rintro e w2 ⟨rfl, hw2⟩
  have B2 := hid (bstep (B1.out.drew) hw2)
  have X2 : w2.cell? ⟨w.heap.size, 3, none⟩ = some (.slice (some ⟨bb, o, none⟩) 2 cap) ∧ w2.cell? ⟨w0.heap.size, 2, none⟩ = some (.string r.text) ∧ w2.cell? ⟨w0.heap.size, 4, none⟩ = some (.int .i64 (r.first : Int)) ∧ w2.cell? ⟨w0.heap.size, 5, none⟩ = some (.int .i64 (r.second : Int)) := ⟨cell_kept X1.1 hw2, cell_kept X1.2.1 hw2, cell_kept X1.2.2.1 hw2, cell_kept X1.2.2.2 hw2⟩
  go_wp2_with fail
  refine hK.out _ _ ?_ (fun hHeld1 => ?_)
  · exact hSH _ B2.out X2
  clear hK K
  refine wpAnyH_take (i := 7) (oi := { dst := some 82, op := Go.Op.binOp Go.BinOp.add 9 (Go.Operand.tmp 81) (Go.Operand.const (Go.Value.string { data := #[32] })) 9, type := 9, pos := _, after := #[{ on := 6, ground := Go.Ground.data }], guard := none }) (v := ?_) rfl (by kernel_rfl) (by kernel_rfl) (by kernel_rfl) (fun _ _ _ h => h) (Or.inl ⟨by rfl, ?_⟩) (by assumption) ?_
  rotate_left
  · intro w hSw; (try dsimp only at hSw); go_simp <;> first | with_reducible rfl | (rw [if_neg (by first | omega | (simp only [ByteArray.size_append] at *; omega))])
  simp only [Act.put, List.setIfInBounds_toArray, List.set_cons_zero, List.set_cons_succ]
  refine wpAnyH_take (i := 11) (oi := { dst := some 86, op := Go.Op.binOp Go.BinOp.add 9 (Go.Operand.tmp 82) (Go.Operand.tmp 85) 9, type := 9, pos := _, after := #[{ on := 7, ground := Go.Ground.data }, { on := 10, ground := Go.Ground.data }], guard := none }) (v := ?_) rfl (by kernel_rfl) (by kernel_rfl) (by kernel_rfl) (fun _ _ _ h => h) (Or.inl ⟨by rfl, ?_⟩) (by assumption) ?_
  rotate_left
  · intro w hSw; (try dsimp only at hSw); go_simp <;> first | with_reducible rfl | (rw [if_neg (by first | omega | (simp only [ByteArray.size_append] at *; omega))])
  simp only [Act.put, List.setIfInBounds_toArray, List.set_cons_zero, List.set_cons_succ]
  refine wpAnyH_take (i := 12) (oi := { dst := some 87, op := Go.Op.binOp Go.BinOp.add 9 (Go.Operand.tmp 86) (Go.Operand.const (Go.Value.string { data := #[32] })) 9, type := 9, pos := _, after := #[{ on := 11, ground := Go.Ground.data }], guard := none }) (v := ?_) rfl (by kernel_rfl) (by kernel_rfl) (by kernel_rfl) (fun _ _ _ h => h) (Or.inl ⟨by rfl, ?_⟩) (by assumption) ?_
  rotate_left
  · intro w hSw; (try dsimp only at hSw); go_simp <;> first | with_reducible rfl | (rw [if_neg (by first | omega | (simp only [ByteArray.size_append] at *; omega))])
  simp only [Act.put, List.setIfInBounds_toArray, List.set_cons_zero, List.set_cons_succ]
  refine wpAnyH_ready (rs := [19]) (by kernel_rfl) (by simp) ?_
  refine AllReadyH.cons (o := { dst := some 94, op := Go.Op.call { callee := Go.Callee.value (Go.Operand.func 42), args := #[Go.Operand.tmp 91, Go.Operand.tmp 93], argTypes := #[25, 3] }, type := 9, pos := _, after := #[{ on := 16, ground := Go.Ground.data }, { on := 18, ground := Go.Ground.data }, { on := 6, ground := Go.Ground.chain }], guard := none }) rfl (fun K hK => ?_) AllReadyH.nil
  go_simp
  refine (c2 _ (B2.out)).mono ?_
  rintro e w3 ⟨rfl, hw3⟩
  have B3 := hid (bstep (B2.out) hw3)
  have X3 : w3.cell? ⟨w.heap.size, 3, none⟩ = some (.slice (some ⟨bb, o, none⟩) 2 cap) ∧ w3.cell? ⟨w0.heap.size, 2, none⟩ = some (.string r.text) ∧ w3.cell? ⟨w0.heap.size, 4, none⟩ = some (.int .i64 (r.first : Int)) ∧ w3.cell? ⟨w0.heap.size, 5, none⟩ = some (.int .i64 (r.second : Int)) := ⟨cell_kept X2.1 hw3, cell_kept X2.2.1 hw3, cell_kept X2.2.2.1 hw3, cell_kept X2.2.2.2 hw3⟩
  go_wp2_with fail
  refine hK.out _ _ ?_ (fun hHeld2 => ?_)
  · exact hSH _ B3.out X3
  clear hK K
  refine wpAnyH_take (i := 20) (oi := { dst := some 95, op := Go.Op.binOp Go.BinOp.add 9 (Go.Operand.tmp 87) (Go.Operand.tmp 94) 9, type := 9, pos := _, after := #[{ on := 12, ground := Go.Ground.data }, { on := 19, ground := Go.Ground.data }], guard := none }) (v := ?_) rfl (by kernel_rfl) (by kernel_rfl) (by kernel_rfl) (fun _ _ _ h => h) (Or.inl ⟨by rfl, ?_⟩) (by assumption) ?_
  rotate_left
  · intro w hSw; (try dsimp only at hSw); go_simp <;> first | with_reducible rfl | (rw [if_neg (by first | omega | (simp only [ByteArray.size_append] at *; omega))])
  simp only [Act.put, List.setIfInBounds_toArray, List.set_cons_zero, List.set_cons_succ]
  refine wpAnyH_take (i := 21) (oi := { dst := some 2, op := Go.Op.assign (Go.Operand.tmp 95), type := 9, pos := _, after := #[{ on := 20, ground := Go.Ground.data }, { on := 19, ground := Go.Ground.chain }, { on := 0, ground := Go.Ground.phase }, { on := 1, ground := Go.Ground.phase }, { on := 2, ground := Go.Ground.phase }, { on := 3, ground := Go.Ground.phase }, { on := 4, ground := Go.Ground.phase }, { on := 5, ground := Go.Ground.phase }, { on := 6, ground := Go.Ground.phase }, { on := 7, ground := Go.Ground.phase }, { on := 8, ground := Go.Ground.phase }, { on := 9, ground := Go.Ground.phase }, { on := 10, ground := Go.Ground.phase }, { on := 11, ground := Go.Ground.phase }, { on := 12, ground := Go.Ground.phase }, { on := 13, ground := Go.Ground.phase }, { on := 14, ground := Go.Ground.phase }, { on := 15, ground := Go.Ground.phase }, { on := 16, ground := Go.Ground.phase }, { on := 17, ground := Go.Ground.phase }, { on := 18, ground := Go.Ground.phase }, { on := 19, ground := Go.Ground.phase }, { on := 20, ground := Go.Ground.phase }], guard := none }) (v := ?_) rfl (by kernel_rfl) (by kernel_rfl) (by kernel_rfl) (fun _ _ _ h => h) (Or.inl ⟨by rfl, ?_⟩) (by assumption) ?_
  rotate_left
  · intro w hSw; (try dsimp only at hSw); go_simp <;> first | with_reducible rfl | (rw [if_neg (by first | omega | (simp only [ByteArray.size_append] at *; omega))])
  simp only [Act.put, List.setIfInBounds_toArray, List.set_cons_zero, List.set_cons_succ]
  refine wpAnyH_done (by kernel_rfl) ?_ _
  go_wp2
  go_ret
  exact ⟨rfl, B3.out⟩
end Go.Proofs.YtkieljleopbhoaaDoor.Lex
