/-
  What is worked out, from some token on: the contract of Parse.
-/
import Derived.Test.YtkieljleopbhoaaDoorWhole
namespace Go.Proofs.YtkieljleopbhoaaDoor.Lex
open Go.ChangeShapes Go.WideShapes Go.ChangeAt Go.RowKit Go.Joins Go.WideMaps Go.WideElems Go.Maps
theorem results_row_tmp2 {fn : Func} {p u u' : Tmp} {ty : TypeId} {P : Program} (h : fn.results = #[.cell p ty, .tmp u, .tmp u']) (tmps : Array Value) (w : World) (g : Nat) (cs : Array Value)
    (hp : tmps.getD p undef = .pointer (some ⟨g, 0, none⟩)) (hl : (loadVar ty ⟨g, 0, none⟩).run P w = .ok (.agg cs) w) :
    (results fn tmps).run P w = .ok (.tuple #[.agg cs, tmps.getD u undef, tmps.getD u' undef]) w := by
  have hp' : tmps[p]?.getD undef = .pointer (some ⟨g, 0, none⟩) := by simpa using hp
  simp [results, h, hp', asAddr, hl]
/-- What reading needs. -/
structure REnv (w : World) : Prop where
  tabR : TabR w
  tabJ : TabJ w
  var : ∃ tp pv, w.var? Tryd.prog "strconv.ErrRange" = some #[.iface tp pv]
theorem REnv.below {w W : World} (h : REnv w) (b : Below w.heap.size w W) : REnv W := by
  obtain ⟨tp, pv, e⟩ := h.var
  exact ⟨h.tabR.below b, h.tabJ.below b, tp, pv, varAt e b⟩
theorem REnv.size {w : World} (h : REnv w) : 8 ≤ w.heap.size := by
  obtain ⟨tp, pv, e⟩ := h.var
  unfold World.var? at e
  rw [gRange] at e
  simp only [Option.bind_some] at e
  by_cases hl : 7 < w.heap.size
  · omega
  · rw [Array.getElem?_eq_none (by omega)] at e; cases e
/-- What Parse answers. -/
def PostP (w : World) (p : Nat) (res : Res) (e : Ending) (w' : World) : Prop :=
  Below w.heap.size w w' ∧ match res with
    | .error (n, q) => e = .returned (.tuple #[.agg c25, .int .i64 (q : Int), .int .i64 (n : Int)])
    | .ok (x, q) => (chk x = true ∧ ∃ s, e = .returned (.tuple #[exV x s, .int .i64 (q : Int), .int .i64 0]) ∧ StP (fun b => w.heap.size ≤ b) w' x s) ∨ (chk x = false ∧ e = .returned (.tuple #[.agg c25, .int .i64 (p : Int), .int .i64 3]))
set_option maxRecDepth 100000 in
set_option maxHeartbeats 1000000 in
theorem parse_arg (v : Value) (a : Option Addr) (n cap : Nat) (hv : v = .slice a n cap) (i : Int) (h : i < 0 ∨ (n : Int) < i) (w : World) : Calls Tryd.prog 19 #[v, .int .i64 i] w fun e w' => e = .returned (.tuple #[.agg c25, .int .i64 0, .int .i64 1]) ∧ Below w.heap.size w w' := by
  subst hv
  have B0 := hid ((Below.refl w.heap.size w).alloc (Nat.le_refl _) (.cells c25 25))
  have X0 := heap_alloc_new w (.cells c25 25)
  by_cases h0 : i < 0
  · clear h
    go_enter Tryd.func19, Tryd.ntmps19
    go_wp2_with (refine wpList_store_row rfl 25 _ _ rfl w.heap.size c25 rfl rfl 25 _ X0 info25 rfl (by simp [Value.oneCell']) ?_)
    exact bodyPost_ret (results_row_tmp2 rfl _ _ w.heap.size c25 rfl (run_loadVar_row _ _ 25 25 c25 (0, 0) _ (setRow_heap _ _ _ _ _ _ X0) Tryd.underlying25 rfl info25)) rfl ⟨rfl, below_row B0.out B0.out.size (Nat.le_refl _) _⟩
  · have h1 : (n : Int) < i := h.resolve_left h0
    clear h
    go_enter Tryd.func19, Tryd.ntmps19
    go_wp2_with (refine wpList_store_row rfl 25 _ _ rfl w.heap.size c25 rfl rfl 25 _ X0 info25 rfl (by simp [Value.oneCell']) ?_)
    exact bodyPost_ret (results_row_tmp2 rfl _ _ w.heap.size c25 rfl (run_loadVar_row _ _ 25 25 c25 (0, 0) _ (setRow_heap _ _ _ _ _ _ X0) Tryd.underlying25 rfl info25)) rfl ⟨rfl, below_row B0.out B0.out.size (Nat.le_refl _) _⟩
/-- The reader, made. -/
theorem whole_new {w : World} {ts : List Mark} {p : Nat} {v : Value} (E : REnv w) (hT : TsOk ts) (hp : p ≤ ts.length) (hfew : ts.length ≤ 140737488355328) (b0 : Below w.heap.size w (w.alloc (.cells c25 25))) (hM : MarksAt w v ts) (hv : ∀ a n c, v = .slice (some a) n c → a.block < w.heap.size) {w2 : World} (b2 : Below (w.alloc (.cells c25 25)).heap.size (w.alloc (.cells c25 25)) w2) (A2 : AtM (fun _ => true) (w.alloc (.cells c25 25)).heap.size 0 w2) :
    Calls Tryd.prog 36 #[.pointer (some ⟨w2.heap.size, 0, none⟩)] (w2.alloc (.cells #[v, .int .i64 (p : Int), .map (some (w.alloc (.cells c25 25)).heap.size)] 71)) (PostW w2.heap.size (w.alloc (.cells c25 25)).heap.size v ts (w2.alloc (.cells #[v, .int .i64 (p : Int), .map (some (w.alloc (.cells c25 25)).heap.size)] 71)) (P ts 0 p)) := by
  have b3 := (Below.refl w2.heap.size w2).alloc (Nat.le_refl _) (.cells #[v, .int .i64 (p : Int), .map (some (w.alloc (.cells c25 25)).heap.size)] 71)
  have b12 := bstep b0 b2
  have b13 := bstep b12 b3
  have E3 := E.below b13
  have hmp : (w.alloc (.cells c25 25)).heap.size < w2.heap.size := by
    obtain ⟨es, cl, e, _⟩ := A2
    exact (Array.getElem?_eq_some_iff.1 e).1
  have hs := E.size
  have hs2 := b12.size
  have hM2 : MarksAt w2 v ts := hM.carry fun a n c _ hlt => b12.block a.block hlt
  refine whole w2.heap.size (w.alloc (.cells c25 25)).heap.size v ts hT p _ ⟨heap_alloc_new w2 _, hM2.carry fun a n c _ hlt => b3.block a.block hlt, hp, hfew, fun a n c e => ?_, Nat.ne_of_lt hmp⟩ ⟨E3.tabR, E3.tabJ, E3.var, A2.kept fun hl => b3.block _ hl, by omega, Nat.ne_of_lt hmp⟩
  have := hv a n c e
  omega
theorem kept0 {W W' : World} {r k : Nat} {o : Obj} (h : W.heap[k]? = some o) (g : W.grownBy W' (some r)) (hk : k ≠ r) : W'.heap[k]? = some o :=
  (g.block k (Array.getElem?_eq_some_iff.1 h).1 (fun e => by injection e with e; exact hk e)).trans h
theorem below_of_grown {w W W' : World} {r : Nat} (b : Below w.heap.size w W) (g : W.grownBy W' (some r)) (hr : w.heap.size ≤ r) : Below w.heap.size w W' :=
  ⟨g.os.trans b.os, g.tape.trans b.tape, g.output.trans b.output, Nat.le_trans b.size g.size, fun k hk => (g.block k (Nat.lt_of_lt_of_le hk b.size) (fun e => by injection e; omega)).trans (b.block k hk)⟩
set_option maxRecDepth 100000 in
set_option maxHeartbeats 1000000 in
theorem parse_bad {w : World} (v : Value) (ts : List Mark) (p : Nat) (hM : MarksAt w v ts) (hv : ∀ a n c, v = .slice (some a) n c → a.block < w.heap.size) (E : REnv w) (hT : TsOk ts) (hp : p ≤ ts.length) (hfew : ts.length ≤ 140737488355328) (n q : Nat) (hP : P ts 0 p = .error (n, q)) (hn : n ≠ 0) : Calls Tryd.prog 19 #[v, .int .i64 (p : Int)] w (PostP w p (.error (n, q))) := by
  have hM0 := hM
  obtain ⟨a, cap0, rfl, hm⟩ := hM
  have b0 := (Below.refl w.heap.size w).alloc (Nat.le_refl _) (.cells c25 25)
  have ca := atoms (w.alloc (.cells c25 25))
  have cw : ∀ w2, Below (w.alloc (.cells c25 25)).heap.size (w.alloc (.cells c25 25)) w2 → AtM (fun _ => true) (w.alloc (.cells c25 25)).heap.size 0 w2 → Calls Tryd.prog 36 #[.pointer (some ⟨w2.heap.size, 0, none⟩)] (w2.alloc (.cells #[.slice a ts.length cap0, .int .i64 (p : Int), .map (some (w.alloc (.cells c25 25)).heap.size)] 71)) (PostW w2.heap.size (w.alloc (.cells c25 25)).heap.size (.slice a ts.length cap0) ts (w2.alloc (.cells #[.slice a ts.length cap0, .int .i64 (p : Int), .map (some (w.alloc (.cells c25 25)).heap.size)] 71)) (P ts 0 p)) := fun w2 b2 A2 => whole_new E hT hp hfew b0 ⟨a, cap0, rfl, hm⟩ hv b2 A2
  have LE := hid hp
  have hp0 : decide ((p : Int) < 0) = false := by simp
  have hp0' : ¬ (p : Int) < 0 := by omega
  have hp1 : decide (ts.length < p) = false := by simp; omega
  have hp1' : ¬ (ts.length : Int) < (p : Int) := by omega
  have B0 := hid b0
  have E0 := hid E
  have X0 := hid (heap_alloc_new w (.cells c25 25))
  have SZ : (w.alloc (.cells c25 25)).heap.size = w.heap.size + 1 := by simp
  simp only [SZ] at cw
  rw [hP] at cw
  clear hM0 b0 E hT hp hP hm hv hfew
  have hn0 : ¬ (n : Int) = 0 := by omega
  have hn1 : ((n : Int) == 0) = false := by simp; omega
  go_enter Tryd.func19, Tryd.ntmps19
  go_wp2_with (first
    | (go_at_call 35; refine ca.mono ?_; rintro e w2 ⟨mp, rfl, A2, hmp, b2⟩; rw [SZ] at hmp; subst hmp; have B2 := hid b2; rw [SZ] at b2; have c36 := cw w2 b2 A2; clear A2 b2 ca cw)
    | (go_at_call 36; refine c36.mono ?_; rintro e w3 ⟨g3, rfl, h3⟩; have g4 := grown_on (grown_below ((Below.refl w2.heap.size w2).alloc (Nat.le_refl _) (.cells #[.slice a ts.length cap0, .int .i64 (p : Int), .map (some (w.heap.size + 1))] 71)) (some w2.heap.size)) g3; have S2 := hid (show w.heap.size < w2.heap.size from Nat.lt_of_lt_of_le (by rw [SZ]; exact Nat.lt_succ_self _) B2.out.size); have b4 : Below w.heap.size w w3 := below_of_grown (bstep B0.out B2.out) g4 (Nat.le_of_lt S2.out); have X3 := kept0 ((B2.out.block _ (by rw [SZ]; exact Nat.lt_succ_self _)).trans X0.out) g4 (Nat.ne_of_lt S2.out); have H3 := hid h3; have B4 := hid b4; clear g3 g4 h3 b4 c36)
    | (refine wpList_store_row rfl 25 _ _ rfl w.heap.size c25 rfl rfl 25 _ X3 info25 rfl (by simp [Value.oneCell']) ?_))
  rename_i K6 hK6
  have hne : w2.heap.size ≠ w.heap.size := Nat.ne_of_gt S2.out
  have YR : (w3.setRow w.heap.size c25).drew.cell? ⟨w2.heap.size, 1, none⟩ = some (.int .i64 (q : Int)) := (World.cell?_of_block (w := w3) (a := ⟨w2.heap.size, 1, none⟩) (setRow_other w3 _ _ _ hne)).trans H3.out.at1.1
  have X5 : (w3.setRow w.heap.size c25).drew.heap[w.heap.size]? = some (.cells c25 25 (0, 0)) := setRow_heap _ _ _ _ _ _ X3
  have B5 := hid (below_drewN (below_row B4.out B4.out.size (Nat.le_refl w.heap.size) c25) 1)
  have YR2 : ((w3.setRow w.heap.size c25).drew.setRow w.heap.size c25).cell? ⟨w2.heap.size, 1, none⟩ = some (.int .i64 (q : Int)) := (World.cell?_of_block (w := (w3.setRow w.heap.size c25).drew) (a := ⟨w2.heap.size, 1, none⟩) (setRow_other _ _ _ _ hne)).trans YR
  refine wp_region_held_drew (S := fun V => V.cell? ⟨w2.heap.size, 1, none⟩ = some (.int .i64 (q : Int))) (by kernel_rfl) ?_ (fun hHeld => ?_)
  · exact YR
  refine wpAnyH_take (i := 0) (oi := { dst := some 29, op := Go.Op.build 25 #[], type := 25, pos := _, after := #[], guard := none }) (v := ?_) rfl (by kernel_rfl) (by kernel_rfl) (by kernel_rfl) (fun _ _ _ h => h) (Or.inl ⟨by rfl, ?_⟩) (by assumption) ?_
  rotate_left
  · intro w hSw; (try dsimp only at hSw); go_simp <;> with_reducible rfl
  simp only [Act.put, List.setIfInBounds_toArray, List.set_cons_zero, List.set_cons_succ]
  refine wpAnyH_take (i := 1) (oi := { dst := some 30, op := Go.Op.move (Go.Operand.tmp 7), type := 67, pos := _, after := #[{ on := 6, ground := Go.Ground.gcOnly Go.Departure.lateStores }], guard := none }) (v := ?_) rfl (by kernel_rfl) (by kernel_rfl) (by kernel_rfl) (fun _ _ _ h => h) (Or.inl ⟨by rfl, ?_⟩) (by assumption) ?_
  rotate_left
  · intro w hSw; (try dsimp only at hSw); go_simp <;> with_reducible rfl
  simp only [Act.put, List.setIfInBounds_toArray, List.set_cons_zero, List.set_cons_succ]
  refine wpAnyH_take (i := 2) (oi := { dst := some 31, op := Go.Op.nilCheck (Go.Operand.tmp 30), type := 0, pos := _, after := #[{ on := 1, ground := Go.Ground.data }, { on := 6, ground := Go.Ground.gcOnly Go.Departure.lateStores }], guard := none }) (v := ?_) rfl (by kernel_rfl) (by kernel_rfl) (by kernel_rfl) (fun _ _ _ h => h) (Or.inl ⟨by rfl, ?_⟩) (by assumption) ?_
  rotate_left
  · intro w hSw; (try dsimp only at hSw); go_simp <;> with_reducible rfl
  simp only [Act.put, List.setIfInBounds_toArray, List.set_cons_zero, List.set_cons_succ]
  refine wpAnyH_take (i := 3) (oi := { dst := some 32, op := Go.Op.fieldAddr 71 (Go.Operand.tmp 31) 1, type := 0, pos := _, after := #[{ on := 2, ground := Go.Ground.data }, { on := 6, ground := Go.Ground.gcOnly Go.Departure.lateStores }], guard := none }) (v := ?_) rfl (by kernel_rfl) (by kernel_rfl) (by kernel_rfl) (fun _ _ _ h => h) (Or.inl ⟨by rfl, ?_⟩) (by assumption) ?_
  rotate_left
  · intro w hSw; (try dsimp only at hSw); go_simp <;> with_reducible rfl
  simp only [Act.put, List.setIfInBounds_toArray, List.set_cons_zero, List.set_cons_succ]
  refine wpAnyH_take (i := 4) (oi := { dst := some 33, op := Go.Op.load 3 (Go.Operand.tmp 32), type := 3, pos := _, after := #[{ on := 3, ground := Go.Ground.data }, { on := 6, ground := Go.Ground.gcOnly Go.Departure.lateStores }], guard := none }) (v := ?_) rfl (by kernel_rfl) (by kernel_rfl) (by kernel_rfl) (fun _ _ _ h => h) (Or.inl ⟨by rfl, ?_⟩) (by assumption) ?_
  rotate_left
  · intro w hSw; (try dsimp only at hSw); go_simp <;> with_reducible rfl
  simp only [Act.put, List.setIfInBounds_toArray, List.set_cons_zero, List.set_cons_succ]
  refine wpAnyH_take (i := 5) (oi := { dst := some 34, op := Go.Op.move (Go.Operand.tmp 6), type := 28, pos := _, after := #[{ on := 7, ground := Go.Ground.gcOnly Go.Departure.lateStores }], guard := none }) (v := ?_) rfl (by kernel_rfl) (by kernel_rfl) (by kernel_rfl) (fun _ _ _ h => h) (Or.inl ⟨by rfl, ?_⟩) (by assumption) ?_
  rotate_left
  · intro w hSw; (try dsimp only at hSw); go_simp <;> with_reducible rfl
  simp only [Act.put, List.setIfInBounds_toArray, List.set_cons_zero, List.set_cons_succ]
  refine wpAnyH_ready (rs := [6]) (by kernel_rfl) (by simp) ?_
  refine AllReadyH.cons (o := { dst := none, op := Go.Op.store 25 (Go.Operand.tmp 4) (Go.Operand.tmp 29), type := 0, pos := _, after := #[{ on := 0, ground := Go.Ground.data }, { on := 0, ground := Go.Ground.phase }, { on := 1, ground := Go.Ground.textOnly Go.Departure.lateStores }, { on := 2, ground := Go.Ground.textOnly Go.Departure.lateStores }, { on := 3, ground := Go.Ground.textOnly Go.Departure.lateStores }, { on := 4, ground := Go.Ground.textOnly Go.Departure.lateStores }, { on := 5, ground := Go.Ground.textOnly Go.Departure.lateStores }], guard := none }) rfl (fun K hK => ?_) AllReadyH.nil
  refine if_take (by rfl) ?_
  refine wp_store_row 25 _ _ rfl w.heap.size c25 rfl rfl 25 _ X5 info25 rfl (by simp [Value.oneCell']) ?_
  refine hK.out _ _ ?_ (fun _ => ?_)
  · exact YR2
  clear hK K
  refine wpAnyH_take (i := 7) (oi := { dst := some 5, op := Go.Op.assign (Go.Operand.tmp 33), type := 3, pos := _, after := #[{ on := 4, ground := Go.Ground.data }, { on := 6, ground := Go.Ground.chain }, { on := 0, ground := Go.Ground.phase }, { on := 1, ground := Go.Ground.phase }, { on := 2, ground := Go.Ground.phase }, { on := 3, ground := Go.Ground.phase }, { on := 4, ground := Go.Ground.phase }, { on := 5, ground := Go.Ground.textOnly Go.Departure.lateStores }, { on := 6, ground := Go.Ground.phase }], guard := none }) (v := ?_) rfl (by kernel_rfl) (by kernel_rfl) (by kernel_rfl) (fun _ _ _ h => h) (Or.inl ⟨by rfl, ?_⟩) (by assumption) ?_
  rotate_left
  · intro w hSw; (try dsimp only at hSw); go_simp <;> with_reducible rfl
  simp only [Act.put, List.setIfInBounds_toArray, List.set_cons_zero, List.set_cons_succ]
  refine wpAnyH_take (i := 8) (oi := { dst := some 6, op := Go.Op.assign (Go.Operand.tmp 34), type := 28, pos := _, after := #[{ on := 5, ground := Go.Ground.data }, { on := 7, ground := Go.Ground.chain }, { on := 0, ground := Go.Ground.phase }, { on := 1, ground := Go.Ground.phase }, { on := 2, ground := Go.Ground.phase }, { on := 3, ground := Go.Ground.phase }, { on := 4, ground := Go.Ground.phase }, { on := 5, ground := Go.Ground.phase }, { on := 6, ground := Go.Ground.phase }, { on := 7, ground := Go.Ground.phase }], guard := none }) (v := ?_) rfl (by kernel_rfl) (by kernel_rfl) (by kernel_rfl) (fun _ _ _ h => h) (Or.inl ⟨by rfl, ?_⟩) (by assumption) ?_
  rotate_left
  · intro w hSw; (try dsimp only at hSw); go_simp <;> with_reducible rfl
  simp only [Act.put, List.setIfInBounds_toArray, List.set_cons_zero, List.set_cons_succ]
  refine wpAnyH_done (by kernel_rfl) ?_ _
  refine hK6 _ _ ?_
  go_wp2
  exact bodyPost_ret (results_row_tmp2 rfl _ _ w.heap.size c25 rfl (run_loadVar_row _ _ 25 25 c25 (0, 0) _ (setRow_heap _ _ _ _ _ _ X5) Tryd.underlying25 rfl info25)) rfl ⟨below_row B5.out B5.out.size (Nat.le_refl _) _, rfl⟩
theorem st_over {w w2 w3 : World} {c : Array Value} {t : TypeId} {x : Ex} {s : Value} (st : StP (fun b => (w2.alloc (.cells c t)).heap.size ≤ b) w3 x s) (h : w.heap.size < w2.heap.size) (d : Array Value) : StP (fun b => w.heap.size < b) (w3.setRow w.heap.size d) x s := by
  refine StP.carryN (fun b hb hl => ?_) (fun b _ hb => ?_) _ x _ (Nat.le_refl _) st
  · simp at hb
    exact setRow_other _ _ _ _ (by omega)
  · simp at hb
    show w.heap.size < b
    omega
set_option maxRecDepth 100000 in
set_option maxHeartbeats 1000000 in
theorem parse_ok {w : World} (v : Value) (ts : List Mark) (p : Nat) (hM : MarksAt w v ts) (hv : ∀ a n c, v = .slice (some a) n c → a.block < w.heap.size) (E : REnv w) (hT : TsOk ts) (hp : p ≤ ts.length) (hfew : ts.length ≤ 140737488355328) (x : Ex) (q : Nat) (hP : P ts 0 p = .ok (x, q)) (hchk : chk x = true) : Calls Tryd.prog 19 #[v, .int .i64 (p : Int)] w (PostP w p (.ok (x, q))) := by
  have hM0 := hM
  obtain ⟨a, cap0, rfl, hm⟩ := hM
  have b0 := (Below.refl w.heap.size w).alloc (Nat.le_refl _) (.cells c25 25)
  have ca := atoms (w.alloc (.cells c25 25))
  have cw : ∀ w2, Below (w.alloc (.cells c25 25)).heap.size (w.alloc (.cells c25 25)) w2 → AtM (fun _ => true) (w.alloc (.cells c25 25)).heap.size 0 w2 → Calls Tryd.prog 36 #[.pointer (some ⟨w2.heap.size, 0, none⟩)] (w2.alloc (.cells #[.slice a ts.length cap0, .int .i64 (p : Int), .map (some (w.alloc (.cells c25 25)).heap.size)] 71)) (PostW w2.heap.size (w.alloc (.cells c25 25)).heap.size (.slice a ts.length cap0) ts (w2.alloc (.cells #[.slice a ts.length cap0, .int .i64 (p : Int), .map (some (w.alloc (.cells c25 25)).heap.size)] 71)) (P ts 0 p)) := fun w2 b2 A2 => whole_new E hT hp hfew b0 ⟨a, cap0, rfl, hm⟩ hv b2 A2
  have LE := hid hp
  have hp0 : decide ((p : Int) < 0) = false := by simp
  have hp0' : ¬ (p : Int) < 0 := by omega
  have hp1 : decide (ts.length < p) = false := by simp; omega
  have hp1' : ¬ (ts.length : Int) < (p : Int) := by omega
  have B0 := hid b0
  have E0 := hid E
  have X0 := hid (heap_alloc_new w (.cells c25 25))
  have SZ : (w.alloc (.cells c25 25)).heap.size = w.heap.size + 1 := by simp
  simp only [SZ] at cw
  rw [hP] at cw
  have cc := fun W S (hb : Below w.heap.size w W) (hS : St W x S) => check x W S hS (E.below hb).tabR (E.below hb).tabJ
  clear hM0 b0 E hT hp hP hm hv hfew
  rw [hchk] at cc
  go_enter Tryd.func19, Tryd.ntmps19
  go_wp2_with (first
    | (go_at_call 35; refine ca.mono ?_; rintro e w2 ⟨mp, rfl, A2, hmp, b2⟩; rw [SZ] at hmp; subst hmp; have B2 := hid b2; rw [SZ] at b2; have c36 := cw w2 b2 A2; clear A2 b2 ca cw)
    | (go_at_call 36; refine c36.mono ?_; rintro e w3 ⟨g3, s, rfl, st, h3⟩; obtain ⟨ao, cap, rfl⟩ := st.form; have g4 := grown_on (grown_below ((Below.refl w2.heap.size w2).alloc (Nat.le_refl _) (.cells #[.slice a ts.length cap0, .int .i64 (p : Int), .map (some (w.heap.size + 1))] 71)) (some w2.heap.size)) g3; have S2 := hid (show w.heap.size < w2.heap.size from Nat.lt_of_lt_of_le (by rw [SZ]; exact Nat.lt_succ_self _) B2.out.size); have b4 : Below w.heap.size w w3 := below_of_grown (bstep B0.out B2.out) g4 (Nat.le_of_lt S2.out); have X3 := kept0 ((B2.out.block _ (by rw [SZ]; exact Nat.lt_succ_self _)).trans X0.out) g4 (Nat.ne_of_lt S2.out); have H3 := hid h3; have B4 := hid b4; have X5 := setRow_heap w3 w.heap.size _ (ex4 x (.slice ao x.args.length cap)) 25 (0, 0) X3; have B5 := hid (below_row b4 b4.size (Nat.le_refl w.heap.size) (ex4 x (.slice ao x.args.length cap))); have T5 := hid (st_over st S2.out (ex4 x (.slice ao x.args.length cap))); clear g3 g4 h3 b4 c36 st)
    | (refine wpList_store_row rfl 25 _ _ rfl w.heap.size (ex4 x (.slice ao x.args.length cap)) rfl rfl 25 _ X3 info25 rfl (by simp [Value.oneCell', ex4]) ?_)
    | (refine wpList_load_row rfl 25 _ rfl w.heap.size rfl 25 (ex4 x (.slice ao x.args.length cap)) (0, 0) _ X5 Tryd.underlying25 rfl info25 ?_)
    | (go_at_call 11; refine (cc _ _ B5.out T5.out.st).mono ?_; rintro e w6 ⟨rfl, b6⟩; have X6 := (b6.block _ (Array.getElem?_eq_some_iff.1 X5).1).trans X5; have B6 := hid b6; clear b6 cc X5))
  rename_i K6 hK6
  have hne : w2.heap.size ≠ w.heap.size := Nat.ne_of_gt S2.out
  have hlt : w2.heap.size < (w3.setRow w.heap.size (ex4 x (.slice ao x.args.length cap))).heap.size := Nat.lt_of_lt_of_le H3.out.lt (by simp [World.setRow])
  have hr6 : w6.cell? ⟨w2.heap.size, 1, none⟩ = some (.int .i64 (q : Int)) := by
    rw [World.cell?_of_block (w := w3.setRow w.heap.size (ex4 x (.slice ao x.args.length cap))) (a := ⟨w2.heap.size, 1, none⟩) (B6.out.block _ hlt)]
    exact (World.cell?_of_block (w := w3) (a := ⟨w2.heap.size, 1, none⟩) (setRow_other w3 _ _ _ hne)).trans H3.out.at1.1
  have T6 := hid (T5.out.carry fun b _ hl => B6.out.block b hl)
  have D6 := hid (bstep B5.out (B6.out.trans (below_drewN (Below.refl _ w6) 1)))
  have YR : w6.drew.cell? ⟨w2.heap.size, 1, none⟩ = some (.int .i64 (q : Int)) ∧ w6.drew.cell? ⟨w.heap.size, 0, none⟩ = some (.int .u8 (x.op : Int)) ∧ w6.drew.cell? ⟨w.heap.size, 1, none⟩ = some (.int .i64 x.n) ∧ w6.drew.cell? ⟨w.heap.size, 2, none⟩ = some (.string x.name) ∧ w6.drew.cell? ⟨w.heap.size, 3, none⟩ = some (.slice ao x.args.length cap) :=
    ⟨hr6, (cell_of_row _ _ _ _ 25 (0, 0) X6).trans rfl, (cell_of_row _ _ _ _ 25 (0, 0) X6).trans rfl, (cell_of_row _ _ _ _ 25 (0, 0) X6).trans rfl, (cell_of_row _ _ _ _ 25 (0, 0) X6).trans rfl⟩
  have X6 : w6.drew.heap[w.heap.size]? = some (.cells (ex4 x (.slice ao x.args.length cap)) 25 (0, 0)) := X6
  have X7 := setRow_heap w6.drew w.heap.size _ (ex4 x (.slice ao x.args.length cap)) 25 (0, 0) X6
  have hr7 := (World.cell?_of_block (w := w6.drew) (a := ⟨w2.heap.size, 1, none⟩) (setRow_other w6.drew w.heap.size _ (ex4 x (.slice ao x.args.length cap)) hne)).trans YR.1
  have YR2 : (w6.drew.setRow w.heap.size (ex4 x (.slice ao x.args.length cap))).cell? ⟨w2.heap.size, 1, none⟩ = some (.int .i64 (q : Int)) ∧ (w6.drew.setRow w.heap.size (ex4 x (.slice ao x.args.length cap))).cell? ⟨w.heap.size, 0, none⟩ = some (.int .u8 (x.op : Int)) ∧ (w6.drew.setRow w.heap.size (ex4 x (.slice ao x.args.length cap))).cell? ⟨w.heap.size, 1, none⟩ = some (.int .i64 x.n) ∧ (w6.drew.setRow w.heap.size (ex4 x (.slice ao x.args.length cap))).cell? ⟨w.heap.size, 2, none⟩ = some (.string x.name) ∧ (w6.drew.setRow w.heap.size (ex4 x (.slice ao x.args.length cap))).cell? ⟨w.heap.size, 3, none⟩ = some (.slice ao x.args.length cap) :=
    ⟨hr7, (cell_of_row _ _ _ _ 25 (0, 0) X7).trans rfl, (cell_of_row _ _ _ _ 25 (0, 0) X7).trans rfl, (cell_of_row _ _ _ _ 25 (0, 0) X7).trans rfl, (cell_of_row _ _ _ _ 25 (0, 0) X7).trans rfl⟩
  refine wp_region_held_drew (S := fun V => V.cell? ⟨w2.heap.size, 1, none⟩ = some (.int .i64 (q : Int)) ∧ V.cell? ⟨w.heap.size, 0, none⟩ = some (.int .u8 (x.op : Int)) ∧ V.cell? ⟨w.heap.size, 1, none⟩ = some (.int .i64 x.n) ∧ V.cell? ⟨w.heap.size, 2, none⟩ = some (.string x.name) ∧ V.cell? ⟨w.heap.size, 3, none⟩ = some (.slice ao x.args.length cap)) (by kernel_rfl) ?_ (fun hHeld => ?_)
  · exact YR
  refine wpAnyH_take (i := 0) (oi := { dst := some 40, op := Go.Op.load 25 (Go.Operand.tmp 4), type := 25, pos := _, after := #[], guard := none }) (v := ?_) rfl (by kernel_rfl) (by kernel_rfl) (by kernel_rfl) (fun _ _ _ h => h) (Or.inl ⟨by rfl, ?_⟩) (by assumption) ?_
  rotate_left
  · intro w hSw; (try dsimp only at hSw); go_simp <;> with_reducible rfl
  simp only [Act.put, List.setIfInBounds_toArray, List.set_cons_zero, List.set_cons_succ]
  refine wpAnyH_take (i := 1) (oi := { dst := some 41, op := Go.Op.move (Go.Operand.tmp 7), type := 67, pos := _, after := #[{ on := 5, ground := Go.Ground.gcOnly Go.Departure.lateStores }], guard := none }) (v := ?_) rfl (by kernel_rfl) (by kernel_rfl) (by kernel_rfl) (fun _ _ _ h => h) (Or.inl ⟨by rfl, ?_⟩) (by assumption) ?_
  rotate_left
  · intro w hSw; (try dsimp only at hSw); go_simp <;> with_reducible rfl
  simp only [Act.put, List.setIfInBounds_toArray, List.set_cons_zero, List.set_cons_succ]
  refine wpAnyH_take (i := 2) (oi := { dst := some 42, op := Go.Op.nilCheck (Go.Operand.tmp 41), type := 0, pos := _, after := #[{ on := 1, ground := Go.Ground.data }, { on := 5, ground := Go.Ground.gcOnly Go.Departure.lateStores }], guard := none }) (v := ?_) rfl (by kernel_rfl) (by kernel_rfl) (by kernel_rfl) (fun _ _ _ h => h) (Or.inl ⟨by rfl, ?_⟩) (by assumption) ?_
  rotate_left
  · intro w hSw; (try dsimp only at hSw); go_simp <;> with_reducible rfl
  simp only [Act.put, List.setIfInBounds_toArray, List.set_cons_zero, List.set_cons_succ]
  refine wpAnyH_take (i := 3) (oi := { dst := some 43, op := Go.Op.fieldAddr 71 (Go.Operand.tmp 42) 1, type := 0, pos := _, after := #[{ on := 2, ground := Go.Ground.data }, { on := 5, ground := Go.Ground.gcOnly Go.Departure.lateStores }], guard := none }) (v := ?_) rfl (by kernel_rfl) (by kernel_rfl) (by kernel_rfl) (fun _ _ _ h => h) (Or.inl ⟨by rfl, ?_⟩) (by assumption) ?_
  rotate_left
  · intro w hSw; (try dsimp only at hSw); go_simp <;> with_reducible rfl
  simp only [Act.put, List.setIfInBounds_toArray, List.set_cons_zero, List.set_cons_succ]
  refine wpAnyH_take (i := 4) (oi := { dst := some 44, op := Go.Op.load 3 (Go.Operand.tmp 43), type := 3, pos := _, after := #[{ on := 3, ground := Go.Ground.data }, { on := 5, ground := Go.Ground.gcOnly Go.Departure.lateStores }], guard := none }) (v := ?_) rfl (by kernel_rfl) (by kernel_rfl) (by kernel_rfl) (fun _ _ _ h => h) (Or.inl ⟨by rfl, ?_⟩) (by assumption) ?_
  rotate_left
  · intro w hSw; (try dsimp only at hSw); go_simp <;> with_reducible rfl
  simp only [Act.put, List.setIfInBounds_toArray, List.set_cons_zero, List.set_cons_succ]
  refine wpAnyH_ready (rs := [5]) (by kernel_rfl) (by simp) ?_
  refine AllReadyH.cons (o := { dst := none, op := Go.Op.store 25 (Go.Operand.tmp 4) (Go.Operand.tmp 40), type := 0, pos := _, after := #[{ on := 0, ground := Go.Ground.data }, { on := 0, ground := Go.Ground.phase }, { on := 1, ground := Go.Ground.textOnly Go.Departure.lateStores }, { on := 2, ground := Go.Ground.textOnly Go.Departure.lateStores }, { on := 3, ground := Go.Ground.textOnly Go.Departure.lateStores }, { on := 4, ground := Go.Ground.textOnly Go.Departure.lateStores }], guard := none }) rfl (fun K hK => ?_) AllReadyH.nil
  refine if_take (by rfl) ?_
  refine wp_store_row 25 _ _ rfl w.heap.size (ex4 x (.slice ao x.args.length cap)) rfl rfl 25 _ X6 info25 rfl (by simp [Value.oneCell', ex4]) ?_
  refine hK.out _ _ ?_ (fun _ => ?_)
  · exact YR2
  clear hK K
  refine wpAnyH_take (i := 6) (oi := { dst := some 5, op := Go.Op.assign (Go.Operand.tmp 44), type := 3, pos := _, after := #[{ on := 4, ground := Go.Ground.data }, { on := 5, ground := Go.Ground.chain }, { on := 0, ground := Go.Ground.phase }, { on := 1, ground := Go.Ground.phase }, { on := 2, ground := Go.Ground.phase }, { on := 3, ground := Go.Ground.phase }, { on := 4, ground := Go.Ground.phase }, { on := 5, ground := Go.Ground.phase }], guard := none }) (v := ?_) rfl (by kernel_rfl) (by kernel_rfl) (by kernel_rfl) (fun _ _ _ h => h) (Or.inl ⟨by rfl, ?_⟩) (by assumption) ?_
  rotate_left
  · intro w hSw; (try dsimp only at hSw); go_simp <;> with_reducible rfl
  simp only [Act.put, List.setIfInBounds_toArray, List.set_cons_zero, List.set_cons_succ]
  refine wpAnyH_take (i := 7) (oi := { dst := some 6, op := Go.Op.assign (Go.Operand.const (Go.Value.int Go.IntKind.i64 0)), type := 28, pos := _, after := #[{ on := 6, ground := Go.Ground.chain }, { on := 0, ground := Go.Ground.phase }, { on := 1, ground := Go.Ground.phase }, { on := 2, ground := Go.Ground.phase }, { on := 3, ground := Go.Ground.phase }, { on := 4, ground := Go.Ground.phase }, { on := 5, ground := Go.Ground.phase }, { on := 6, ground := Go.Ground.phase }], guard := none }) (v := ?_) rfl (by kernel_rfl) (by kernel_rfl) (by kernel_rfl) (fun _ _ _ h => h) (Or.inl ⟨by rfl, ?_⟩) (by assumption) ?_
  rotate_left
  · intro w hSw; (try dsimp only at hSw); go_simp <;> with_reducible rfl
  simp only [Act.put, List.setIfInBounds_toArray, List.set_cons_zero, List.set_cons_succ]
  refine wpAnyH_done (by kernel_rfl) ?_ _
  refine hK6 _ _ ?_
  go_wp2
  refine bodyPost_ret (results_row_tmp2 rfl _ _ w.heap.size (ex4 x (.slice ao x.args.length cap)) rfl (run_loadVar_row _ _ 25 25 (ex4 x (.slice ao x.args.length cap)) (0, 0) _ X7 Tryd.underlying25 rfl info25)) rfl ⟨below_row D6.out D6.out.size (Nat.le_refl _) _, .inl ⟨hchk, _, rfl, ?_⟩⟩
  exact StP.carryN (w := w6) (fun b hb _ => (setRow_other w6.drew _ _ _ (Nat.ne_of_gt hb)).trans rfl) (fun b _ hb => Nat.le_of_lt hb) _ x _ (Nat.le_refl _) T6.out
set_option maxRecDepth 100000 in
set_option maxHeartbeats 1000000 in
theorem parse_lim {w : World} (v : Value) (ts : List Mark) (p : Nat) (hM : MarksAt w v ts) (hv : ∀ a n c, v = .slice (some a) n c → a.block < w.heap.size) (E : REnv w) (hT : TsOk ts) (hp : p ≤ ts.length) (hfew : ts.length ≤ 140737488355328) (x : Ex) (q : Nat) (hP : P ts 0 p = .ok (x, q)) (hchk : chk x = false) : Calls Tryd.prog 19 #[v, .int .i64 (p : Int)] w (PostP w p (.ok (x, q))) := by
  have hM0 := hM
  obtain ⟨a, cap0, rfl, hm⟩ := hM
  have b0 := (Below.refl w.heap.size w).alloc (Nat.le_refl _) (.cells c25 25)
  have ca := atoms (w.alloc (.cells c25 25))
  have cw : ∀ w2, Below (w.alloc (.cells c25 25)).heap.size (w.alloc (.cells c25 25)) w2 → AtM (fun _ => true) (w.alloc (.cells c25 25)).heap.size 0 w2 → Calls Tryd.prog 36 #[.pointer (some ⟨w2.heap.size, 0, none⟩)] (w2.alloc (.cells #[.slice a ts.length cap0, .int .i64 (p : Int), .map (some (w.alloc (.cells c25 25)).heap.size)] 71)) (PostW w2.heap.size (w.alloc (.cells c25 25)).heap.size (.slice a ts.length cap0) ts (w2.alloc (.cells #[.slice a ts.length cap0, .int .i64 (p : Int), .map (some (w.alloc (.cells c25 25)).heap.size)] 71)) (P ts 0 p)) := fun w2 b2 A2 => whole_new E hT hp hfew b0 ⟨a, cap0, rfl, hm⟩ hv b2 A2
  have LE := hid hp
  have hp0 : decide ((p : Int) < 0) = false := by simp
  have hp0' : ¬ (p : Int) < 0 := by omega
  have hp1 : decide (ts.length < p) = false := by simp; omega
  have hp1' : ¬ (ts.length : Int) < (p : Int) := by omega
  have B0 := hid b0
  have E0 := hid E
  have X0 := hid (heap_alloc_new w (.cells c25 25))
  have SZ : (w.alloc (.cells c25 25)).heap.size = w.heap.size + 1 := by simp
  simp only [SZ] at cw
  rw [hP] at cw
  have cc := fun W S (hb : Below w.heap.size w W) (hS : St W x S) => check x W S hS (E.below hb).tabR (E.below hb).tabJ
  clear hM0 b0 E hT hp hP hm hv hfew
  rw [hchk] at cc
  go_enter Tryd.func19, Tryd.ntmps19
  go_wp2_with (first
    | (go_at_call 35; refine ca.mono ?_; rintro e w2 ⟨mp, rfl, A2, hmp, b2⟩; rw [SZ] at hmp; subst hmp; have B2 := hid b2; rw [SZ] at b2; have c36 := cw w2 b2 A2; clear A2 b2 ca cw)
    | (go_at_call 36; refine c36.mono ?_; rintro e w3 ⟨g3, s, rfl, st, h3⟩; obtain ⟨ao, cap, rfl⟩ := st.form; have g4 := grown_on (grown_below ((Below.refl w2.heap.size w2).alloc (Nat.le_refl _) (.cells #[.slice a ts.length cap0, .int .i64 (p : Int), .map (some (w.heap.size + 1))] 71)) (some w2.heap.size)) g3; have S2 := hid (show w.heap.size < w2.heap.size from Nat.lt_of_lt_of_le (by rw [SZ]; exact Nat.lt_succ_self _) B2.out.size); have b4 : Below w.heap.size w w3 := below_of_grown (bstep B0.out B2.out) g4 (Nat.le_of_lt S2.out); have X3 := kept0 ((B2.out.block _ (by rw [SZ]; exact Nat.lt_succ_self _)).trans X0.out) g4 (Nat.ne_of_lt S2.out); have H3 := hid h3; have B4 := hid b4; have X5 := setRow_heap w3 w.heap.size _ (ex4 x (.slice ao x.args.length cap)) 25 (0, 0) X3; have B5 := hid (below_row b4 b4.size (Nat.le_refl w.heap.size) (ex4 x (.slice ao x.args.length cap))); have T5 := hid (st_over st S2.out (ex4 x (.slice ao x.args.length cap))); clear g3 g4 h3 b4 c36 st)
    | (refine wpList_store_row rfl 25 _ _ rfl w.heap.size (ex4 x (.slice ao x.args.length cap)) rfl rfl 25 _ X3 info25 rfl (by simp [Value.oneCell', ex4]) ?_)
    | (refine wpList_load_row rfl 25 _ rfl w.heap.size rfl 25 (ex4 x (.slice ao x.args.length cap)) (0, 0) _ X5 Tryd.underlying25 rfl info25 ?_)
    | (go_at_call 11; refine (cc _ _ B5.out T5.out.st).mono ?_; rintro e w6 ⟨rfl, b6⟩; have X6 := (b6.block _ (Array.getElem?_eq_some_iff.1 X5).1).trans X5; have B6 := hid b6; clear b6 cc X5)
    | (refine wpList_store_row rfl 25 _ _ rfl w.heap.size c25 rfl rfl 25 _ X6 info25 rfl (by simp [Value.oneCell']) ?_))
  refine bodyPost_ret (results_row_tmp2 rfl _ _ w.heap.size c25 rfl (run_loadVar_row _ _ 25 25 c25 (0, 0) _ (setRow_heap _ _ _ _ _ _ X6) Tryd.underlying25 rfl info25)) rfl ⟨below_row (bstep B5.out B6.out) (bstep B5.out B6.out).size (Nat.le_refl _) _, .inr ⟨hchk, rfl⟩⟩
end Go.Proofs.YtkieljleopbhoaaDoor.Lex
