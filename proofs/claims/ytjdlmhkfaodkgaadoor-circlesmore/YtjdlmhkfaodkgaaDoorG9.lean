/-
  A map of numbers, and a line of numbers that is taken from at its head and grows at its end.
  The links of a program, to be read alone.
  The search in breadth: the contract of the function that reached hands back.
  Does a place lie on a circle: the contracts of reached and of leadBack.
  The nearest of some places: the contract of nearest.
  The way around: plain mathematics of its steps.
  The way around: the contract of around.
  The first circle: the contracts of Find and of Check.
  The same texts: the contract of SameTexts, of lists that are the same. One flow needs another: the contract of needs, where it does.
  Circles of programs that the laws make, where they are known.
-/
import Derived.Test.YtjdlmhkfaodkgaaDoorG4
import Derived.Test.YtjdlmhkfaodkgaaDoorG8
import Derived.Maps.Keyed
import Derived.Deep.AppendSrc
import Derived.Test.YtjdlmhkfaodkgaaDoorG5
import Derived.Test.YtjdlmhkfaodkgaaDoorG6
import Derived.Sort.LoopGhostIn
import Derived.Test.YtjdlmhkfaodkgaaDoorG7
namespace Go.Proofs.YtjdlmhkfaodkgaaDoor.Lex
open Go.ChangeShapes Go.WideShapes Go.ChangeAt Go.RowKit Go.Joins
abbrev nV (k : Nat) : Value := .int .i64 (k : Int)
abbrev nD (k : Nat) : DataW Unit := .lit (.int .i64 (k : Int))
/-- How a number reads. -/
def nR (v : Value) : Option (DataW Unit × List MemPlace) := match v with
  | .int .i64 z => some (.lit (.int .i64 z), [])
  | _ => none
theorem nR_mk (k : Nat) : nR (nV k) = some (nD k, []) := rfl
theorem nR_inv {v : Value} {k : Nat} {ps : List MemPlace} (h : nR v = some (nD k, ps)) : v = nV k := by
  unfold nR at h
  split at h
  · simp only [Option.some.injEq, Prod.mk.injEq, DataW.lit.injEq, Lit.int.injEq, true_and] at h
    rw [h.1]
  · cases h
/-- A map of numbers in memory. -/
def SMap (W : World) (b n : Nat) (T : Nat → Option Nat) : Prop := ∃ D : DataW Unit, W.ownsMap Tryd.prog 3 nR b n D ∧ ∀ k : Nat, k < 1000000 → D.atKey (.int .i64 (k : Int)) (nD 0) = nD ((T k).getD 0) ∧ Maps.has D (.int .i64 (k : Int)) = (T k).isSome
theorem SMap.lt {W : World} {b n : Nat} {T : Nat → Option Nat} (h : SMap W b n T) : b < W.heap.size := by
  obtain ⟨D, h1, _⟩ := h
  exact h1.lt
theorem SMap.block {W W' : World} {b n : Nat} {T : Nat → Option Nat} (h : SMap W b n T) (hb : W'.heap[b]? = W.heap[b]?) : SMap W' b n T := by
  obtain ⟨D, ⟨es, clock, h1, h2⟩, h3⟩ := h
  exact ⟨D, ⟨es, clock, hb.trans h1, h2⟩, h3⟩
theorem SMap.new (W : World) : SMap (W.alloc (.map #[] 0)) W.heap.size 0 (fun _ => none) := ⟨.map [], World.ownsMap_made W _ _ _, fun _ _ => ⟨rfl, rfl⟩⟩
theorem zeroS3 (w : World) : (zeroValue 3).run Tryd.prog w = .ok (nV 0) w := by kernel_rfl
theorem keyS3 {k : Nat} (hk : k < 1000000) : keyOf Tryd.prog 3 (nV k) = some (.int .i64 (k : Int)) := Maps.keyOf_int_mk Tryd.underlying3 (by simp [Lit.wf, IntKind.min, IntKind.max, IntKind.signed, IntKind.bits]; omega)
theorem SMap.look {W : World} {b n : Nat} {T : Nat → Option Nat} (h : SMap W b n T) {k : Nat} (hk : k < 1000000) : (Instr.lookup 98 (.map (some b)) (nV k) false).run Tryd.prog W = .ok (nV ((T k).getD 0)) W := by
  obtain ⟨D, h1, h2⟩ := h
  obtain ⟨v, ps, hrun, hv⟩ := h1.lookup (Maps.int_keyed Tryd.underlying3) Tryd.underlying98 (zeroS3 W) (nR_mk 0) (keyS3 hk)
  rw [(h2 k hk).1] at hv
  rw [hrun, nR_inv hv]
theorem SMap.lookOk {W : World} {b n : Nat} {T : Nat → Option Nat} (h : SMap W b n T) {k : Nat} (hk : k < 1000000) : (Instr.lookup 98 (.map (some b)) (nV k) true).run Tryd.prog W = .ok (.tuple #[nV ((T k).getD 0), .bool (T k).isSome]) W := by
  obtain ⟨D, h1, h2⟩ := h
  obtain ⟨v, ps, hrun, hv⟩ := h1.look_ok (Maps.int_keyed Tryd.underlying3) Tryd.underlying98 (zeroS3 W) (nR_mk 0) (keyS3 hk)
  rw [(h2 k hk).1] at hv
  rw [hrun, nR_inv hv, (h2 k hk).2]
theorem SMap.update {W : World} {b n : Nat} {T : Nat → Option Nat} (h : SMap W b n T) (hn : n < maxLen) {k : Nat} (hk : k < 1000000) (d : Nat) :
    ∃ W', (Instr.mapUpdate 98 (.map (some b)) (nV k) (nV d)).run Tryd.prog W = .ok () W' ∧ SMap W' b (n + 1) (fun u => if u = k then some d else T u) ∧ W.grownBy W' (some b) := by
  obtain ⟨D, h1, h2⟩ := h
  obtain ⟨W', hrun, r1, r2⟩ := h1.update (Maps.int_keyed Tryd.underlying3) Tryd.underlying98 hn (keyS3 hk) (nR_mk d)
  refine ⟨W', hrun, ⟨_, r1, fun u hu => ?_⟩, r2⟩
  dsimp only
  by_cases e : u = k
  · rw [if_pos e, e, Maps.atKey_put_same h1.isMap (by trivial), Maps.has_put_same h1.isMap (by trivial)]
    exact ⟨rfl, rfl⟩
  · rw [if_neg e, Maps.atKey_put_other (by intro h; injection h with _ h; exact e (Int.ofNat.inj h)), Maps.has_put_other (by intro h; injection h with _ h; exact e (Int.ofNat.inj h))]
    exact h2 u hu
/-- A line of numbers: from some place of a block on. -/
def Que (W : World) (base : Nat) (v : Value) (xs : List Nat) : Prop :=
  ∃ (g o cap : Nat) (cur : Array Value), v = .slice (some ⟨g, o, none⟩) xs.length cap ∧ base ≤ g ∧ W.heap[g]? = some (.cells cur 3 (0, 0)) ∧ xs.length ≤ cap ∧ o + cap ≤ cur.size ∧ ∀ i (h : i < xs.length), cur[o + i]? = some (nV xs[i])
theorem Que.block {W W' : World} {base : Nat} {v : Value} {xs : List Nat} (h : Que W base v xs) (hb : ∀ g, v.ownBlock = some g → W'.heap[g]? = W.heap[g]?) : Que W' base v xs := by
  obtain ⟨g, o, cap, cur, rfl, h1, h2, h3, h4, h5⟩ := h
  exact ⟨g, o, cap, cur, rfl, h1, (hb g rfl).trans h2, h3, h4, h5⟩
theorem Que.lt {W : World} {base : Nat} {v : Value} {xs : List Nat} (h : Que W base v xs) : ∃ g, v.ownBlock = some g ∧ base ≤ g ∧ g < W.heap.size := by
  obtain ⟨g, o, cap, cur, rfl, h1, h2, _⟩ := h
  exact ⟨g, rfl, h1, (Array.getElem?_eq_some_iff.1 h2).1⟩
/-- Its cells. -/
theorem Que.cells {W : World} {base : Nat} {v : Value} {xs : List Nat} (h : Que W base v xs) : ∃ g o cap, v = .slice (some ⟨g, o, none⟩) xs.length cap ∧ base ≤ g ∧ g < W.heap.size ∧ xs.length ≤ cap ∧ ∀ i (h : i < xs.length), W.cell? ⟨g, o + i, none⟩ = some (nV xs[i]) := by
  obtain ⟨g, o, cap, cur, rfl, h1, h2, h3, h4, h5⟩ := h
  refine ⟨g, o, cap, rfl, h1, (Array.getElem?_eq_some_iff.1 h2).1, h3, fun i hi => ?_⟩
  rw [cell_of_row W g (o + i) cur 3 (0, 0) h2]
  exact h5 i hi
/-- Without its head. -/
theorem Que.tail {W : World} {base g o cap : Nat} {x : Nat} {xs : List Nat} (h : Que W base (.slice (some ⟨g, o, none⟩) (x :: xs).length cap) (x :: xs)) : Que W base (.slice (some ⟨g, o + 1, none⟩) xs.length (cap - 1)) xs := by
  obtain ⟨g', o', cap', cur, e, h1, h2, h3, h4, h5⟩ := h
  injection e with e1 _ e3
  injection e1 with e1
  injection e1 with e1 e2 _
  subst e1 e2 e3
  simp only [List.length_cons] at h3
  refine ⟨g, o + 1, cap - 1, cur, rfl, h1, h2, by omega, by omega, fun i hi => ?_⟩
  have := h5 (i + 1) (by simp; omega)
  rw [show o + 1 + i = o + (i + 1) by omega]
  simpa using this
theorem infS3 : (Tryd.prog.info? 3).map (fun i => (i.zero, i.size, i.bytes)) = some (some (.int .i64 0), 1, 8) := by kernel_rfl
/-- One more at its end. -/
theorem Que.push {W : World} {base : Nat} {v : Value} {xs : List Nat} (h : Que W base v xs) (hb : base ≤ W.heap.size) (hl : xs.length ≤ 1000000) (y : Nat) {ad : Addr} {c : Nat} (ty : TypeId) (hy : ∀ j u, [nV y][j]? = some u → W.cell? (ad.add j) = some u) :
    ∃ v' W', (Builtin.append_ #[35, 35] ty #[v, .slice (some ad) 1 c]).run Tryd.prog W = .ok v' W' ∧ Que W' base v' (xs ++ [y]) ∧ W.grownBy W' v.ownBlock ∧ (v'.ownBlock = v.ownBlock ∨ v'.ownBlock = some W.heap.size) := by
  obtain ⟨g, o, cap, cur, rfl, h1, h2, h3, h4, h5⟩ := h
  obtain ⟨i0, hi, hz0, hz1, hz2⟩ := info_parts infS3
  have hs : Src Tryd.prog i0.size 35 (.slice (some ad) 1 c) 1 [nV y] W := Src.ofSlice W Tryd.underlying35 ad 1 c [nV y] (by rw [hz1]; rfl) hy (by simp [Value.oneCell'])
  have hlen : (xs ++ [y]).length = xs.length + 1 := by simp
  by_cases hroom : xs.length + 1 ≤ cap
  · have hc : ∀ j, j < [nV y].length → (W.cell? ⟨g, o + xs.length * i0.size + j, none⟩).isSome = true := fun j hj => by
      have hj0 : j = 0 := by simpa using hj
      rw [hz1, hj0, cell_of_row W g _ cur 3 (0, 0) h2]
      have : o + xs.length < cur.size := by omega
      simpa using this
    have hf : ∀ j, j < [nV y].length → W.frozen? ⟨g, o + xs.length * i0.size + j, none⟩ = false := fun j hj => by
      unfold World.frozen?
      rw [h2]
      simp
    have hr := run_append_room_src (P := Tryd.prog) W 35 35 ty 3 i0 Tryd.underlying35 hi g o xs.length cap _ 1 [nV y] hs hroom hc hf
    refine ⟨_, _, hr, ?_, ?_, .inl rfl⟩
    · rw [hz1]
      refine ⟨g, o, cap, cur.set (o + xs.length) (nV y) (by omega), by rw [hlen], h1, ?_, by omega, by simpa using h4, fun i hi => ?_⟩
      · show ((W.setCell ⟨g, o + xs.length * 1, none⟩ (nV y))).heap[g]? = _
        rw [Nat.mul_one]
        have := heap_setCell_same W g (o + xs.length) cur 3 (nV y) h2
        rw [this, Array.setIfInBounds_def, dif_pos (show o + xs.length < cur.size by omega)]
      · by_cases e : i = xs.length
        · subst e
          rw [Array.getElem?_set_self]
          simp
        · have hi' : i < xs.length := by rw [hlen] at hi; omega
          rw [Array.getElem?_set_ne _ (by omega), h5 i hi', List.getElem_append_left hi']
    · have : W.grownBy (W.setCells g (o + xs.length * i0.size) [nV y]) (some g) := ⟨rfl, rfl, rfl, by simp [World.setCells], fun k _ hk => Below.heap_setCell _ _ _ _ (fun e => hk (by rw [e]))⟩
      exact this
  · have hold : (Builtin.firstCells i0.size xs.length (.slice (some ⟨g, o, none⟩) xs.length cap)).run Tryd.prog W.drew = .ok (xs.map nV).toArray W.drew := by
      rw [hz1]
      refine run_firstCells_some W.drew 1 xs.length ⟨g, o, none⟩ xs.length cap (xs.map nV) (by simp) (fun j u hj => ?_)
      have hadd : (⟨g, o, none⟩ : Addr).add j = ⟨g, o + j, none⟩ := by unfold Addr.add; split <;> simp_all
      rw [hadd]
      have hjl : j < xs.length := by have := (List.getElem?_eq_some_iff.1 hj).1; simpa using this
      rw [List.getElem?_map, List.getElem?_eq_getElem hjl] at hj
      have hj' : nV xs[j] = u := by simpa using hj
      rw [← hj']
      show W.cell? _ = _
      rw [cell_of_row W g (o + j) cur 3 (0, 0) h2]
      exact h5 j hjl
    have hcap : cap = xs.length := by omega
    have hr := run_append_grow_src (P := Tryd.prog) W 35 35 ty 3 i0 (.int .i64 0) Tryd.underlying35 hi hz0 (some ⟨g, o, none⟩) xs.length cap (xs.map nV) hold _ 1 [nV y] hs (by omega) (by omega) (by
      rw [hz2]
      exact growslice_fits (by omega) (by omega))
    refine ⟨_, _, hr, ?_, ⟨rfl, rfl, rfl, by simp, fun k hk _ => heap_alloc_old W.drew _ hk⟩, .inr rfl⟩
    have hge := grownCap_ge W (xs.length + 1) cap 3
    refine ⟨W.heap.size, 0, _, _, by rw [hlen], hb, heap_alloc_new W.drew _, by omega, ?_, fun i hi => ?_⟩
    · simp [size_zeroCells, Value.cells]
      omega
    · rw [Nat.zero_add]
      have hi' : i < (xs.map nV ++ [nV y]).length := by rw [hlen] at hi; simp; omega
      rw [Array.getElem?_append_left (by simpa using hi')]
      rw [show (xs.map nV ++ [nV y]) = (xs ++ [y]).map nV by simp]
      rw [List.getElem?_toArray, List.getElem?_map, List.getElem?_eq_getElem hi]
      rfl
end Go.Proofs.YtjdlmhkfaodkgaaDoor.Lex
namespace Go.Proofs.YtjdlmhkfaodkgaaDoor.Lex
open Go.ChangeShapes Go.WideShapes Go.ChangeAt Go.RowKit Go.Joins
theorem cell_same {W W' : World} {g o : Nat} (h : W'.heap[g]? = W.heap[g]?) : W'.cell? ⟨g, o, none⟩ = W.cell? ⟨g, o, none⟩ := by
  unfold World.cell?
  rw [h]
/-- A row of places, in blocks that are kept. -/
def RowN (W : World) (kp : Nat → Prop) (v : Value) (xs : List Nat) : Prop :=
  ∃ (ao : Option Addr) (cap : Nat), v = .slice ao xs.length cap ∧ (xs = [] ∨ ∃ g o, ao = some ⟨g, o, none⟩ ∧ kp g ∧ g < W.heap.size ∧ ∀ i (h : i < xs.length), W.cell? ⟨g, o + i, none⟩ = some (nV xs[i]))
theorem RowN.keep {W W' : World} {kp : Nat → Prop} {v : Value} {xs : List Nat} (h : RowN W kp v xs) (hs : W.heap.size ≤ W'.heap.size) (hk : ∀ g, kp g → g < W.heap.size → W'.heap[g]? = W.heap[g]?) : RowN W' kp v xs := by
  obtain ⟨ao, cap, rfl, h⟩ := h
  refine ⟨ao, cap, rfl, ?_⟩
  rcases h with h | ⟨g, o, e, h1, h2, h3⟩
  · exact .inl h
  · exact .inr ⟨g, o, e, h1, by omega, fun i hi => (cell_same (hk g h1 h2)).trans (h3 i hi)⟩
/-- Links: whatever the place, its row. -/
structure Lks (W : World) (b : Nat) (kp : Nat → Prop) (rows : Nat → List Nat) : Prop where
  kb : kp b
  lt : b < W.heap.size
  row : ∀ k, k < 1000000 → ∃ v, (∀ W', W'.heap[b]? = W.heap[b]? → (Instr.lookup 68 (.map (some b)) (nV k) false).run Tryd.prog W' = .ok v W') ∧ RowN W kp v (rows k)
theorem Lks.keep {W W' : World} {b : Nat} {kp : Nat → Prop} {rows : Nat → List Nat} (h : Lks W b kp rows) (hs : W.heap.size ≤ W'.heap.size) (hk : ∀ g, kp g → g < W.heap.size → W'.heap[g]? = W.heap[g]?) : Lks W' b kp rows :=
  ⟨h.kb, Nat.lt_of_lt_of_le h.lt hs, fun k hlt => by
    obtain ⟨v, h1, h2⟩ := h.row k hlt
    exact ⟨v, fun V hV => h1 V (hV.trans (hk b h.kb h.lt)), h2.keep hs hk⟩⟩
/-- Two maps of rows hold such links. -/
theorem Two.lks {W : World} {base b b' n : Nat} {F F' : Int → List Int} (h : Two W base b b' n F F') (hn : n < 1099511627776) (rows : Nat → List Nat) (hr : ∀ k : Nat, k < 1000000 → F (k : Int) = (rows k).map Int.ofNat) (kp : Nat → Prop) (kb : kp b) (hkp : ∀ g, rowsOf W b g → kp g) :
    Lks W b kp rows := by
  have hlt : b < W.heap.size := by
    obtain ⟨D, hD, _⟩ := h.m
    exact hD.lt.1
  refine ⟨kb, hlt, fun k hk => ?_⟩
  obtain ⟨v, h1, h2, h3, h4, _⟩ := h.more hn (k : Int) (by omega) 0 (by omega)
  refine ⟨v, h1, ?_⟩
  have hl : (F (k : Int)).length = (rows k).length := by rw [hr k hk]; simp
  obtain ⟨_, ⟨e1, e2⟩ | ⟨g, cap, cur, e1, e2, e3, e4, e5, e6, e7⟩⟩ := h2
  · exact ⟨none, 0, by rw [e1, ← hl, e2], .inl (List.length_eq_zero_iff.1 (by omega))⟩
  · refine ⟨some ⟨g, 0, none⟩, cap, by rw [e1, hl], .inr ⟨g, 0, rfl, hkp g (h4 g (by rw [e1]; rfl)), (Array.getElem?_eq_some_iff.1 e3).1, fun i hi => ?_⟩⟩
    rw [cell_of_row W g (0 + i) cur 3 (0, 0) e3, Nat.zero_add]
    have h5 : (ints (F (k : Int)))[i]? = some (nV (rows k)[i]) := by
      rw [hr k hk]
      simp [ints, hi]
    rw [← e7, List.getElem?_take_of_lt (by omega)] at h5
    simpa using h5
end Go.Proofs.YtjdlmhkfaodkgaaDoor.Lex
namespace Go.Proofs.YtjdlmhkfaodkgaaDoor.Lex
open Go.ChangeShapes Go.WideShapes Go.ChangeAt Go.RowKit Go.Shelf
attribute [local go_sem] Oper.semAt_some
/-- An insertion into a map that is made, by its run. -/
theorem wpListIn_mapIns {F : Fence} {nF : Nat} {P : Program} {w w' : World} {ops : Array Oper} {rest : List Oper} {o : Oper} {a : Act} {Q : Exit → Act → World → Prop} (hg : o.guard = none) (m x v : Operand) (t : TypeId) (hop : o.op = Op.insert t m x v)
    (hrun : (Instr.mapUpdate t (a.eval m) (a.eval x) (a.eval v)).run P w = .ok () w') (hK : wpListIn F nF P ops Q rest (a.put o.dst undef) w') : wpListIn F nF P ops Q (o :: rest) a w := by
  refine wpListIn_plain hg fun K' hK' => ?_
  unfold Oper.wpIn
  refine ⟨by simp [Oper.about, hop], ?_⟩
  rw [Oper.semAt_plain F _ _ (by rw [hop]; intro c hc'; cases hc')]
  simp [execOp, hop, hrun, Result.andThen]
  exact hK' _ _ hK
/-- A look-up that tells whether it is there, by its run. -/
theorem wpListIn_lookOk {F : Fence} {nF : Nat} {P : Program} {w : World} {ops : Array Oper} {rest : List Oper} {o : Oper} {a : Act} {Q : Exit → Act → World → Prop} (hg : o.guard = none) (m x : Operand) (t : TypeId) (hop : o.op = Op.lookup t m x true) (v : Value)
    (hrun : (Instr.lookup t (a.eval m) (a.eval x) true).run P w = .ok v w) (hK : wpListIn F nF P ops Q rest (a.put o.dst v) w) : wpListIn F nF P ops Q (o :: rest) a w := by
  refine wpListIn_plain hg fun K' hK' => ?_
  unfold Oper.wpIn
  refine ⟨by simp [Oper.about, hop], ?_⟩
  rw [Oper.semAt_plain F _ _ (by rw [hop]; intro c hc'; cases hc')]
  simp [execOp, hop, hrun, Result.andThen]
  exact hK' _ _ hK
/-- An append, by its run. -/
theorem wpListIn_app {F : Fence} {nF : Nat} {P : Program} {w w' : World} {ops : Array Oper} {rest : List Oper} {o : Oper} {a : Act} {Q : Exit → Act → World → Prop} (hg : o.guard = none) (s x : Operand) (t : TypeId) (hop : o.op = .call { callee := .builtin .append, args := #[s, x], argTypes := #[t, t] }) (v : Value)
    (hrun : (Builtin.append_ #[t, t] o.type #[a.eval s, a.eval x]).run P w = .ok v w') (hK : wpListIn F nF P ops Q rest (a.put o.dst v) w') : wpListIn F nF P ops Q (o :: rest) a w := by
  refine wpListIn_plain hg fun K' hK' => ?_
  unfold Oper.wpIn
  refine ⟨by simp [Oper.about, hop, resolve, Target.leads, Sem.run_pure], ?_⟩
  rw [Oper.semAt_plain F _ _ (by rw [hop]; intro c hc'; cases hc')]
  simp [execOp, hop, resolve, invoke, builtin, hrun, Result.andThen]
  exact hK' _ _ hK
/-- What holds between two rounds of the search. -/
structure SI (rows : Nat → List Nat) (m a B b bf bl : Nat) (kp : Nat → Prop) (J : List (Nat × Nat) → World → Prop) (k : Nat) (pre : List (Nat × Nat)) (st : Nat → Option Nat) (line : List Nat) (N : Nat) (v : Value) (W : World) : Prop where
  que : Que W (B + 1) v line
  map : SMap W B N st
  cnt : N ≤ pre.length + line.length
  bi : Bi rows a m st (pre.map (·.1)) line
  rest : pre ++ bfsL rows k st line = reachL rows m a
  far : ∀ y e, st y = some e → e ≤ pre.length
  lks : Lks W b kp rows
  xf : W.heap[bf]? = some (.cells #[nV a] 3 (0, 0))
  xl : W.heap[bl]? = some (.cells #[.map (some b)] 68 (0, 0))
  j : J pre W
  size : B ≤ W.heap.size
/-- What holds between two of the places that one leads to. -/
structure II (rows : Nat → List Nat) (x d B b bf bl : Nat) (kp : Nat → Prop) (a : Nat) (J : List (Nat × Nat) → World → Prop) (pre : List (Nat × Nat)) (tl : List Nat) (goal : (Nat → Option Nat) × List Nat) (v2 : Value) (j : Nat) (st : Nat → Option Nat) (l : List Nat) (N : Nat) (v : Value) (W : World) : Prop where
  que : Que W (B + 1) v (x :: l)
  map : SMap W B N st
  cnt : N ≤ pre.length + 1 + l.length
  len : l.length ≤ tl.length + j
  goal : pushL d ((rows x).drop j) st l = goal
  here : st x = some d
  far : ∀ y e, st y = some e → e ≤ pre.length + 1
  lks : Lks W b kp rows
  row : RowN W kp v2 (rows x)
  xf : W.heap[bf]? = some (.cells #[nV a] 3 (0, 0))
  xl : W.heap[bl]? = some (.cells #[.map (some b)] 68 (0, 0))
  j : J (pre ++ [(x, d)]) W
  size : B ≤ W.heap.size
theorem bi_start {rows : Nat → List Nat} {n a : Nat} (ha : a < n) : Bi rows a n (fun u => if u = a then some 0 else none) [] [a] := by
  refine ⟨?_, ?_, by simp, by simpa using ha, by simp, ?_, by simp⟩
  · intro y d h
    by_cases e : y = a
    · rw [if_pos e] at h; obtain rfl := Option.some.inj h; exact e.symm
    · rw [if_neg e] at h; cases h
  · intro y
    by_cases e : y = a
    · simp [e]
    · simp [e]
  · intro x l hx y d h
    by_cases e : y = a
    · rw [if_pos e] at h; obtain rfl := Option.some.inj h; omega
    · rw [if_neg e] at h; cases h
/-- Without its head, as the slice is written. -/
theorem Que.cut {W : World} {base g o cap : Nat} {x : Nat} {xs : List Nat} (h : Que W base (.slice (some ⟨g, o, none⟩) (x :: xs).length cap) (x :: xs)) : Que W base (sliced (some ⟨g, o, none⟩) 1 (x :: xs).length cap 1) xs := by
  have ht := h.tail
  unfold sliced
  by_cases e : cap = 1
  · rw [if_pos e]
    obtain ⟨g', o', cap', cur, e0, h1, h2, h3, h4, h5⟩ := ht
    obtain ⟨g2, o2, cap2, cur2, f0, f1, f2, f3, f4, f5⟩ := h
    injection f0 with f01 _ f03
    injection f01 with f01
    injection f01 with f01 f02 _
    subst f01 f02 f03
    simp only [List.length_cons] at f3
    have hx : xs = [] := List.length_eq_zero_iff.1 (by omega)
    subst hx
    exact ⟨g, o, cap - 1, cur2, rfl, f1, f2, by simp, by omega, fun i hi => by simp at hi⟩
  · rw [if_neg e]
    exact ht
theorem Buts.lks {W W' : World} {B b : Nat} {kp : Nat → Prop} {rows : Nat → List Nat} (hb : Buts (fun g => g < B ∧ ¬ kp g) W W') (h : Lks W b kp rows) : Lks W' b kp rows := h.keep hb.size (fun g hg hlt => hb.same g hlt (fun hn => hn.2 hg))
set_option maxRecDepth 100000 in
set_option maxHeartbeats 4000000 in
theorem search (F : Fence) (n : Nat) (h56 : F.fn 56) (hro : F.round = none) (hn : 1 ≤ n) (rows : Nat → List Nat) (m a : Nat) (hm : m ≤ 1000) (hrow : ∀ z, ∀ y ∈ rows z, y < m) (hrl : ∀ z, (rows z).length ≤ 500000) (ha : a < m) (b bf bl : Nat) (kp : Nat → Prop) (w : World)
    (hkp : ∀ g, kp g → g < w.heap.size) (hL : Lks w b kp rows) (kf : kp bf) (kl : kp bl) (xf : w.heap[bf]? = some (.cells #[nV a] 3 (0, 0))) (xl : w.heap[bl]? = some (.cells #[.map (some b)] 68 (0, 0))) :
    SeqOwn F n Tryd.prog 56 #[.pointer (some ⟨bf, 0, none⟩), .pointer (some ⟨bl, 0, none⟩)] (fun q : Nat × Nat => #[nV q.1, nV q.2]) kp (fun xs => xs = reachL rows m a) (fun pre => pre <+: reachL rows m a) m w := by
  intro l J Jx W hW hJ hJx hY h0
  have xf0 : W.heap[bf]? = some (.cells #[nV a] 3 (0, 0)) := (hW.block bf (hkp bf kf)).trans xf
  have xl0 : W.heap[bl]? = some (.cells #[.map (some b)] 68 (0, 0)) := (hW.block bl (hkp bl kl)).trans xl
  have cf : ∀ V : World, V.heap[bf]? = W.heap[bf]? → V.cell? ⟨bf, 0, none⟩ = some (nV a) := fun V hV => by rw [cell_of_row _ _ _ _ 3 (0, 0) (hV.trans xf0)]; rfl
  have hL0 := hL.keep hW.size (fun g hg _ => hW.block g (hkp g hg))
  obtain ⟨W1, hins, hm1, hg1⟩ := (SMap.new W).update (by unfold maxLen; omega) (k := a) (by omega) 0
  have c1 : (W.alloc (.map #[] 0)).cell? ⟨bf, 0, none⟩ = some (nV a) := cf _ (Below.heap_alloc _ _ _ (Array.getElem?_eq_some_iff.1 xf0).1)
  have c2 : W1.cell? ⟨bf, 0, none⟩ = some (nV a) := cf _ ((hg1.block bf (by simp; have := (Array.getElem?_eq_some_iff.1 xf0).1; omega) (by intro e; injection e with e; have := (Array.getElem?_eq_some_iff.1 xf0).1; omega)).trans (Below.heap_alloc _ _ _ (Array.getElem?_eq_some_iff.1 xf0).1))
  have hmm := @run_makeMap Tryd.prog
  have HY := hid hY
  have HJ := hid hJ
  have HL0 := hid hL0
  have HM1 := hid (And.intro hm1 hg1)
  have H0 := hid h0
  clear hY hJ hJx hL hL0 hm1 hg1 h0 cf
  refine callsIn_of_wp Tryd.func56 rfl h56 ?_ hro
  simp only [Tryd.ntmps56, List.size_toArray, List.length_cons, List.length_nil, Nat.reduceAdd, Nat.reduceSub, Array.replicate_succ, Array.replicate_zero, List.push_toArray, List.append_toArray, List.nil_append, List.cons_append]
  gi_wp2_with (refine wpListIn_mapIns rfl (.tmp 11) (.tmp 12) (.const (.int .i64 0)) 98 rfl hins ?_)
  gi_loopg [5] (m + 1) (fun k v wr => ∃ (pre : List (Nat × Nat)) (st : Nat → Option Nat) (line : List Nat) (N : Nat), k + pre.length = m + 1 ∧ Hid (SI rows m a W.heap.size b bf bl kp J k pre st line N v wr))
  case atStart =>
    obtain ⟨hm1, hg1⟩ := HM1.out
    have hbk : ∀ q, q < W.heap.size → (W1.alloc (.cells #[nV a] 3)).heap[q]? = W.heap[q]? := fun q hq => by
      have h1 : W1.heap[q]? = (W.alloc (.map #[] 0)).heap[q]? := hg1.block q (by simp; omega) (by intro e; injection e with e; omega)
      have h2 := hg1.size
      rw [World.size_alloc] at h2
      rw [Below.heap_alloc _ _ _ (by omega), h1, Below.heap_alloc _ _ _ hq]
    have hsz : W.heap.size + 1 ≤ W1.heap.size := by have := hg1.size; simpa using this
    have hsz2 : (W1.alloc (.cells #[nV a] 3)).heap.size = W1.heap.size + 1 := by simp
    refine ⟨[], _, [a], 1, rfl, hid ⟨⟨W1.heap.size, 0, 1, #[nV a], rfl, hsz, World.alloc_heap_new W1 _, by simp, by simp, fun i hi => ?_⟩, hm1.block (Below.heap_alloc _ _ _ (by omega)), by simp, ?_, rfl, ?_, HL0.out.keep (by omega) (fun q hq hlt => hbk q hlt), ?_, ?_, HJ.out _ _ _ H0.out ((((Below.refl _ W).alloc (Nat.le_refl _) _).grown hg1 (by simp) (by rintro k e; injection e with e; omega)).alloc (by omega) _), by omega⟩⟩
    · obtain rfl : i = 0 := by simpa using hi
      rfl
    · exact bi_start ha
    · intro y e he
      by_cases h : y = a
      · rw [if_pos h] at he; obtain rfl := Option.some.inj he; simp
      · rw [if_neg h] at he; cases he
    · rw [hbk bf (Array.getElem?_eq_some_iff.1 xf0).1]; exact xf0
    · rw [hbk bl (Array.getElem?_eq_some_iff.1 xl0).1]; exact xl0
  case round =>
    obtain ⟨pre, st, line, N, hk, hS⟩ := hrel
    cases line with
    | nil =>
      obtain ⟨g, o, cap, rfl, _⟩ := hS.out.que.cells
      simp only [List.length_nil]
      gi_wp2
      go_end0
      refine ⟨⟨_, rfl⟩, .inl ⟨pre, ?_, hS.out.j⟩⟩
      have := hS.out.rest
      cases gk <;> simpa [bfsL] using this
    | cons x tl =>
      obtain ⟨g, o, cap, rfl, hg1, hg2, hcap, hcc⟩ := hS.out.que.cells
      have hcx := hcc 0 (by simp)
      simp only [Nat.add_zero, List.getElem_cons_zero] at hcx
      have hle : pre.length + (tl.length + 1) ≤ m := by
        have := nodup_le m _ hS.out.bi.nodup hS.out.bi.small
        simpa using this
      have hxm : x < m := hS.out.bi.small x (by simp)
      obtain ⟨d, hd⟩ := Option.ne_none_iff_exists'.1 ((hS.out.bi.known x).2 (.inr (List.mem_cons_self ..)))
      have hlk := hS.out.map.look (k := x) (by omega)
      rw [hd, Option.getD_some] at hlk
      have hpx : pre ++ [(x, d)] <+: reachL rows m a := by
        have hre := hS.out.rest
        obtain ⟨k', hk'⟩ : ∃ k', gk = k' + 1 := ⟨gk - 1, by omega⟩
        rw [hk', bfsL, hd, Option.getD_some] at hre
        rw [← hre]
        exact ⟨_, by rw [List.append_assoc]; rfl⟩
      obtain ⟨fn, tmps, assign, body, hy, hR⟩ := HY.out pre (x, d) wr hS.out.j (by omega) hpx
      clear hpx
      dsimp only at hy
      have hlen0 : (0 : Int) < ((x :: tl).length : Int) := by simp
      have hlen1 : 0 < (x :: tl).length := by simp
      clear hcc
      generalize hLN : (x :: tl).length = LN at *
      gi_wp2_with (gi_at_lookup; refine wpListIn_look rfl (.tmp 26) (.tmp 27) 98 rfl _ hlk ?_)
      refine hR.mono ?_
      rintro e W3 (⟨rfl, hJ3, hb3⟩ | ⟨rfl, hJx3⟩)
      · have hB3 : Hid (Buts (fun b => b < W.heap.size ∧ ¬kp b) wr W3) := hid hb3
        have hl3 := hb3.lks hS.out.lks
        have xl3 : W3.heap[bl]? = some (.cells #[.map (some b)] 68 (0, 0)) := (hb3.same bl (Array.getElem?_eq_some_iff.1 hS.out.xl).1 (fun h => h.2 kl)).trans hS.out.xl
        have xf3 : W3.heap[bf]? = some (.cells #[nV a] 3 (0, 0)) := (hb3.same bf (Array.getElem?_eq_some_iff.1 hS.out.xf).1 (fun h => h.2 kf)).trans hS.out.xf
        have cl3 : W3.cell? ⟨bl, 0, none⟩ = some (.map (some b)) := by rw [cell_of_row _ _ _ _ 68 (0, 0) xl3]; rfl
        obtain ⟨v2, hrun2, hrow2⟩ := hl3.row x (by omega)
        have hlk2 := hrun2 W3 rfl
        have hq3 : Que W3 (W.heap.size + 1) (.slice (some ⟨g, o, none⟩) LN cap) (x :: tl) := hS.out.que.block (fun g' hg' => by
          obtain rfl : g = g' := by simpa [Value.ownBlock] using hg'
          exact hb3.same _ hg2 (fun h => by have := h.1; omega))
        have hm3 : SMap W3 W.heap.size N st := hS.out.map.block (hb3.same _ hS.out.map.lt (fun h => by have := h.1; omega))
        have HI : Hid (II rows x d W.heap.size b bf bl kp a J pre tl (pushL d (rows x) st tl) v2 0 st tl N (.slice (some ⟨g, o, none⟩) LN cap) W3) := hid ⟨hq3, hm3, by have := hS.out.cnt; simp at this; omega, by omega, rfl, hd, fun y e he => by have := hS.out.far y e he; omega, hl3, hrow2, xf3, xl3, hJ3, by have := hS.out.size; have := hb3.size; omega⟩
        obtain ⟨ao, cap2, rfl, _⟩ := hrow2
        clear hq3 hm3 hl3 hrun2 hb3 xf3 xl3 hJ3
        gi_wp2_with (gi_at_lookup; refine wpListIn_look rfl (.tmp 31) (.tmp 32) 68 rfl _ hlk2 ?_)
        gi_loopw [35, 5] (fun i v wr => ∃ (j : Nat) (st' : Nat → Option Nat) (l' : List Nat) (N' : Nat), j ≤ (rows x).length ∧ i = .int .i64 (j : Int) ∧ Hid (II rows x d W.heap.size b bf bl kp a J pre tl (pushL d (rows x) st tl) (.slice ao (rows x).length cap2) j st' l' N' v wr)) (fun i v wr => (rows x).length - (intOf i).toNat)
        case atStart => exact ⟨0, st, tl, N, Nat.zero_le _, rfl, HI⟩
        case round =>
          clear hlk2 cl3 hlk hy HI
          obtain ⟨j, st', l', N', hj, rfl, hI⟩ := hrel
          by_cases hlt : j < (rows x).length
          · have hlt' : (j : Int) < ((rows x).length : Int) := by omega
            have hj0 : (0 : Int) ≤ (j : Int) := by omega
            obtain ⟨ao', cap', e0, hrr⟩ := hI.out.row
            obtain ⟨g2, o2, eo, _, _, hc2⟩ := hrr.resolve_left (fun e => by rw [e] at hlt; simp at hlt)
            injection e0 with e1 _ e2
            subst e2
            subst eo
            subst e1
            have cy := hc2 j hlt
            have hym : (rows x)[j] < m := hrow x _ (List.getElem_mem hlt)
            have hgoal := hI.out.goal
            rw [List.drop_eq_getElem_cons hlt, pushL] at hgoal
            have hlo := hI.out.map.lookOk (k := (rows x)[j]) (by omega)
            have hlx := hI.out.map.look (k := x) (by omega)
            rw [hI.out.here, Option.getD_some] at hlx
            have hdl : d ≤ pre.length + 1 := hI.out.far x d hI.out.here
            have hlen := hI.out.len
            have hrlx := hrl x
            clear hc2 hrr
            generalize (rows x)[j] = y at *
            cases hst : st' y with
            | none =>
              rw [if_pos hst] at hgoal
              rw [hst] at hlo
              obtain ⟨W4, hup, hm4, hg4⟩ := hI.out.map.update (by have := hI.out.cnt; unfold maxLen; omega) (k := y) (by omega) (d + 1)
              obtain ⟨gq, hgq, hgq1, hgq2⟩ := hI.out.que.lt
              have hs4 := hg4.size
              have q4 : Que W4 (W.heap.size + 1) u5 (x :: l') := hI.out.que.block (fun g' hg' => by
                obtain rfl : gq = g' := by rw [hgq] at hg'; simpa using hg'
                exact hg4.block _ hgq2 (by intro e; injection e with e; omega))
              have q5 : Que (W4.alloc (.cells #[nV y] 3)) (W.heap.size + 1) u5 (x :: l') := q4.block (fun g' hg' => by
                obtain rfl : gq = g' := by rw [hgq] at hg'; simpa using hg'
                exact Below.heap_alloc _ _ _ (by omega))
              obtain ⟨v', W6, hap, hq6, hg6, hat6⟩ := q5.push (by simp; have := hI.out.size; omega) (by simp; omega) y (ad := ⟨W4.heap.size, 0, none⟩) (c := 1) 35 (fun i u hu => by
                obtain ⟨rfl, rfl⟩ : i = 0 ∧ nV y = u := by
                  cases i with
                  | zero => exact ⟨rfl, by simpa using hu⟩
                  | succ i => simp at hu
                have h1 : (W4.alloc (.cells #[nV y] 3)).heap[W4.heap.size]? = some (.cells #[nV y] 3 (0, 0)) := World.alloc_heap_new W4 _
                show (W4.alloc (.cells #[nV y] 3)).cell? ⟨W4.heap.size, 0, none⟩ = _
                rw [cell_of_row _ _ _ _ 3 (0, 0) h1]
                rfl)
              have hs6 := hg6.size
              rw [World.size_alloc] at hs6
              have hbk : ∀ q, q < W.heap.size → W6.heap[q]? = wr.heap[q]? := fun q hq => by
                have h1 := hg6.block q (by simp; have := hI.out.size; omega) (by rw [hgq]; intro e; injection e with e; omega)
                rw [h1, Below.heap_alloc _ _ _ (by have := hI.out.size; omega)]
                exact hg4.block q (by have := hI.out.size; omega) (by intro e; injection e with e; omega)
              have hkw : ∀ q, kp q → q < W.heap.size := fun q hq => Nat.lt_of_lt_of_le (hkp q hq) hW.size
              have m6 : SMap W6 W.heap.size (N' + 1) (fun u => if u = y then some (d + 1) else st' u) := hm4.block (by
                have h1 := hg6.block W.heap.size (by simp; have := hm4.lt; omega) (by rw [hgq]; intro e; injection e with e; omega)
                rw [h1, Below.heap_alloc _ _ _ hm4.lt])
              have HN : Hid (II rows x d W.heap.size b bf bl kp a J pre tl (pushL d (rows x) st tl) (.slice (some ⟨g2, o2, none⟩) (rows x).length cap2) (j + 1) (fun u => if u = y then some (d + 1) else st' u) (l' ++ [y]) (N' + 1) v' W6) := hid
                ⟨hq6, m6, by have := hI.out.cnt; simp; omega, by simp; omega, hgoal, by
                  have hxy : x ≠ y := fun e => by rw [← e, hI.out.here] at hst; cases hst
                  show (if x = y then some (d + 1) else st' x) = some d
                  rw [if_neg hxy]; exact hI.out.here, fun u e he => by
                    have he : (if u = y then some (d + 1) else st' u) = some e := he
                    by_cases h : u = y
                    · rw [if_pos h] at he; obtain rfl := Option.some.inj he; have := hS.out.far x d hd; omega
                    · rw [if_neg h] at he; exact hI.out.far u e he,
                  hI.out.lks.keep (by omega) (fun q hq _ => hbk q (hkw q hq)), hI.out.row.keep (by omega) (fun q hq _ => hbk q (hkw q hq)), (hbk bf (hkw bf kf)).trans hI.out.xf, (hbk bl (hkw bl kl)).trans hI.out.xl, HJ.out _ _ _ hI.out.j ((((Below.refl _ wr).grown hg4 hI.out.size (by rintro k e; injection e with e; omega)).alloc (by have := hI.out.size; omega) _).grown hg6 (by simp; have := hI.out.size; omega) (by rw [hgq]; rintro k e; injection e with e; omega)), by have := hI.out.size; omega⟩
              have hup' : (Instr.mapUpdate 98 (.map (some W.heap.size)) (nV y) (.int .i64 ((d : Int) + 1))).run Tryd.prog wr = .ok () W4 := by rw [show (Value.int .i64 ((d : Int) + 1)) = nV (d + 1) from rfl]; exact hup
              have hdb : (d : Int) < 100000 := by omega
              clear hup hm4 hg4 q4 q5 hq6 hg6 hat6 m6 hbk hkw hgoal hI
              gi_wp2_with (first
                | (gi_at_lookup; refine wpListIn_lookOk rfl (.tmp 40) (.tmp 41) 98 rfl _ hlo ?_)
                | (gi_at_lookup; refine wpListIn_look rfl (.tmp 49) (.tmp 50) 98 rfl _ hlx ?_)
                | (gi_at_mapUpdate; refine wpListIn_mapPut rfl (.tmp 47) (.tmp 48) (.tmp 52) 98 rfl hup' ?_)
                | (refine wpListIn_app rfl (.tmp 53) (.tmp 55) 35 rfl _ hap ?_))
              go_roundw
              case rel => exact ⟨j + 1, _, _, _, by omega, by go_num, HN⟩
              case measure => simp [intOf]; omega
            | some e =>
              rw [if_neg (by rw [hst]; simp)] at hgoal
              rw [hst] at hlo
              have HN : Hid (II rows x d W.heap.size b bf bl kp a J pre tl (pushL d (rows x) st tl) (.slice (some ⟨g2, o2, none⟩) (rows x).length cap2) (j + 1) st' l' N' u5 wr) := hid { hI.out with goal := hgoal, len := by omega }
              clear hgoal hI
              gi_wp2_with (gi_at_lookup; refine wpListIn_lookOk rfl (.tmp 40) (.tmp 41) 98 rfl _ hlo ?_)
              go_roundw
              case rel => exact ⟨j + 1, _, _, _, by omega, by go_num, HN⟩
              case measure => simp [intOf]; omega
          · have hlt' : ¬ (j : Int) < ((rows x).length : Int) := by omega
            obtain ⟨g3, o3, cap3, rfl, _, _, hcap3, hc3⟩ := hI.out.que.cells
            clear hc3
            have hl1 : (1 : Int) ≤ ((x :: l').length : Int) := by simp; omega
            obtain ⟨k', rfl⟩ : ∃ k', gk = k' + 1 := ⟨gk - 1, by omega⟩
            have hT := hI.out.que.cut
            have hgo := hI.out.goal
            rw [List.drop_of_length_le (by omega), pushL] at hgo
            have hbs := (bi_step hrow hS.out.bi).1
            have hre := hS.out.rest
            rw [bfsL] at hre
            rw [hd, Option.getD_some] at hbs hre
            rw [← hgo] at hbs hre
            dsimp only at hbs hre
            have HF : Hid (∀ v, Que wr (W.heap.size + 1) v l' → SI rows m a W.heap.size b bf bl kp J k' (pre ++ [(x, d)]) st' l' N' v wr) := hid fun v hv =>
              ⟨hv, hI.out.map, by have := hI.out.cnt; simp; omega, by rw [List.map_append]; exact hbs, by rw [List.append_assoc]; exact hre, fun y e he => by have := hI.out.far y e he; simp; omega, hI.out.lks, hI.out.xf, hI.out.xl, hI.out.j, hI.out.size⟩
            clear hgo hbs hre hI
            generalize hLL : (x :: l').length = LL at *
            by_cases hc : cap3 = 1
            · subst hc
              have hT1 : Hid (Que wr (W.heap.size + 1) (.slice (some ⟨g3, o3, none⟩) 0 0) l') := hid (by
                have h2 : Que wr (W.heap.size + 1) (.slice (some ⟨g3, o3, none⟩) (LL - 1) 0) l' := hT
                rw [show LL - 1 = 0 by omega] at h2
                exact h2)
              clear hT
              gi_wp2
              gi_roundg (k')
              case measure => omega
              case rel => exact ⟨pre ++ [(x, d)], st', l', N', by simp; omega, hid (HF.out _ hT1.out)⟩
            · have hT1 : Hid (Que wr (W.heap.size + 1) (.slice (some ⟨g3, o3 + 1, none⟩) (LL - 1) (cap3 - 1)) l') := hid (by
                unfold sliced at hT
                rw [if_neg hc] at hT
                exact hT)
              clear hT
              gi_wp2
              gi_roundg (k')
              case measure => omega
              case rel => exact ⟨pre ++ [(x, d)], st', l', N', by simp; omega, hid (HF.out _ hT1.out)⟩
      · gi_wp2
        refine bodyPost_ret (results_none rfl _ _ _) rfl ?_
        refine ⟨⟨_, rfl⟩, .inr ⟨_, ?_, hJx3⟩⟩
        have hre := hS.out.rest
        obtain ⟨k', rfl⟩ : ∃ k', gk = k' + 1 := ⟨gk - 1, by omega⟩
        rw [bfsL, hd, Option.getD_some] at hre
        rw [← hre]
        exact ⟨_, by rw [List.append_assoc]; rfl⟩
end Go.Proofs.YtjdlmhkfaodkgaaDoor.Lex
namespace Go.Proofs.YtjdlmhkfaodkgaaDoor.Lex
open Go.ChangeShapes Go.WideShapes Go.ChangeAt Go.RowKit Go.Shelf
attribute [local go_sem] Oper.semAt_some
theorem contains_row {W : World} {kp : Nat → Prop} {v : Value} {xs : List Nat} (h : RowN W kp v xs) (hl : xs.length ≤ 500000) (y : Nat) : Calls Tryd.prog 46 #[v, nV y] W fun e w' => e = .returned (.bool (xs.contains y)) ∧ w' = W := by
  obtain ⟨ao, cap, rfl, h⟩ := h
  rcases h with rfl | ⟨g, o, rfl, _, _, hc⟩
  · exact Tryd.slices_Contains_int_empty ao cap y W
  · refine (Tryd.slices_Contains_int g o xs.length cap (xs.map Int.ofNat) y W (by simp) (by omega) (fun j hj => ?_)).mono ?_
    · have hj' : j < xs.length := by simpa using hj
      rw [hc j hj']
      simp [List.getD, hj']
    · rintro e w' ⟨rfl, rfl⟩
      refine ⟨?_, rfl⟩
      rw [List.take_of_length_le (by simp)]
      congr 2
      rw [Bool.eq_iff_iff]
      simp
      constructor
      · rintro ⟨a, h1, h2⟩
        obtain rfl : a = y := by omega
        exact h1
      · exact fun h => ⟨y, h, rfl⟩
theorem reached (n : Nat) (b k : Nat) (w : World) :
    CallsIn Fence.wide n Tryd.prog 45 #[.map (some b), nV k] w fun e w' => e = .returned (.func (.func 56) #[] #[.pointer (some ⟨w.heap.size + 1, 0, none⟩), .pointer (some ⟨w.heap.size, 0, none⟩)]) ∧ w' = (w.alloc (.cells #[.map (some b)] 68)).alloc (.cells #[nV k] 3) := by
  refine callsIn_of_wp Tryd.func45 rfl trivial ?_ rfl
  simp only [Tryd.ntmps45, List.size_toArray, List.length_cons, List.length_nil, Nat.reduceAdd, Nat.reduceSub, Array.replicate_succ, Array.replicate_zero, List.push_toArray, List.append_toArray, List.nil_append, List.cons_append]
  gi_wp2
  go_ret
  exact ⟨by simp, rfl⟩
theorem RowN.mono {W : World} {kp kp' : Nat → Prop} {v : Value} {xs : List Nat} (h : RowN W kp v xs) (hk : ∀ g, kp g → kp' g) : RowN W kp' v xs := by
  obtain ⟨ao, cap, rfl, h⟩ := h
  refine ⟨ao, cap, rfl, ?_⟩
  rcases h with h | ⟨g, o, e, h1, h2, h3⟩
  · exact .inl h
  · exact .inr ⟨g, o, e, hk g h1, h2, h3⟩
theorem Lks.mono {W : World} {b : Nat} {kp kp' : Nat → Prop} {rows : Nat → List Nat} (h : Lks W b kp rows) (hk : ∀ g, kp g → kp' g) : Lks W b kp' rows :=
  ⟨hk b h.kb, h.lt, fun k hlt => by
    obtain ⟨v, h1, h2⟩ := h.row k hlt
    exact ⟨v, h1, h2.mono hk⟩⟩
/-- Between two rounds of leadBack. -/
structure LI (rows : Nat → List Nat) (home b b' : Nat) (kp : Nat → Prop) (w : World) (pre : List (Nat × Nat)) (W : World) : Prop where
  pair : W.heap[w.heap.size]? = some (.cells #[.map (some b), .map (some b')] 70 (0, 0))
  who : W.heap[w.heap.size + 1]? = some (.cells #[nV home] 3 (0, 0))
  res : W.heap[w.heap.size + 2]? = some (.cells #[.bool false] 4 (0, 0))
  lks : Lks W b kp rows
  below : Below w.heap.size w W
  none : ∀ q ∈ pre, (rows q.1).contains home = false
set_option maxRecDepth 100000 in
set_option maxHeartbeats 4000000 in
theorem lead_back (rows : Nat → List Nat) (m home : Nat) (hm : m ≤ 1000) (hrow : ∀ z, ∀ y ∈ rows z, y < m) (hrl : ∀ z, (rows z).length ≤ 500000) (ha : home < m) (b b' : Nat) (kp : Nat → Prop) (w : World) (hkp : ∀ g, kp g → g < w.heap.size) (hL : Lks w b kp rows) :
    CallsIn Fence.wide 20 Tryd.prog 26 #[.agg #[.map (some b), .map (some b')], nV home] w fun e W' => e = .returned (.bool (leadB rows m home)) ∧ Below w.heap.size w W' := by
  have b1 := (Below.refl w.heap.size w).alloc (Nat.le_refl _) (.cells #[.map (some b), .map (some b')] 70)
  have b2 := b1.alloc (by simp) (.cells #[nV home] 3)
  have b3 := b2.alloc (by simp; omega) (.cells #[.bool false] 4)
  have b4 := b3.alloc (by simp; omega) (.cells #[.map (some b)] 68)
  have b5 := b4.alloc (by simp; omega) (.cells #[nV home] 3)
  have HB := hid b5
  have p0 : (((((w.alloc (.cells #[.map (some b), .map (some b')] 70)).alloc (.cells #[nV home] 3)).alloc (.cells #[.bool false] 4)).alloc (.cells #[.map (some b)] 68)).alloc (.cells #[nV home] 3)).heap[w.heap.size]? = some (.cells #[.map (some b), .map (some b')] 70 (0, 0)) := push_old (push_old (push_old (push_old (push_new _ _ _ rfl))))
  have p1 : (((((w.alloc (.cells #[.map (some b), .map (some b')] 70)).alloc (.cells #[nV home] 3)).alloc (.cells #[.bool false] 4)).alloc (.cells #[.map (some b)] 68)).alloc (.cells #[nV home] 3)).heap[w.heap.size + 1]? = some (.cells #[nV home] 3 (0, 0)) := push_old (push_old (push_old (push_new _ _ _ (by simp))))
  have p2 : (((((w.alloc (.cells #[.map (some b), .map (some b')] 70)).alloc (.cells #[nV home] 3)).alloc (.cells #[.bool false] 4)).alloc (.cells #[.map (some b)] 68)).alloc (.cells #[nV home] 3)).heap[w.heap.size + 2]? = some (.cells #[.bool false] 4 (0, 0)) := push_old (push_old (push_new _ _ _ (by simp)))
  have p3 : (((((w.alloc (.cells #[.map (some b), .map (some b')] 70)).alloc (.cells #[nV home] 3)).alloc (.cells #[.bool false] 4)).alloc (.cells #[.map (some b)] 68)).alloc (.cells #[nV home] 3)).heap[w.heap.size + 3]? = some (.cells #[.map (some b)] 68 (0, 0)) := push_old (push_new _ _ _ (by simp))
  have p4 : (((((w.alloc (.cells #[.map (some b), .map (some b')] 70)).alloc (.cells #[nV home] 3)).alloc (.cells #[.bool false] 4)).alloc (.cells #[.map (some b)] 68)).alloc (.cells #[nV home] 3)).heap[w.heap.size + 4]? = some (.cells #[nV home] 3 (0, 0)) := push_new _ _ _ (by simp)
  have sz : (((((w.alloc (.cells #[.map (some b), .map (some b')] 70)).alloc (.cells #[nV home] 3)).alloc (.cells #[.bool false] 4)).alloc (.cells #[.map (some b)] 68)).alloc (.cells #[nV home] 3)).heap.size = w.heap.size + 5 := by simp
  have HP := hid (And.intro p0 (And.intro p1 (And.intro p2 (And.intro p3 p4))))
  have HL := hid hL
  have h45 : Fence.wide.fn 45 := trivial
  have h46 : Fence.wide.fn 46 := trivial
  clear b1 b2 b3 b4 b5 p0 p1 p2 p3 p4 hL
  refine callsIn_of_wp_marks Tryd.func26 rfl trivial ?_ rfl
  simp only [Tryd.ntmps26, List.size_toArray, List.length_cons, List.length_nil, Nat.reduceAdd, Nat.reduceSub, Array.replicate_succ, Array.replicate_zero, List.push_toArray, List.append_toArray, List.nil_append, List.cons_append]
  gi_wp2_with (gi_at_call 45; refine (reached _ _ _ _).mono ?_; rintro e w' ⟨rfl, rfl⟩)
  generalize (((((w.alloc (.cells #[.map (some b), .map (some b')] 70)).alloc (.cells #[nV home] 3)).alloc (.cells #[.bool false] 4)).alloc (.cells #[.map (some b)] 68)).alloc (.cells #[nV home] 3)) = W0 at *
  simp only [Nat.add_assoc, Nat.reduceAdd]
  obtain ⟨p0, p1, p2, p3, p4⟩ := HP.out
  have hL0 : Lks W0 b kp rows := HL.out.keep HB.out.size (fun g hg _ => HB.out.block g (hkp g hg))
  have hkk : ∀ g, (kp g ∨ g = w.heap.size + 3 ∨ g = w.heap.size + 4) → g < W0.heap.size := fun g hg => by
    rcases hg with hg | rfl | rfl
    · have := hkp g hg; omega
    · omega
    · omega
  have hno : ∀ q, q = w.heap.size + 2 → q < W0.heap.size ∧ ¬ (kp q ∨ q = w.heap.size + 3 ∨ q = w.heap.size + 4) := fun q hq => by
    subst hq
    refine ⟨by omega, fun h => ?_⟩
    rcases h with h | h | h
    · have := hkp _ h; omega
    · omega
    · omega
  have hS := search Fence.wide 19 trivial rfl (by omega) rows m home hm hrow hrl ha b (w.heap.size + 4) (w.heap.size + 3) (fun g => kp g ∨ g = w.heap.size + 3 ∨ g = w.heap.size + 4) W0 hkk (hL0.mono (fun g hg => .inl hg)) (.inr (.inr rfl)) (.inr (.inl rfl)) p4 p3
  refine range_own (n := 20) (own := fun q => q = w.heap.size + 2) (N := m) rfl (by omega) (gf := 56) (lb := #[.pointer (some ⟨w.heap.size + 4, 0, none⟩), .pointer (some ⟨w.heap.size + 3, 0, none⟩)]) rfl trivial (enters_of Tryd.func56 (by kernel_rfl) rfl) hS (Below.refl _ _) (fun _ => rfl) hno hkk
    (LI rows home b b' kp w) (fun c pre W => c = .ret ∧ Boxed W (w.heap.size + 2) 4 (.bool true) ∧ Below w.heap.size w W ∧ ∃ q ∈ pre, (rows q.1).contains home = true)
    (fun s A C h hb => ⟨(hb.block _ (by omega)).trans h.pair, (hb.block _ (by omega)).trans h.who, (hb.block _ (by omega)).trans h.res, h.lks.keep hb.size (fun g hg _ => hb.block g (by have := hkp g hg; omega)), h.below.trans (hb.mono (by omega)), h.none⟩)
    (fun c s A C h hb => ⟨h.1, (hb.block _ (by omega)).trans h.2.1, h.2.2.1.trans (hb.mono (by omega)), h.2.2.2⟩)
    ⟨p0, p1, p2, hL0, HB.out, fun q hq => by cases hq⟩
    (fun x => { tmps := #[.agg #[.map (some b), .map (some b')], nV home, .pointer (some ⟨w.heap.size, 0, none⟩), .pointer (some ⟨w.heap.size + 1, 0, none⟩), .pointer (some ⟨w.heap.size + 2, 0, none⟩), nV x.1, .pointer (some ⟨w.heap.size, 0, none⟩), .map (some b), nV home, .func (.func 56) #[] #[.pointer (some ⟨w.heap.size + 4, 0, none⟩), .pointer (some ⟨w.heap.size + 3, 0, none⟩)], nV x.1, nV x.2, undef, undef, undef, undef, undef, undef], defers := [] })
    ?assign ?body ?done ?stop
  case assign =>
    rintro l x W K hK
    gi_wp2
    exact hK
  case body =>
    rintro l pre x W hl hI hlen hsp
    have hx : x.1 < m := (reach_spec hrow ha).2.1 x.1 (List.mem_map.2 ⟨x, hsp.subset (by simp), rfl⟩)
    obtain ⟨v, hlk0, hrw⟩ := hI.lks.row x.1 (by omega)
    have hlk := hlk0 W rfl
    have hct := ((callsIn_wide (n := 17)).2 (contains_row hrw (hrl x.1) home)).inRound l
    have cV : W.cell? ⟨w.heap.size, 0, none⟩ = some (.map (some b)) := by rw [cell_of_row _ _ _ _ 70 (0, 0) hI.pair]; rfl
    have cH : W.cell? ⟨w.heap.size + 1, 0, none⟩ = some (nV home) := by rw [cell_of_row _ _ _ _ 3 (0, 0) hI.who]; rfl
    have bR : Boxed W (w.heap.size + 2) 4 (.bool false) := hI.res
    have d3 := bR.cell
    have f3 := bR.frozen
    have HI := hid hI
    have HR := hid bR
    clear hlk0 hrw hsp hS hI bR
    simp only [Nat.reduceSub]
    cases hc : (rows x.1).contains home with
    | true =>
      rw [hc] at hct
      gi_wp2_with (first | (gi_at_lookup; refine wpListIn_look rfl (.tmp 13) (.tmp 14) 68 rfl _ hlk ?_) | (gi_at_call 46; refine hct.mono ?_; rintro e w' ⟨rfl, rfl⟩))
      exact ⟨⟨by simp, fun q _ hq => Below.heap_setCell _ _ _ _ hq⟩, rfl, HR.out.set _, HI.out.below.setCell (by simp) _, x, by simp, hc⟩
    | false =>
      rw [hc] at hct
      gi_wp2_with (first | (gi_at_lookup; refine wpListIn_look rfl (.tmp 13) (.tmp 14) 68 rfl _ hlk ?_) | (gi_at_call 46; refine hct.mono ?_; rintro e w' ⟨rfl, rfl⟩))
      refine ⟨Buts.refl _ _, { HI.out with none := fun q hq => ?_ }⟩
      rcases List.mem_append.1 hq with hq | hq
      · exact HI.out.none q hq
      · obtain rfl : q = x := by simpa using hq
        exact hc
  case done =>
    rintro D xs W hD rfl hI hK
    have bR : Boxed W (w.heap.size + 2) 4 (.bool false) := hI.res
    have d3 := bR.cell
    have f3 := bR.frozen
    have hlb : leadB rows m home = false := by
      unfold leadB
      rw [List.any_eq_false]
      intro q hq
      rw [hI.none q hq]
      simp
    have HI := hid hI
    have HR := hid bR
    clear hS hI bR
    gi_wp2
    have hK' : (W.setCell ⟨w.heap.size + 2, 0, none⟩ (.bool false)).heap[D]? = some (.deferred (some [])) := by
      rw [Below.heap_setCell _ _ _ _ (by show D ≠ w.heap.size + 2; omega)]
      exact hK
    refine ⟨by simp, .inl ⟨_, _, rfl, run_takeDeferred hK', ?_⟩⟩
    have e2 : ((W.setCell ⟨w.heap.size + 2, 0, none⟩ (.bool false)).putObj D (.deferred none)).cell? ⟨w.heap.size + 2, 0, none⟩ = some (.bool false) := Go.cell_kept (HR.out.set _).cell (grownBy_putObj' _ D (.deferred none)) (fun r e => by cases e; exact ⟨_, hK', rfl⟩)
    exact ⟨.bool false, by simp [results, Tryd.f26, go_sem, e2], by rw [hlb], (HI.out.below.setCell (by simp) _).trans (belowK_b (w := w) (Nat.le_refl _) _ D _ _ (by omega) hK' rfl rfl)⟩
  case stop =>
    rintro D c pre W hD hpre ⟨rfl, hB, hW, q, hq, hc⟩ hK
    have hlb : leadB rows m home = true := by
      unfold leadB
      rw [List.any_eq_true]
      exact ⟨q, hpre.subset hq, hc⟩
    clear hS
    gi_wp2
    refine ⟨by simp, .inl ⟨_, _, rfl, run_takeDeferred hK, ?_⟩⟩
    have e2 : (W.putObj D (.deferred none)).cell? ⟨w.heap.size + 2, 0, none⟩ = some (.bool true) := Go.cell_kept hB.cell (grownBy_putObj' _ D (.deferred none)) (fun r e => by cases e; exact ⟨_, hK, rfl⟩)
    exact ⟨.bool true, by simp [results, Tryd.f26, go_sem, e2], by rw [hlb], hW.trans (belowK_b (w := w) (Nat.le_refl _) W D _ _ (by omega) hK rfl rfl)⟩
end Go.Proofs.YtjdlmhkfaodkgaaDoor.Lex
namespace Go.Proofs.YtjdlmhkfaodkgaaDoor.Lex
open Go.ChangeShapes Go.WideShapes Go.ChangeAt Go.RowKit Go.Shelf
attribute [local go_sem] Oper.semAt_some
/-- What is known of the nearest so far. -/
def besV (b : Option (Nat × Nat)) : Value := nV ((b.map (·.1)).getD 0)
def fewV : Option (Nat × Nat) → Value
  | none => .int .i64 (-1)
  | some g => nV g.2
set_option maxRecDepth 100000 in
set_option maxHeartbeats 4000000 in
theorem nearest (n : Nat) {kp : Nat → Prop} {v : Value} {ys : List Nat} {st : Nat → Option Nat} {W : World} {b N : Nat} (hr : RowN W kp v ys) (hy : ∀ y ∈ ys, y < 1000000) (hl : ys.length ≤ 500000) (hm : SMap W b N st) :
    CallsIn Fence.wide n Tryd.prog 48 #[v, .map (some b)] W fun e w' => e = .returned (nV (nearN st ys)) ∧ w' = W := by
  obtain ⟨ao, cap, rfl, hc⟩ := hr
  have HC := hid hc
  have HM := hid hm
  have HY := hid hy
  clear hc hm hy
  refine callsIn_of_wp Tryd.func48 rfl trivial ?_ rfl
  simp only [Tryd.ntmps48, List.size_toArray, List.length_cons, List.length_nil, Nat.reduceAdd, Nat.reduceSub, Array.replicate_succ, Array.replicate_zero, List.push_toArray, List.append_toArray, List.nil_append, List.cons_append]
  gi_wp2
  gi_loopw [13, 5, 6] (fun i v5 v6 wr => ∃ (k : Nat) (bb : Option (Nat × Nat)), k ≤ ys.length ∧ i = .int .i64 (k : Int) ∧ v5 = besV bb ∧ v6 = fewV bb ∧ Hid (nearF st (ys.drop k) bb = nearF st ys none) ∧ wr = W) (fun i _ _ _ => ys.length - (intOf i).toNat)
  case atStart => exact ⟨0, none, Nat.zero_le _, rfl, rfl, rfl, hid rfl, rfl⟩
  case round =>
    obtain ⟨k, bb, hk, rfl, rfl, rfl, hN, rfl⟩ := hrel
    by_cases hlt : k < ys.length
    · have hlt' : (k : Int) < (ys.length : Int) := by omega
      have hk0 : (0 : Int) ≤ (k : Int) := by omega
      obtain ⟨g, o, rfl, _, _, hcc⟩ := HC.out.resolve_left (fun e => by rw [e] at hlt; simp at hlt)
      have cy := hcc k hlt
      have hym := HY.out _ (List.getElem_mem hlt)
      have hn := hN.out
      rw [List.drop_eq_getElem_cons hlt, nearF] at hn
      have hlo := HM.out.lookOk hym
      clear hcc hN
      generalize ys[k] = y at *
      cases hst : st y with
      | none =>
        rw [hst] at hlo hn
        have HN := hid hn
        clear hn
        gi_wp2_with (gi_at_lookup; refine wpListIn_lookOk rfl (.tmp 18) (.tmp 19) 98 rfl _ hlo ?_)
        go_roundw
        case rel => exact ⟨k + 1, bb, by omega, by go_num, rfl, rfl, HN, trivial⟩
        case measure => simp [intOf]; omega
      | some f =>
        rw [hst] at hlo hn
        cases bb with
        | none =>
          have HN := hid hn
          clear hn
          dsimp only [besV, fewV, Option.map_none, Option.getD_none]
          gi_wp2_with (gi_at_lookup; refine wpListIn_lookOk rfl (.tmp 18) (.tmp 19) 98 rfl _ hlo ?_)
          go_roundw
          case rel => exact ⟨k + 1, some (y, f), by omega, by go_num, rfl, rfl, HN, trivial⟩
          case measure => simp [intOf]; omega
        | some g2 =>
          dsimp only [besV, fewV, Option.map_some, Option.getD_some]
          have h0 : ¬ ((g2.2 : Int) < 0) := by omega
          by_cases hf : f < g2.2
          · have hf' : (f : Int) < (g2.2 : Int) := by omega
            simp only [hf, if_true] at hn
            have HN := hid hn
            clear hn
            gi_wp2_with (gi_at_lookup; refine wpListIn_lookOk rfl (.tmp 18) (.tmp 19) 98 rfl _ hlo ?_)
            go_roundw
            case rel => exact ⟨k + 1, some (y, f), by omega, by go_num, rfl, rfl, HN, trivial⟩
            case measure => simp [intOf]; omega
          · have hf' : ¬ (f : Int) < (g2.2 : Int) := by omega
            simp only [hf, if_false] at hn
            have HN := hid hn
            clear hn
            gi_wp2_with (gi_at_lookup; refine wpListIn_lookOk rfl (.tmp 18) (.tmp 19) 98 rfl _ hlo ?_)
            go_roundw
            case rel => exact ⟨k + 1, some g2, by omega, by go_num, rfl, rfl, HN, trivial⟩
            case measure => simp [intOf]; omega
    · have hlt' : ¬ (k : Int) < (ys.length : Int) := by omega
      have hn := hN.out
      rw [List.drop_of_length_le (by omega), nearF] at hn
      have e : nearN st ys = ((bb.map (·.1)).getD 0) := by unfold nearN; rw [← hn]
      clear hn hN
      gi_wp2
      go_ret
      exact ⟨rfl, rfl⟩
end Go.Proofs.YtjdlmhkfaodkgaaDoor.Lex
namespace Go.Proofs.YtjdlmhkfaodkgaaDoor.Lex
/-- What a map holds when pairs were stored one after the other. -/
def putS (pre : List (Nat × Nat)) (u : Nat) : Option Nat := (pre.reverse.find? fun q => q.1 == u).map (·.2)
theorem putS_snoc (pre : List (Nat × Nat)) (x : Nat × Nat) : (fun u => if u = x.1 then some x.2 else putS pre u) = putS (pre ++ [x]) := by
  funext u
  unfold putS
  rw [List.reverse_append]
  by_cases h : u = x.1
  · rw [if_pos h]
    simp [h]
  · rw [if_neg h]
    have : (x.1 == u) = false := by simp; exact fun e => h e.symm
    simp [this]
theorem find_rev : ∀ (l : List (Nat × Nat)), (l.map (·.1)).Nodup → ∀ u, (l.reverse.find? fun q => q.1 == u) = l.find? fun q => q.1 == u
  | [], _, u => rfl
  | x :: l, h, u => by
    have h1 := List.nodup_cons.1 (show (x.1 :: l.map (·.1)).Nodup from h)
    rw [List.reverse_cons, List.find?_append, find_rev l h1.2 u, List.find?_cons]
    cases e : (x.1 == u) with
    | false => simp [e]
    | true =>
      have hx : x.1 = u := by simpa using e
      have hn : (l.find? fun q => q.1 == u) = none := by
        rw [List.find?_eq_none]
        intro q hq hqu
        have : q.1 = u := by simpa using hqu
        exact h1.1 (by rw [hx, ← this]; exact List.mem_map.2 ⟨q, hq, rfl⟩)
      rw [hn]
      simp [e]
theorem putS_all {who : Nat → List Nat} {n home : Nat} (hw : ∀ z, ∀ y ∈ who z, y < n) (hh : home < n) : putS (reachL who n home) = stp who n home := by
  funext u
  unfold putS stp
  rw [find_rev _ (reach_spec hw hh).1]
/-- The next one of the way lies nearer. -/
theorem next_near {rows who : Nat → List Nat} {n home : Nat} (hw : ∀ z, ∀ y ∈ who z, y < n) (hh : home < n) (hr : ∀ i j, j ∈ rows i ↔ i ∈ who j) {d x : Nat} (hx : stp who n home x = some (d + 1)) :
    x ≠ home ∧ nearN (stp who n home) (rows x) ∈ rows x ∧ stp who n home (nearN (stp who n home) (rows x)) = some d := by
  have hD := (stp_spec hw hh x (d + 1)).1 hx
  have hne : x ≠ home := fun e => by
    have := hD.2 0 e.symm
    omega
  obtain ⟨c, hc, hxc⟩ := hD.1
  have hcx : c ∈ rows x := (hr x c).2 hxc
  obtain ⟨e, he, hce⟩ := dst_of d hc
  have hsc := (stp_spec hw hh c e).2 hce
  obtain ⟨m, n1, n2, n3⟩ := near_some hcx hsc
  have hm : m = d := by
    have h1 := n3 c hcx e hsc
    have h2 := (stp_spec hw hh _ m).1 n2
    have h3 := hD.2 (m + 1) ⟨_, h2.1, (hr x _).1 n1⟩
    omega
  rw [hm] at n2
  exact ⟨hne, n1, n2⟩
theorem next_home {who : Nat → List Nat} {n home : Nat} (hw : ∀ z, ∀ y ∈ who z, y < n) (hh : home < n) {x : Nat} (hx : stp who n home x = some 0) : x = home := ((stp_spec hw hh x 0).1 hx).1.symm
/-- The first one of the way. -/
theorem first_near {rows who : Nat → List Nat} {n home : Nat} (hn : ∀ z, ∀ y ∈ rows z, y < n) (hw : ∀ z, ∀ y ∈ who z, y < n) (hh : home < n) (hr : ∀ i j, j ∈ rows i ↔ i ∈ who j) (hl : leadB rows n home = true) :
    ∃ d, d ≤ n ∧ nearN (stp who n home) (rows home) ∈ rows home ∧ stp who n home (nearN (stp who n home) (rows home)) = some d := by
  obtain ⟨k0, hk0⟩ := (lead_spec hn hh).1 hl
  obtain ⟨c, hc, hcr⟩ := (rch_front k0 home home).1 hk0
  obtain ⟨e, he, hD⟩ := dst_of k0 ((rch_back hr k0 home c).2 hcr)
  obtain ⟨m, n1, n2, n3⟩ := near_some hc ((stp_spec hw hh c e).2 hD)
  have hDm := (stp_spec hw hh _ m).1 n2
  refine ⟨m, ?_, n1, n2⟩
  have hlen := nodup_le n _ (reach_spec hw hh).1 (reach_spec hw hh).2.1
  have hback : ∀ (i j : Nat) (y : Nat), Dst who home y (j + i) → ∃ y, Dst who home y j := by
    intro i j
    induction i with
    | zero => intro y h; exact ⟨y, h⟩
    | succ i ih =>
      rintro y ⟨⟨c, hc, hyc⟩, hmin⟩
      obtain ⟨d, hd, hDc⟩ := dst_of (j + i) hc
      have := hmin (d + 1) ⟨c, hDc.1, hyc⟩
      have e : d = j + i := by omega
      rw [e] at hDc
      exact ih c hDc
  have hs : List.range (m + 1) ⊆ (reachL who n home).map (·.2) := fun j hj => by
    have hj' : j ≤ m := by have := List.mem_range.1 hj; omega
    obtain ⟨y, hy⟩ := hback (m - j) j _ (by rw [show j + (m - j) = m by omega]; exact hDm)
    exact List.mem_map.2 ⟨(y, j), ((reach_spec hw hh).2.2 y j).2 hy, rfl⟩
  have hle := (List.nodup_range (n := m + 1)).length_le_of_subset hs
  simp at hle hlen
  omega
end Go.Proofs.YtjdlmhkfaodkgaaDoor.Lex
namespace Go.Proofs.YtjdlmhkfaodkgaaDoor.Lex
open Go.ChangeShapes Go.WideShapes Go.ChangeAt Go.RowKit Go.Shelf
attribute [local go_sem] Oper.semAt_some
/-- Between two rounds of around's range. -/
structure AI (rows : Nat → List Nat) (b b' : Nat) (kp : Nat → Prop) (w : World) (pre : List (Nat × Nat)) (W : World) : Prop where
  pair : W.heap[w.heap.size]? = some (.cells #[.map (some b), .map (some b')] 70 (0, 0))
  var : W.heap[w.heap.size + 2]? = some (.cells #[.map (some (w.heap.size + 1))] 98 (0, 0))
  map : SMap W (w.heap.size + 1) pre.length (putS pre)
  lks : Lks W b kp rows
  below : Below w.heap.size w W
theorem Que.mono {W : World} {base base' : Nat} {v : Value} {xs : List Nat} (h : Que W base v xs) (hb : base' ≤ base) : Que W base' v xs := by
  obtain ⟨g, o, cap, cur, rfl, h1, h2⟩ := h
  exact ⟨g, o, cap, cur, rfl, by omega, h2⟩
set_option maxRecDepth 100000 in
set_option maxHeartbeats 4000000 in
theorem around (rows who : Nat → List Nat) (m home : Nat) (hm : m ≤ 1000) (hrow : ∀ z, ∀ y ∈ rows z, y < m) (hwho : ∀ z, ∀ y ∈ who z, y < m) (hrl : ∀ z, (rows z).length ≤ 500000) (hwl : ∀ z, (who z).length ≤ 500000) (ha : home < m) (hr : ∀ i j, j ∈ rows i ↔ i ∈ who j) (hlb : leadB rows m home = true)
    (b b' : Nat) (kp : Nat → Prop) (w : World) (hkp : ∀ g, kp g → g < w.heap.size) (hL : Lks w b kp rows) (hL' : Lks w b' kp who) :
    CallsIn Fence.wide 20 Tryd.prog 28 #[.agg #[.map (some b), .map (some b')], nV home] w fun e W' => ∃ v, e = .returned v ∧ Que W' w.heap.size v (circ rows who m home) ∧ Below w.heap.size w W' := by
  have b1 := (Below.refl w.heap.size w).alloc (Nat.le_refl _) (.cells #[.map (some b), .map (some b')] 70)
  have b2 := b1.alloc (by simp) (.map #[] 0)
  have b3 := b2.alloc (by simp; omega) (.cells #[.map (some (w.heap.size + 1))] 98)
  have b4 := b3.alloc (by simp; omega) (.cells #[.map (some b')] 68)
  have b5 := b4.alloc (by simp; omega) (.cells #[nV home] 3)
  have HB := hid b5
  have p0 : (((((w.alloc (.cells #[.map (some b), .map (some b')] 70)).alloc (.map #[] 0)).alloc (.cells #[.map (some (w.heap.size + 1))] 98)).alloc (.cells #[.map (some b')] 68)).alloc (.cells #[nV home] 3)).heap[w.heap.size]? = some (.cells #[.map (some b), .map (some b')] 70 (0, 0)) := push_old (push_old (push_old (push_old (push_new _ _ _ rfl))))
  have p1 : SMap (((((w.alloc (.cells #[.map (some b), .map (some b')] 70)).alloc (.map #[] 0)).alloc (.cells #[.map (some (w.heap.size + 1))] 98)).alloc (.cells #[.map (some b')] 68)).alloc (.cells #[nV home] 3)) (w.heap.size + 1) 0 (fun _ => none) := by
    have m1 := SMap.new (w.alloc (.cells #[.map (some b), .map (some b')] 70))
    rw [World.size_alloc] at m1
    refine m1.block ?_
    rw [Below.heap_alloc _ _ _ (by simp <;> omega), Below.heap_alloc _ _ _ (by simp <;> omega), Below.heap_alloc _ _ _ (by simp)]
  have p2 : (((((w.alloc (.cells #[.map (some b), .map (some b')] 70)).alloc (.map #[] 0)).alloc (.cells #[.map (some (w.heap.size + 1))] 98)).alloc (.cells #[.map (some b')] 68)).alloc (.cells #[nV home] 3)).heap[w.heap.size + 2]? = some (.cells #[.map (some (w.heap.size + 1))] 98 (0, 0)) := push_old (push_old (push_new _ _ _ (by simp)))
  have p3 : (((((w.alloc (.cells #[.map (some b), .map (some b')] 70)).alloc (.map #[] 0)).alloc (.cells #[.map (some (w.heap.size + 1))] 98)).alloc (.cells #[.map (some b')] 68)).alloc (.cells #[nV home] 3)).heap[w.heap.size + 3]? = some (.cells #[.map (some b')] 68 (0, 0)) := push_old (push_new _ _ _ (by simp))
  have p4 : (((((w.alloc (.cells #[.map (some b), .map (some b')] 70)).alloc (.map #[] 0)).alloc (.cells #[.map (some (w.heap.size + 1))] 98)).alloc (.cells #[.map (some b')] 68)).alloc (.cells #[nV home] 3)).heap[w.heap.size + 4]? = some (.cells #[nV home] 3 (0, 0)) := push_new _ _ _ (by simp)
  have sz : (((((w.alloc (.cells #[.map (some b), .map (some b')] 70)).alloc (.map #[] 0)).alloc (.cells #[.map (some (w.heap.size + 1))] 98)).alloc (.cells #[.map (some b')] 68)).alloc (.cells #[nV home] 3)).heap.size = w.heap.size + 5 := by simp
  have HP := hid (And.intro p0 (And.intro p1 (And.intro p2 (And.intro p3 p4))))
  have HL := hid hL
  have HL' := hid hL'
  have h45 : Fence.wide.fn 45 := trivial
  have h48 : Fence.wide.fn 48 := trivial
  have hmm := @run_makeMap Tryd.prog
  clear b1 b2 b3 b4 b5 p0 p1 p2 p3 p4 hL hL'
  refine callsIn_of_wp_marks Tryd.func28 rfl trivial ?_ rfl
  simp only [Tryd.ntmps28, List.size_toArray, List.length_cons, List.length_nil, Nat.reduceAdd, Nat.reduceSub, Array.replicate_succ, Array.replicate_zero, List.push_toArray, List.append_toArray, List.nil_append, List.cons_append]
  gi_wp2_with (gi_at_call 45; refine (reached _ _ _ _).mono ?_; rintro e w' ⟨rfl, rfl⟩)
  simp only [Nat.add_assoc, Nat.reduceAdd]
  generalize (((((w.alloc (.cells #[.map (some b), .map (some b')] 70)).alloc (.map #[] 0)).alloc (.cells #[.map (some (w.heap.size + 1))] 98)).alloc (.cells #[.map (some b')] 68)).alloc (.cells #[nV home] 3)) = W0 at *
  obtain ⟨p0, p1, p2, p3, p4⟩ := HP.out
  have hL0 : Lks W0 b kp rows := HL.out.keep HB.out.size (fun g hg _ => HB.out.block g (hkp g hg))
  have hL0' : Lks W0 b' kp who := HL'.out.keep HB.out.size (fun g hg _ => HB.out.block g (hkp g hg))
  have hkk : ∀ g, (kp g ∨ g = w.heap.size + 3 ∨ g = w.heap.size + 4) → g < W0.heap.size := fun g hg => by
    rcases hg with hg | rfl | rfl
    · have := hkp g hg; omega
    · omega
    · omega
  have hno : ∀ q, q = w.heap.size + 1 → q < W0.heap.size ∧ ¬ (kp q ∨ q = w.heap.size + 3 ∨ q = w.heap.size + 4) := fun q hq => by
    subst hq
    refine ⟨by omega, fun h => ?_⟩
    rcases h with h | h | h
    · have := hkp _ h; omega
    · omega
    · omega
  have hS := search Fence.wide 19 trivial rfl (by omega) who m home hm hwho hwl ha b' (w.heap.size + 4) (w.heap.size + 3) (fun g => kp g ∨ g = w.heap.size + 3 ∨ g = w.heap.size + 4) W0 hkk (hL0'.mono (fun g hg => .inl hg)) (.inr (.inr rfl)) (.inr (.inl rfl)) p4 p3
  refine range_own (n := 20) (own := fun q => q = w.heap.size + 1) (N := m) rfl (by omega) (gf := 56) (lb := #[.pointer (some ⟨w.heap.size + 4, 0, none⟩), .pointer (some ⟨w.heap.size + 3, 0, none⟩)]) rfl trivial (enters_of Tryd.func56 (by kernel_rfl) rfl) hS (Below.refl _ _) (fun _ => rfl) hno hkk
    (AI rows b b' kp w) (fun _ _ _ => False)
    (fun s A C h hb => ⟨(hb.block _ (by omega)).trans h.pair, (hb.block _ (by omega)).trans h.var, h.map.block (hb.block _ (by omega)), h.lks.keep hb.size (fun g hg _ => hb.block g (by have := hkp g hg; omega)), h.below.trans (hb.mono (by omega))⟩)
    (fun c s A C h hb => h)
    ⟨p0, p2, p1, hL0, HB.out⟩
    (fun x => { tmps := #[.agg #[.map (some b), .map (some b')], nV home, .pointer (some ⟨w.heap.size, 0, none⟩), undef, .slice none 0 0, .pointer (some ⟨w.heap.size + 2, 0, none⟩), nV x.1, nV x.2, undef, undef, .map (some (w.heap.size + 1)), .pointer (some ⟨w.heap.size, 1, none⟩), .map (some b'), nV home, .func (.func 56) #[] #[.pointer (some ⟨w.heap.size + 4, 0, none⟩), .pointer (some ⟨w.heap.size + 3, 0, none⟩)], nV x.1, nV x.2, undef, undef, undef, undef, undef, undef, undef, undef, undef, undef, undef, undef, undef, undef, undef, undef, undef, undef, undef, undef, undef, undef, undef, undef, undef], defers := [] })
    ?assign ?body ?done ?stop
  case assign =>
    rintro l x W K hK
    gi_wp2
    exact hK
  case body =>
    rintro l pre x W hl hI hlen hsp
    have hx : x.1 < m := (reach_spec hwho ha).2.1 x.1 (List.mem_map.2 ⟨x, hsp.subset (by simp), rfl⟩)
    have cV : W.cell? ⟨w.heap.size + 2, 0, none⟩ = some (.map (some (w.heap.size + 1))) := by rw [cell_of_row _ _ _ _ 98 (0, 0) hI.var]; rfl
    obtain ⟨W2, hrun, hm2, hg2⟩ := hI.map.update (by unfold maxLen; omega) (k := x.1) (by omega) x.2
    have HI := hid hI
    have H2 := hid (And.intro hm2 hg2)
    clear hS hI hm2 hg2 hsp
    gi_wp2_with (gi_at_mapUpdate; refine wpListIn_mapPut rfl (.tmp 17) (.tmp 18) (.tmp 19) 98 rfl hrun ?_)
    obtain ⟨hm2, hg2⟩ := H2.out
    have hI := HI.out
    have hbk : ∀ q, q < W.heap.size → q ≠ w.heap.size + 1 → W2.heap[q]? = W.heap[q]? := fun q hq hn => hg2.block q hq (by intro e; injection e with e; exact hn e)
    rw [putS_snoc] at hm2
    refine ⟨⟨hg2.size, fun q hq hn => hbk q hq hn⟩, (hbk _ (Array.getElem?_eq_some_iff.1 hI.pair).1 (by omega)).trans hI.pair, (hbk _ (Array.getElem?_eq_some_iff.1 hI.var).1 (by omega)).trans hI.var, by rw [List.length_append]; exact hm2, hI.lks.keep hg2.size (fun g hg hlt => hbk g hlt (by have := hkp g hg; omega)), hI.below.grown hg2 hI.below.size (by rintro j e; injection e with e; omega)⟩
  case done =>
    rintro D xs W hD rfl hI hK
    have hSt := hI.map
    rw [putS_all hwho ha] at hSt
    obtain ⟨d0, hd0, hz1, hz2⟩ := first_near hrow hwho ha hr hlb
    have hDW : D < W.heap.size := (Array.getElem?_eq_some_iff.1 hK).1
    have cP : Hid (∀ V : World, Below W.heap.size W V → V.cell? ⟨w.heap.size, 0, none⟩ = some (.map (some b))) := hid fun V hV => by rw [cell_of_row _ _ _ _ 70 (0, 0) ((hV.block _ (by omega)).trans hI.pair)]; rfl
    have cV : Hid (∀ V : World, Below W.heap.size W V → V.cell? ⟨w.heap.size + 2, 0, none⟩ = some (.map (some (w.heap.size + 1)))) := hid fun V hV => by rw [cell_of_row _ _ _ _ 98 (0, 0) ((hV.block _ (by omega)).trans hI.var)]; rfl
    have lk : Hid (∀ V : World, Below W.heap.size W V → Lks V b kp rows) := hid fun V hV => hI.lks.keep hV.size (fun g hg hlt => hV.block g hlt)
    have sm : Hid (∀ V : World, Below W.heap.size W V → SMap V (w.heap.size + 1) (reachL who m home).length (stp who m home)) := hid fun V hV => hSt.block (hV.block _ (by omega))
    have HBW := hid hI.below
    have HK := hid hK
    have hym : Hid (∀ z, ∀ y ∈ rows z, y < 1000000) := hid fun z y hy => by have := hrow z y hy; omega
    have hV1 : Below W.heap.size W (W.alloc (.cells #[nV home] 3)) := (Below.refl _ W).alloc (Nat.le_refl _) _
    have c1 := cP.out _ hV1
    have c2 := cV.out _ hV1
    obtain ⟨v0, hk0, hr0⟩ := (lk.out _ hV1).row home (by omega)
    have hlk0 := hk0 _ rfl
    have nea0 := nearest 19 hr0 (hym.out home) (hrl home) (sm.out _ hV1)
    have HV1 := hid hV1
    have hzm := hrow _ _ hz1
    clear hS hI hSt hk0 hr0 hV1 p0 p1 p2 p3 p4 hL0 hL0' hkk hno hK
    gi_wp2_with (first | (gi_at_lookup; refine wpListIn_look rfl (.tmp 23) (.tmp 24) 68 rfl _ hlk0 ?_) | (gi_at_call 48; refine nea0.mono ?_; rintro e w' ⟨rfl, rfl⟩))
    clear nea0 hlk0 c1 c2
    gi_loopg [9, 8] (d0 + 1) (fun k v9 v8 wr => ∃ (y : Nat) (dn : List Nat) (d f : Nat), d + 1 = k ∧ v9 = nV y ∧ y < m ∧ d ≤ f ∧ dn.length + d ≤ m ∧ Hid (stp who m home y = some d) ∧ Hid (dn ++ goR rows (stp who m home) home f y = goR rows (stp who m home) home m (nearN (stp who m home) (rows home))) ∧ Hid (Que wr W.heap.size v8 (home :: dn)) ∧ Hid (Below W.heap.size W wr))
    case atStart =>
      exact ⟨_, [], d0, m, rfl, rfl, hzm, hd0, by simpa using hd0, hid hz2, hid rfl, hid ⟨W.heap.size, 0, 1, #[nV home], rfl, Nat.le_refl _, World.alloc_heap_new W _, by simp, by simp, fun i hi => by
        obtain rfl : i = 0 := by simpa using hi
        rfl⟩, HV1⟩
    case round =>
      obtain ⟨y, dn, d, f, rfl, rfl, hy, hdf, hdm, hst, hgo, hq, hb⟩ := hrel
      cases d with
      | zero =>
        obtain rfl := next_home hwho ha hst.out
        gi_wp2
        have hKr := (hb.out.block D hDW).trans HK.out
        refine ⟨by simp, .inl ⟨_, _, rfl, run_takeDeferred hKr, ?_⟩⟩
        have hg : ∀ z, goR rows (stp who m z) z f z = [] := fun z => by cases f <;> simp [goR]
        refine ⟨u8, by simp [results, Tryd.f28, go_sem], u8, rfl, ?_, ?_⟩
        · have h1 := hgo.out
          rw [hg, List.append_nil] at h1
          unfold circ
          rw [← h1]
          refine (hq.out.block (fun g' hg' => World.putObj_heap_other ?_)).mono HBW.out.size
          obtain ⟨gq, hgq, hgq1, _⟩ := hq.out.lt
          rw [hgq] at hg'
          injection hg' with hg'
          omega
        · exact (HBW.out.trans (hb.out.mono HBW.out.size)).trans (belowK_b (w := w) (Nat.le_refl _) _ D _ _ (by omega) hKr rfl rfl)
      | succ d =>
        obtain ⟨hne, hn1, hn2⟩ := next_near hwho ha hr hst.out
        have hne' : ¬ (y : Int) = (home : Int) := by omega
        obtain ⟨gq, hgq, hgq1, hgq2⟩ := hq.out.lt
        have q5 : Que (wr.alloc (.cells #[nV y] 3)) W.heap.size u8 (home :: dn) := hq.out.block (fun g' hg' => by
          obtain rfl : gq = g' := by rw [hgq] at hg'; simpa using hg'
          exact Below.heap_alloc _ _ _ hgq2)
        obtain ⟨v', W6, hap, hq6, hg6, hat6⟩ := q5.push (by simp; have := hb.out.size; omega) (by simp; omega) y (ad := ⟨wr.heap.size, 0, none⟩) (c := 1) 35 (fun i u hu => by
          obtain ⟨rfl, rfl⟩ : i = 0 ∧ nV y = u := by
            cases i with
            | zero => exact ⟨rfl, by simpa using hu⟩
            | succ i => simp at hu
          have h1 : (wr.alloc (.cells #[nV y] 3)).heap[wr.heap.size]? = some (.cells #[nV y] 3 (0, 0)) := World.alloc_heap_new wr _
          show (wr.alloc (.cells #[nV y] 3)).cell? ⟨wr.heap.size, 0, none⟩ = _
          rw [cell_of_row _ _ _ _ 3 (0, 0) h1]
          rfl)
        have hb6 : Below W.heap.size W W6 := (hb.out.alloc hb.out.size _).grown hg6 (by simp; have := hb.out.size; omega) (by rw [hgq]; rintro k e; injection e with e; omega)
        have c1 := cP.out _ hb6
        have c2 := cV.out _ hb6
        obtain ⟨v2, hk2, hr2⟩ := (lk.out _ hb6).row y (by omega)
        have hlk2 := hk2 _ rfl
        have nea := nearest 19 hr2 (hym.out y) (hrl y) (sm.out _ hb6)
        have hzn := hrow _ _ hn1
        have HQ := hid hq6
        have HB6 := hid hb6
        clear hk2 hr2 hq6 hg6 hat6 hb6 q5
        gi_wp2_with (first
          | (gi_at_lookup; refine wpListIn_look rfl (.tmp 32) (.tmp 33) 68 rfl _ hlk2 ?_)
          | (gi_at_call 48; refine nea.mono ?_; rintro e w' ⟨rfl, rfl⟩)
          | (refine wpListIn_app rfl (.tmp 37) (.tmp 39) 35 rfl _ hap ?_))
        obtain ⟨f', rfl⟩ : ∃ f', f = f' + 1 := ⟨f - 1, by omega⟩
        gi_roundg (d + 1)
        case measure => omega
        case rel =>
          refine ⟨_, dn ++ [y], d, f', rfl, rfl, hzn, by omega, by simp; omega, hid hn2, hid ?_, HQ, HB6⟩
          have := hgo.out
          rw [goR, if_neg hne] at this
          rw [List.append_assoc]
          exact this
  case stop =>
    rintro D c pre W hD hpre h hK
    exact h.elim
end Go.Proofs.YtjdlmhkfaodkgaaDoor.Lex
namespace Go.Proofs.YtjdlmhkfaodkgaaDoor.Lex
open Go.ChangeShapes Go.WideShapes Go.ChangeAt Go.RowKit Go.Shelf
theorem Que.iat {W : World} {base : Nat} {v : Value} {xs : List Nat} (h : Que W base v xs) : IAt W v (xs.map Int.ofNat) := by
  obtain ⟨g, o, cap, rfl, _, _, _, hc⟩ := h.cells
  refine ⟨_, cap, by simp, .inr ⟨g, o, rfl, fun i hi => ?_⟩⟩
  have hi' : i < xs.length := by simpa using hi
  rw [hc i hi']
  simp
/-- The variables of Find. -/
structure FS (w : World) (p : Pg) (A B C : Value) (vb m1 m2 sz : Nat) (W : World) : Prop where
  row : W.heap[w.heap.size]? = some (.cells (pgC p A B C) 26 (0, 0))
  var : W.heap[vb]? = some (.cells #[.map (some m1), .map (some m2)] 70 (0, 0))
  whom : Lks W m1 (fun g => g < sz) (rowsP p)
  who : Lks W m2 (fun g => g < sz) (whoP p)
  P : PgAt W p A B C
  size : sz ≤ W.heap.size
  below : Below w.heap.size w W
theorem FS.keep {w W W' : World} {p : Pg} {A B C : Value} {vb m1 m2 sz : Nat} (h : FS w p A B C vb m1 m2 sz W) (hb : Below W.heap.size W W') : FS w p A B C vb m1 m2 sz W' :=
  ⟨keep_row h.row hb, keep_row h.var hb, h.whom.keep hb.size (fun g _ hl => hb.block g hl), h.who.keep hb.size (fun g _ hl => hb.block g hl), h.P.keep hb, Nat.le_trans h.size hb.size, h.below.trans (hb.mono h.below.size)⟩
theorem FS.vcs {w W : World} {p : Pg} {A B C : Value} {vb m1 m2 sz : Nat} (h : FS w p A B C vb m1 m2 sz W) : W.cell? ⟨vb, 0, none⟩ = some (.map (some m1)) ∧ W.cell? ⟨vb, 1, none⟩ = some (.map (some m2)) := by
  constructor
  · rw [cell_of_row _ _ _ _ 70 (0, 0) h.var]; rfl
  · rw [cell_of_row _ _ _ _ 70 (0, 0) h.var]; rfl
theorem NL.shape {w1 W : World} {l : List ByteArray} {v : Value} (h : NL w1 l v W) : ∃ a c, v = .slice a l.length c := by
  rcases h.own.2 with ⟨e, e0⟩ | ⟨g, cap, cur, e, _⟩
  · exact ⟨none, 0, by rw [e, e0]⟩
  · exact ⟨_, cap, e⟩
theorem pg_name {p : Pg} (h : pgOk p = true) {f : Fl} (hf : f ∈ p.flows) : f.name.size ≤ 65536 := by
  unfold pgOk at h
  simp only [Bool.and_eq_true, List.all_eq_true] at h
  have h1 := h.2.2.1 f hf
  unfold flOk hdOk isName at h1
  simp at h1
  omega
theorem circ_len {p : Pg} {k : Nat} (h1 : k < p.flows.length) (h2 : leadB (rowsP p) p.flows.length k = true) : (circ (rowsP p) (whoP p) p.flows.length k).length ≤ p.flows.length ∧ ∀ z ∈ circ (rowsP p) (whoP p) p.flows.length k, z < p.flows.length := by
  have h := circ_spec (rowsP_lt p) (whoP_lt p) h1 (rows_who p) h2
  exact ⟨nodup_le _ _ h.nodup h.small, h.small⟩
set_option maxRecDepth 100000 in
set_option maxHeartbeats 4000000 in
theorem circles_find (p : Pg) (w : World) (a b c : Value) (hP : PgAt w p a b c) (hck : ∀ f ∈ p.flows, chk f.body = true) (hfl : p.flows.length ≤ 1000) (hnm : ∀ f ∈ p.flows, f.name.size ≤ 65536) :
    Calls Tryd.prog 11 #[pgV p a b c] w fun e w' => ∃ u, e = .returned u ∧ NL w (findC p) u w' := by
  obtain ⟨a0, a1, rfl, _⟩ := hP.ins
  obtain ⟨b0, b1, _, rfl, _⟩ := hP.flows
  obtain ⟨c0, c1, rfl, _⟩ := hP.outs
  have b0' := (Below.refl w.heap.size w).alloc (Nat.le_refl _) (.cells (pgC p (.slice a0 p.ins.length a1) (.slice b0 p.flows.length b1) (.slice c0 p.outs.length c1)) 26)
  have B0 := hid b0'
  have R0 := hid (show (w.alloc (.cells (pgC p (.slice a0 p.ins.length a1) (.slice b0 p.flows.length b1) (.slice c0 p.outs.length c1)) 26)).heap[w.heap.size]? = some (.cells (pgC p (.slice a0 p.ins.length a1) (.slice b0 p.flows.length b1) (.slice c0 p.outs.length c1)) 26 (0, 0)) from push_new _ _ _ rfl)
  have P0 := hid (hP.keep b0')
  have HCK := hid hck
  have HNM := hid hnm
  have E0 := hid (edges_few hck hfl)
  clear hP hck hnm b0'
  go_enter Tryd.func11, Tryd.ntmps11
  go_wp2_with (fail)
  generalize (w.alloc (.cells (pgC p (.slice a0 p.ins.length a1) (.slice b0 p.flows.length b1) (.slice c0 p.outs.length c1)) 26)) = W1 at *
  refine (needs_of p 32 _ _ _ _ P0.out (fun f hf => (chk_nm (HCK.out f hf)).1) (by omega) (fun f hf => by have := (chk_nm (HCK.out f hf)).2; omega) hfl).mono ?_
  rintro e w2 ⟨rfl, hT, hb2⟩
  generalize W1.heap.size + 2 = m1 at *
  generalize W1.heap.size + 3 = m2 at *
  have X0 : Hid (FS w p (.slice a0 p.ins.length a1) (.slice b0 p.flows.length b1) (.slice c0 p.outs.length c1) w2.heap.size m1 m2 (w2.heap.size + 1) (w2.alloc (.cells #[.map (some m1), .map (some m2)] 70))) := hid (by
    have hb3 := (Below.refl w2.heap.size w2).alloc (Nat.le_refl _) (.cells #[.map (some m1), .map (some m2)] 70)
    have hT3 := hT.keep hb3
    have l1 : ∀ g, rowsOf (w2.alloc (.cells #[.map (some m1), .map (some m2)] 70)) m1 g → g < w2.heap.size + 1 := fun g hg => by
      obtain ⟨D, hD, _⟩ := hT3.m
      have := (rowsOf_lt hD hg).2
      simpa using this
    have l2 : ∀ g, rowsOf (w2.alloc (.cells #[.map (some m1), .map (some m2)] 70)) m2 g → g < w2.heap.size + 1 := fun g hg => by
      obtain ⟨D, hD, _⟩ := hT3.m'
      have := (rowsOf_lt hD hg).2
      simpa using this
    have k1 : m1 < w2.heap.size + 1 := by
      obtain ⟨D, hD, _⟩ := hT3.m
      simpa using hD.lt.1
    have k2 : m2 < w2.heap.size + 1 := by
      obtain ⟨D, hD, _⟩ := hT3.m'
      simpa using hD.lt.1
    have hE := E0.out
    exact ⟨keep_row (keep_row R0.out hb2) hb3, push_new _ _ _ rfl, hT3.lks (by omega) (rowsP p) (fun k _ => rows_int p k) _ k1 l1, hT3.swap.lks (by omega) (whoP p) (fun k _ => who_int p k) _ k2 l2, (P0.out.keep hb2).keep hb3, by simp, bstep (bstep B0.out hb2) hb3⟩)
  clear hT hb2
  obtain ⟨s0, s1, s2, s3⟩ := row4 X0.out.row
  go_wp2_with (fail)
  clear s0 s1 s2 s3
  generalize w2.heap.size + 1 = sz at *
  generalize (w2.alloc (.cells #[.map (some m1), .map (some m2)] 70)) = W0 at *
  generalize w2.heap.size = vb at *
  go_loopw [10] (fun i wr => ∃ k : Nat, k ≤ p.flows.length ∧ i = .int .i64 (k : Int) ∧ Hid (FS w p (.slice a0 p.ins.length a1) (.slice b0 p.flows.length b1) (.slice c0 p.outs.length c1) vb m1 m2 sz wr) ∧ Hid (∀ j, j < k → leadB (rowsP p) p.flows.length j = false)) (fun i _ => p.flows.length - (intOf i).toNat)
  case atStart => exact ⟨0, Nat.zero_le _, rfl, X0, hid (fun j hj => by omega)⟩
  case round =>
    obtain ⟨k, hk, rfl, XK, HJ⟩ := hrel
    by_cases hlt : k < p.flows.length
    · have hlt' : (k : Int) < (p.flows.length : Int) := by omega
      have hk0 : (0 : Int) ≤ (k : Int) := by omega
      obtain ⟨v0, v1⟩ := XK.out.vcs
      have c26 := (callsIn_wide (n := 20)).1 (lead_back (rowsP p) p.flows.length k hfl (rowsP_lt p) (rowsP_len HCK.out hfl) hlt m1 m2 (fun g => g < sz) wr (fun g hg => Nat.lt_of_lt_of_le hg XK.out.size) XK.out.whom)
      cases hlb : leadB (rowsP p) p.flows.length k with
      | false =>
        rw [hlb] at c26
        have HLB := hid hlb
        clear hlb
        go_wp2_with (fail)
        refine c26.mono ?_
        rintro e w3 ⟨rfl, hb3⟩
        have X3 := hid (XK.out.keep hb3)
        clear hb3 XK v0 v1 c26
        go_wp2_with (fail)
        go_roundw
        case rel =>
          refine ⟨k + 1, by omega, by go_num, X3, hid (fun j hj => ?_)⟩
          by_cases e : j = k
          · rw [e]; exact HLB.out
          · exact HJ.out j (by omega)
        case measure => simp [intOf]; omega
      | true =>
        rw [hlb] at c26
        have HLB := hid hlb
        have HF : Hid (findC p = ((circ (rowsP p) (whoP p) p.flows.length k).map Int.ofNat).map (nameAt p)) := hid (by
          unfold findC circP
          rw [findI_some hlt hlb HJ.out, List.map_map]
          rfl)
        obtain ⟨hcl, hcz⟩ := circ_len hlt hlb
        have HCL : Hid (((circ (rowsP p) (whoP p) p.flows.length k).map Int.ofNat).length ≤ 1048576) := hid (by rw [List.length_map]; omega)
        have HCZ : Hid (∀ z ∈ (circ (rowsP p) (whoP p) p.flows.length k).map Int.ofNat, 0 ≤ z ∧ z < (p.flows.length : Int)) := hid (by
          intro z hz
          obtain ⟨y, hy, rfl⟩ := List.mem_map.1 hz
          have := hcz y hy
          exact ⟨Int.natCast_nonneg y, Int.ofNat_lt.2 this⟩)
        clear hcl hcz
        go_wp2_with (fail)
        refine c26.mono ?_
        rintro e w3 ⟨rfl, hb3⟩
        have X3 := hid (XK.out.keep hb3)
        clear hb3 XK v0 v1 c26
        rename_i wr'
        obtain ⟨v0, v1⟩ := X3.out.vcs
        obtain ⟨s0, s1, s2, s3⟩ := row4 X3.out.row
        have XK := X3
        clear X3
        revert XK v0 v1 s0 s1 s2 s3
        generalize w3 = wr
        intro v0 v1 s0 s1 s2 s3 XK
        have XD := XK.out.keep (Below.refl _ _).drew
        have c28 := (callsIn_wide (n := 20)).1 (around (rowsP p) (whoP p) p.flows.length k hfl (rowsP_lt p) (whoP_lt p) (rowsP_len HCK.out hfl) (whoP_len HCK.out hfl) hlt (rows_who p) hlb m1 m2 (fun g => g < sz) wr.drew (fun g hg => Nat.lt_of_lt_of_le hg XD.size) XD.whom XD.who)
        clear XD hlb
        generalize circ (rowsP p) (whoP p) p.flows.length k = cl at *
        go_wp2_with (fail)
        refine wp_region_held_drew (S := fun W => W.cell? ⟨w.heap.size, 0, none⟩ = some (.int .i64 p.st) ∧ W.cell? ⟨w.heap.size, 1, none⟩ = some ((.slice a0 p.ins.length a1)) ∧ W.cell? ⟨w.heap.size, 2, none⟩ = some ((.slice b0 p.flows.length b1)) ∧ W.cell? ⟨w.heap.size, 3, none⟩ = some ((.slice c0 p.outs.length c1)) ∧ W.cell? ⟨vb, 0, none⟩ = some (.map (some m1)) ∧ W.cell? ⟨vb, 1, none⟩ = some (.map (some m2))) (by kernel_rfl) ?_ (fun hHeld => ?_)
        · exact ⟨s0, s1, s2, s3, v0, v1⟩
        refine wpAnyH_take (i := 0) (oi := { dst := some 16, op := Go.Op.load 26 (Go.Operand.tmp 1), type := 26, pos := _, after := #[], guard := none }) (v := ?_) rfl (by kernel_rfl) (by kernel_rfl) (by kernel_rfl) (fun _ _ _ h => h) (Or.inl ⟨by rfl, ?_⟩) (by assumption) ?_
        rotate_left
        · intro w hSw; (try dsimp only at hSw); go_simp <;> first | with_reducible rfl | (rw [if_neg (by first | omega | (simp only [ByteArray.size_append] at *; omega))])
        simp only [Act.put, List.setIfInBounds_toArray, List.set_cons_zero, List.set_cons_succ]
        refine wpAnyH_take (i := 1) (oi := { dst := some 17, op := Go.Op.load 70 (Go.Operand.tmp 3), type := 70, pos := _, after := #[], guard := none }) (v := ?_) rfl (by kernel_rfl) (by kernel_rfl) (by kernel_rfl) (fun _ _ _ h => h) (Or.inl ⟨by rfl, ?_⟩) (by assumption) ?_
        rotate_left
        · intro w hSw; (try dsimp only at hSw); go_simp <;> first | with_reducible rfl | (rw [if_neg (by first | omega | (simp only [ByteArray.size_append] at *; omega))])
        simp only [Act.put, List.setIfInBounds_toArray, List.set_cons_zero, List.set_cons_succ]
        refine wpAnyH_take (i := 2) (oi := { dst := some 18, op := Go.Op.move (Go.Operand.tmp 4), type := 3, pos := _, after := #[], guard := none }) (v := ?_) rfl (by kernel_rfl) (by kernel_rfl) (by kernel_rfl) (fun _ _ _ h => h) (Or.inl ⟨by rfl, ?_⟩) (by assumption) ?_
        rotate_left
        · intro w hSw; (try dsimp only at hSw); go_simp <;> first | with_reducible rfl | (rw [if_neg (by first | omega | (simp only [ByteArray.size_append] at *; omega))])
        simp only [Act.put, List.setIfInBounds_toArray, List.set_cons_zero, List.set_cons_succ]
        refine wpAnyH_ready (rs := [3]) (by kernel_rfl) (by simp) ?_
        refine AllReadyH.cons (o := { dst := some 19, op := Go.Op.call { callee := Go.Callee.value (Go.Operand.func 28), args := #[Go.Operand.tmp 17, Go.Operand.tmp 18], argTypes := #[70, 3] }, type := 35, pos := _, after := #[{ on := 1, ground := Go.Ground.data }, { on := 2, ground := Go.Ground.data }], guard := none }) rfl (fun K hK => ?_) AllReadyH.nil
        go_simp
        refine c28.mono ?_
        rintro e w3 ⟨v, rfl, hq, hb3'⟩
        have hb3 : Below wr.heap.size wr w3 := (Below.refl _ _).drew.trans (hb3'.mono (by simp))
        have X3 := hid (XK.out.keep hb3)
        have HI := hid hq.iat
        obtain ⟨t0, t1, t2, t3⟩ := row4 X3.out.row
        obtain ⟨u0, u1⟩ := X3.out.vcs
        clear hq hb3' hb3
        go_wp2_with fail
        refine hK.out _ _ ?_ (fun hHeld1 => ?_)
        · exact ⟨t0, t1, t2, t3, u0, u1⟩
        clear hK K
        refine wpAnyH_ready (rs := [4]) (by kernel_rfl) (by simp) ?_
        refine AllReadyH.cons (o := { dst := some 20, op := Go.Op.call { callee := Go.Callee.value (Go.Operand.func 27), args := #[Go.Operand.tmp 16, Go.Operand.tmp 19], argTypes := #[26, 35] }, type := 24, pos := _, after := #[{ on := 0, ground := Go.Ground.data }, { on := 3, ground := Go.Ground.data }, { on := 3, ground := Go.Ground.chain }], guard := none }) rfl (fun K hK => ?_) AllReadyH.nil
        go_simp
        refine (names_of p _ _ _ _ _ _ X3.out.P HI.out HCL.out HCZ.out HNM.out).mono ?_
        rintro e w4 ⟨u, rfl, hnl⟩
        have X4 := hid (X3.out.keep hnl.below)
        have HNL := hid hnl
        obtain ⟨g0, g1, g2, g3⟩ := row4 X4.out.row
        obtain ⟨k0, k1⟩ := X4.out.vcs
        clear hnl
        go_wp2_with fail
        refine hK.out _ _ ?_ (fun hHeld2 => ?_)
        · exact ⟨g0, g1, g2, g3, k0, k1⟩
        clear hK K
        refine wpAnyH_take (i := 5) (oi := { dst := some 2, op := Go.Op.assign (Go.Operand.tmp 20), type := 24, pos := _, after := #[{ on := 4, ground := Go.Ground.data }, { on := 4, ground := Go.Ground.chain }, { on := 0, ground := Go.Ground.phase }, { on := 1, ground := Go.Ground.phase }, { on := 2, ground := Go.Ground.phase }, { on := 3, ground := Go.Ground.phase }, { on := 4, ground := Go.Ground.phase }], guard := none }) (v := ?_) rfl (by kernel_rfl) (by kernel_rfl) (by kernel_rfl) (fun _ _ _ h => h) (Or.inl ⟨by rfl, ?_⟩) (by assumption) ?_
        rotate_left
        · intro w hSw; (try dsimp only at hSw); go_simp <;> first | with_reducible rfl | (rw [if_neg (by first | omega | (simp only [ByteArray.size_append] at *; omega))])
        simp only [Act.put, List.setIfInBounds_toArray, List.set_cons_zero, List.set_cons_succ]
        refine wpAnyH_done (by kernel_rfl) ?_ _
        go_wp2_with (fail)
        go_ret
        exact ⟨_, rfl, by rw [HF.out]; exact HNL.out.up X3.out.below⟩
    · have hlt' : ¬ (k : Int) < (p.flows.length : Int) := by omega
      obtain rfl : k = p.flows.length := by omega
      have HF : Hid (findC p = []) := hid (by
        unfold findC circP
        rw [findI_none HJ.out]
        rfl)
      go_wp2_with (fail)
      go_ret
      exact ⟨_, rfl, by rw [HF.out]; exact ⟨XK.out.below, rfl, .inl ⟨rfl, rfl⟩⟩⟩
/-- What Check answers. -/
def ckC (p : Pg) : Int := if nmErr p = 0 then (if (findC p).length = 0 then 0 else 8) else nmErr p
set_option maxRecDepth 100000 in
set_option maxHeartbeats 4000000 in
theorem circles_check (p : Pg) (w : World) (a b c : Value) (hP : PgAt w p a b c) (hR : TabR w) (hJ : TabJ w) :
    Calls Tryd.prog 12 #[pgV p a b c] w fun e w' => e = .returned (.int .i64 (ckC p)) ∧ Below w.heap.size w w' := by
  obtain ⟨a0, a1, rfl, _⟩ := hP.ins
  obtain ⟨b0, b1, _, rfl, _⟩ := hP.flows
  obtain ⟨c0, c1, rfl, _⟩ := hP.outs
  have X0 := hid (FV.new hP hR hJ)
  clear hP hR hJ
  go_enter Tryd.func12, Tryd.ntmps12
  go_wp2_with (fail)
  refine ((callsIn_wide (n := 20)).1 (names_check p _ _ _ _ X0.out.P X0.out.R X0.out.J)).mono ?_
  rintro e w2 ⟨rfl, hb2⟩
  have X2 := hid (X0.out.keep hb2)
  clear hb2 X0
  by_cases hz : nmErr p = 0
  · obtain ⟨h1, h2⟩ := nmErr_zero hz
    have HZ := hid hz
    have hpl : p.flows.length ≤ 128 := by
      unfold pgOk roomOk at h1
      simp at h1
      omega
    have hnm : ∀ f ∈ p.flows, f.name.size ≤ 65536 := fun f hf => pg_name h1 hf
    have HC := hid (pgOk_chk h1)
    have HN := hid hnm
    rw [hz]
    clear hz h1 h2 hnm
    obtain ⟨s0, s1, s2, s3⟩ := row4 X2.out.row
    go_wp2_with (fail)
    refine (circles_find p _ _ _ _ X2.out.P HC.out (by omega) HN.out).mono ?_
    rintro e w3 ⟨u, rfl, hnl⟩
    have HB := hid (X2.out.below.trans (hnl.below.mono X2.out.below.size))
    obtain ⟨ua, uc, rfl⟩ := hnl.shape
    by_cases hl : (findC p).length = 0
    · have HE : Hid (ckC p = 0) := hid (by unfold ckC; rw [if_pos HZ.out, if_pos hl])
      rw [hl]
      clear hl hnl
      go_wp2_with (fail)
      go_ret
      exact ⟨congrArg (fun z => Ending.returned (.int .i64 z)) HE.out.symm, HB.out⟩
    · have HE : Hid (ckC p = 8) := hid (by unfold ckC; rw [if_pos HZ.out, if_neg hl])
      have hl' : (0 : Int) < ((findC p).length : Int) := by omega
      clear hl hnl
      go_wp2_with (fail)
      go_ret
      exact ⟨congrArg (fun z => Ending.returned (.int .i64 z)) HE.out.symm, HB.out⟩
  · have HE : Hid (ckC p = nmErr p) := hid (by unfold ckC; rw [if_neg hz])
    have HB := hid X2.out.below
    generalize nmErr p = z at *
    have hz' : (z == 0) = false := by simp [hz]
    go_wp2_with (fail)
    go_ret
    exact ⟨congrArg (fun z => Ending.returned (.int .i64 z)) HE.out.symm, HB.out⟩
end Go.Proofs.YtjdlmhkfaodkgaaDoor.Lex
namespace Go.Proofs.YtjdlmhkfaodkgaaDoor.Lex
open Go.ChangeShapes Go.WideShapes Go.ChangeAt Go.RowKit Go.Joins
/-- A row of texts that is read. -/
def TxAt (w : World) (v : Value) (l : List ByteArray) : Prop := ∃ ao cap, v = .slice ao l.length cap ∧ (l.length = 0 ∨ ∃ g o, ao = some ⟨g, o, none⟩ ∧ ∀ i (hi : i < l.length), w.cell? ⟨g, o + i, none⟩ = some (.string l[i]))
theorem TxAt.keep {w w' : World} {v : Value} {l : List ByteArray} (h : TxAt w v l) (hb : Below w.heap.size w w') : TxAt w' v l := by
  obtain ⟨ao, cap, rfl, h⟩ := h
  refine ⟨ao, cap, rfl, h.imp_right ?_⟩
  rintro ⟨g, o, e, hc⟩
  exact ⟨g, o, e, fun i hi => cell_kept (hc i hi) hb⟩
theorem NL.tx {w1 W : World} {l : List ByteArray} {v : Value} (h : NL w1 l v W) : TxAt W v l := by
  have hown := h.own
  rcases hown.2 with ⟨e, e0⟩ | ⟨g, cap, cur, e, _⟩
  · exact ⟨none, 0, by rw [e, e0], .inl e0⟩
  · subst e
    refine ⟨_, cap, rfl, .inr ⟨g, 0, rfl, fun i hi => ?_⟩⟩
    rw [Nat.zero_add, hown.cellAt i (by omega)]
    simp [hi]
set_option maxRecDepth 100000 in
set_option maxHeartbeats 4000000 in
theorem same_texts (l : List ByteArray) (w : World) (v u : Value) (hv : TxAt w v l) (hu : TxAt w u l) (hl : l.length ≤ 1048576) : Calls Tryd.prog 17 #[v, u] w fun e w' => e = .returned (.bool true) ∧ Below w.heap.size w w' := by
  obtain ⟨va, vc, rfl, hv⟩ := hv
  obtain ⟨ua, uc, rfl, hu⟩ := hu
  have HV := hid hv
  have HU := hid hu
  clear hv hu
  go_enter Tryd.func17, Tryd.ntmps17
  go_wp2_with (fail)
  go_loopw [5] (fun i wr => ∃ k : Nat, k ≤ l.length ∧ i = .int .i64 (k : Int) ∧ Hid (Below w.heap.size w wr)) (fun i _ => l.length - (intOf i).toNat)
  case atStart => exact ⟨0, Nat.zero_le _, rfl, hid (Below.refl _ _)⟩
  case round =>
    obtain ⟨k, hk, rfl, HB⟩ := hrel
    by_cases hlt : k < l.length
    · have hlt' : (k : Int) < (l.length : Int) := by omega
      have hk0 : (0 : Int) ≤ (k : Int) := by omega
      obtain ⟨g, o, rfl, h1⟩ := HV.out.resolve_left (by omega)
      obtain ⟨g', o', rfl, h2⟩ := HU.out.resolve_left (by omega)
      have z1 := cell_kept (h1 k hlt) HB.out
      have z2 := cell_kept (h2 k hlt) HB.out
      clear h1 h2
      generalize l[k] = s at *
      go_wp2_with (fail)
      refine wp_region_held_drew (S := fun W => W.cell? ⟨g, o + k, none⟩ = some (.string s) ∧ W.cell? ⟨g', o' + k, none⟩ = some (.string s)) (by kernel_rfl) ?_ (fun hHeld => ?_)
      · exact ⟨z1, z2⟩
      refine wpAnyH_take (i := 0) (oi := { dst := some 17, op := Go.Op.move (Go.Operand.tmp 0), type := 24, pos := _, after := #[], guard := none }) (v := ?_) rfl (by kernel_rfl) (by kernel_rfl) (by kernel_rfl) (fun _ _ _ h => h) (Or.inl ⟨by rfl, ?_⟩) (by assumption) ?_
      rotate_left
      · intro w hSw; (try dsimp only at hSw); go_simp <;> first | with_reducible rfl | (rw [if_neg (by first | omega | (simp only [ByteArray.size_append] at *; omega))])
      simp only [Act.put, List.setIfInBounds_toArray, List.set_cons_zero, List.set_cons_succ]
      refine wpAnyH_take (i := 1) (oi := { dst := some 18, op := Go.Op.move (Go.Operand.tmp 5), type := 3, pos := _, after := #[], guard := none }) (v := ?_) rfl (by kernel_rfl) (by kernel_rfl) (by kernel_rfl) (fun _ _ _ h => h) (Or.inl ⟨by rfl, ?_⟩) (by assumption) ?_
      rotate_left
      · intro w hSw; (try dsimp only at hSw); go_simp <;> first | with_reducible rfl | (rw [if_neg (by first | omega | (simp only [ByteArray.size_append] at *; omega))])
      simp only [Act.put, List.setIfInBounds_toArray, List.set_cons_zero, List.set_cons_succ]
      refine wpAnyH_take (i := 2) (oi := { dst := some 19, op := Go.Op.indexAddr 24 (Go.Operand.tmp 17) (Go.Operand.tmp 18), type := 0, pos := _, after := #[{ on := 0, ground := Go.Ground.data }, { on := 1, ground := Go.Ground.data }], guard := none }) (v := ?_) rfl (by kernel_rfl) (by kernel_rfl) (by kernel_rfl) (fun _ _ _ h => h) (Or.inl ⟨by rfl, ?_⟩) (by assumption) ?_
      rotate_left
      · intro w hSw; (try dsimp only at hSw); go_simp <;> first | with_reducible rfl | (rw [if_neg (by first | omega | (simp only [ByteArray.size_append] at *; omega))])
      simp only [Act.put, List.setIfInBounds_toArray, List.set_cons_zero, List.set_cons_succ]
      refine wpAnyH_take (i := 3) (oi := { dst := some 20, op := Go.Op.load 9 (Go.Operand.tmp 19), type := 9, pos := _, after := #[{ on := 2, ground := Go.Ground.data }], guard := none }) (v := ?_) rfl (by kernel_rfl) (by kernel_rfl) (by kernel_rfl) (fun _ _ _ h => h) (Or.inl ⟨by rfl, ?_⟩) (by assumption) ?_
      rotate_left
      · intro w hSw; (try dsimp only at hSw); go_simp <;> first | with_reducible rfl | (rw [if_neg (by first | omega | (simp only [ByteArray.size_append] at *; omega))])
      simp only [Act.put, List.setIfInBounds_toArray, List.set_cons_zero, List.set_cons_succ]
      refine wpAnyH_take (i := 4) (oi := { dst := some 21, op := Go.Op.move (Go.Operand.tmp 1), type := 24, pos := _, after := #[], guard := none }) (v := ?_) rfl (by kernel_rfl) (by kernel_rfl) (by kernel_rfl) (fun _ _ _ h => h) (Or.inl ⟨by rfl, ?_⟩) (by assumption) ?_
      rotate_left
      · intro w hSw; (try dsimp only at hSw); go_simp <;> first | with_reducible rfl | (rw [if_neg (by first | omega | (simp only [ByteArray.size_append] at *; omega))])
      simp only [Act.put, List.setIfInBounds_toArray, List.set_cons_zero, List.set_cons_succ]
      refine wpAnyH_take (i := 5) (oi := { dst := some 22, op := Go.Op.move (Go.Operand.tmp 5), type := 3, pos := _, after := #[], guard := none }) (v := ?_) rfl (by kernel_rfl) (by kernel_rfl) (by kernel_rfl) (fun _ _ _ h => h) (Or.inl ⟨by rfl, ?_⟩) (by assumption) ?_
      rotate_left
      · intro w hSw; (try dsimp only at hSw); go_simp <;> first | with_reducible rfl | (rw [if_neg (by first | omega | (simp only [ByteArray.size_append] at *; omega))])
      simp only [Act.put, List.setIfInBounds_toArray, List.set_cons_zero, List.set_cons_succ]
      refine wpAnyH_take (i := 6) (oi := { dst := some 23, op := Go.Op.indexAddr 24 (Go.Operand.tmp 21) (Go.Operand.tmp 22), type := 0, pos := _, after := #[{ on := 4, ground := Go.Ground.data }, { on := 5, ground := Go.Ground.data }], guard := none }) (v := ?_) rfl (by kernel_rfl) (by kernel_rfl) (by kernel_rfl) (fun _ _ _ h => h) (Or.inl ⟨by rfl, ?_⟩) (by assumption) ?_
      rotate_left
      · intro w hSw; (try dsimp only at hSw); go_simp <;> first | with_reducible rfl | (rw [if_neg (by first | omega | (simp only [ByteArray.size_append] at *; omega))])
      simp only [Act.put, List.setIfInBounds_toArray, List.set_cons_zero, List.set_cons_succ]
      refine wpAnyH_take (i := 7) (oi := { dst := some 24, op := Go.Op.load 9 (Go.Operand.tmp 23), type := 9, pos := _, after := #[{ on := 6, ground := Go.Ground.data }], guard := none }) (v := ?_) rfl (by kernel_rfl) (by kernel_rfl) (by kernel_rfl) (fun _ _ _ h => h) (Or.inl ⟨by rfl, ?_⟩) (by assumption) ?_
      rotate_left
      · intro w hSw; (try dsimp only at hSw); go_simp <;> first | with_reducible rfl | (rw [if_neg (by first | omega | (simp only [ByteArray.size_append] at *; omega))])
      simp only [Act.put, List.setIfInBounds_toArray, List.set_cons_zero, List.set_cons_succ]
      refine wpAnyH_take (i := 8) (oi := { dst := some 25, op := Go.Op.binOp Go.BinOp.neq 9 (Go.Operand.tmp 20) (Go.Operand.tmp 24) 9, type := 4, pos := _, after := #[{ on := 3, ground := Go.Ground.data }, { on := 7, ground := Go.Ground.data }], guard := none }) (v := ?_) rfl (by kernel_rfl) (by kernel_rfl) (by kernel_rfl) (fun _ _ _ h => h) (Or.inl ⟨by rfl, ?_⟩) (by assumption) ?_
      rotate_left
      · intro w hSw; (try dsimp only at hSw); go_simp <;> first | with_reducible rfl | (rw [if_neg (by first | omega | (simp only [ByteArray.size_append] at *; omega))])
      simp only [Act.put, List.setIfInBounds_toArray, List.set_cons_zero, List.set_cons_succ]
      refine wpAnyH_done (by kernel_rfl) ?_ _
      go_wp2_with (fail)
      go_roundw
      case rel => exact ⟨k + 1, by omega, by go_num, hid HB.out.drew⟩
      case measure => simp [intOf]; omega
    · have hlt' : ¬ (k : Int) < (l.length : Int) := by omega
      go_wp2_with (fail)
      go_ret
      exact ⟨rfl, HB.out⟩
set_option maxRecDepth 100000 in
set_option maxHeartbeats 4000000 in
theorem needs_c (p : Pg) (w : World) (a b c : Value) (hP : PgAt w p a b c) (f g : Nat) (hf : f < p.flows.length) (x y : Hd) (sa sb : ByteArray) (h1 : findT (thingsL p) sa = some ((f : Int), x)) (h2 : findT (thingsL p) sb = some ((g : Int), y)) (hck : chk p.flows[f].body = true) (hr : ∃ r ∈ gat 32 p.flows[f].body 0 [], r.2 = 0 ∧ (r.1.toList == sb.toList) = true) :
    Calls Tryd.prog 13 #[pgV p a b c, .string sa, .string sb] w fun e w' => e = .returned (.bool true) ∧ Below w.heap.size w w' := by
  obtain ⟨a0, a1, rfl, _⟩ := hP.ins
  obtain ⟨b0, b1, sl, rfl, hlen, _, _, hfc, hst⟩ := id hP.flows
  obtain ⟨c0, c1, rfl, _⟩ := hP.outs
  obtain ⟨fb, fo, rfl, hcc⟩ := hfc.resolve_left (by omega)
  obtain ⟨fa, fc, _, fe, _⟩ := (hst f hf).out
  have hf8 := hcc f hf
  have hsf := hst f hf
  rw [fe] at hf8 hsf
  have F8 := hid hf8
  have SF := hid hsf
  have B0 := hid ((Below.refl w.heap.size w).alloc (Nat.le_refl _) (.cells (pgC p (.slice a0 p.ins.length a1) (.slice (some ⟨fb, fo, none⟩) p.flows.length b1) (.slice c0 p.outs.length c1)) 26))
  have X0 := hid (NX.mk (w := w) (W := (w.alloc (.cells (pgC p (.slice a0 p.ins.length a1) (.slice (some ⟨fb, fo, none⟩) p.flows.length b1) (.slice c0 p.outs.length c1)) 26))) (push_new _ _ _ rfl) (hP.keep B0.out) B0.out)
  have HC := hid (chk_nm hck)
  have HR := hid hr
  have H1 := hid h1
  have H2 := hid h2
  have hfn : (f : Int) < (p.flows.length : Int) := by omega
  have hf0 : (0 : Int) ≤ (f : Int) := by omega
  have hg0 : (0 : Int) ≤ (g : Int) := by omega
  have hf0' : decide ((f : Int) < 0) = false := by simp
  have hg0' : decide ((g : Int) < 0) = false := by simp
  have HLN := hid hlen
  clear hP hfc hst hcc hf8 hsf fe hck hr h1 h2 hlen
  generalize p.flows[f] = fl at *
  go_enter Tryd.func13, Tryd.ntmps13
  go_wp2_with (fail)
  have c18 := find p sa _ _ _ _ X0.out.P
  rw [H1.out] at c18
  simp only [foV] at c18
  refine c18.mono ?_
  rintro e w2 ⟨rfl, hb2⟩
  have X2 := hid (X0.out.keep hb2)
  clear hb2 c18 X0
  obtain ⟨s0, s1, s2, s3⟩ := row4 X2.out.row
  go_wp2_with (fail)
  have c18 := find p sb _ _ _ _ X2.out.P
  rw [H2.out] at c18
  simp only [foV] at c18
  refine c18.mono ?_
  rintro e w3 ⟨rfl, hb3⟩
  have X3 := hid (X2.out.keep hb3)
  clear hb3 c18 X2 s0 s1 s2 s3
  obtain ⟨s0, s1, s2, s3⟩ := row4 X3.out.row
  obtain ⟨f0, f1, f2, f3, f4, f5, f6, f7⟩ := F8.out.keep X3.out.below
  have c29 := refs 32 fl.body _ _ (SF.out.keep X3.out.below) HC.out.1 (by omega) (by have := HC.out.2; omega)
  have HLL : Hid ((gat 32 fl.body 0 []).length ≤ 1048576) := hid (by have h1 := gat_len 32 fl.body 0 []; have h2 := HC.out.2; simp at h1; omega)
  generalize gat 32 fl.body 0 [] = G at *
  have hln := HLN.out
  go_wp2_with (fail)
  refine c29.mono ?_
  rintro e w4 ⟨v, rfl, hrow, hb4⟩
  obtain ⟨ra, rc, rfl, hrf⟩ := RfAt.of_own hrow
  have HRF := hid hrf
  have X4 := hid (X3.out.keep hb4)
  clear hrow hrf hb4 X3 s0 s1 s2 s3 f0 f1 f2 f3 f4 f5 f6 f7 c29
  have hLl := HLL.out
  go_wp2_with (fail)
  go_loopw [16] (fun i wr => ∃ r : Nat, r ≤ G.length ∧ i = .int .i64 (r : Int) ∧ Hid (∀ z ∈ G.take r, ¬ (z.2 = 0 ∧ (z.1.toList == sb.toList) = true)) ∧ wr = w4) (fun i _ => G.length - (intOf i).toNat)
  case atStart => exact ⟨0, Nat.zero_le _, rfl, hid (by simp), rfl⟩
  case round =>
    obtain ⟨r, hr, rfl, HN, rfl⟩ := hrel
    by_cases hrl : r < G.length
    · have hrl' : (r : Int) < (G.length : Int) := by omega
      have hr0 : (0 : Int) ≤ (r : Int) := by omega
      obtain ⟨gb, rfl, hcc⟩ := HRF.out.resolve_left (by omega)
      obtain ⟨y0, y1⟩ := hcc r hrl
      have HTK : Hid (G.take (r + 1) = G.take r ++ [G[r]]) := hid (List.take_succ_eq_append_getElem hrl)
      clear hcc
      generalize G[r] = z at *
      obtain ⟨z1, z2⟩ := z
      simp only at y0 y1
      have next : ¬ (z2 = 0 ∧ (z1.toList == sb.toList) = true) → Hid (∀ z ∈ G.take (r + 1), ¬ (z.2 = 0 ∧ (z.1.toList == sb.toList) = true)) := fun h => hid (by
        rw [HTK.out]
        intro q hq
        rcases List.mem_append.1 hq with hq | hq
        · exact HN.out q hq
        · obtain rfl : q = (z1, z2) := by simpa using hq
          exact h)
      have NX' := hid next
      clear next
      by_cases hz : z2 = 0
      · have hz' : ((z2 : Int) == 0) = true := by simp [hz]
        cases hs : (z1.toList == sb.toList) with
        | true =>
          have HB := hid X4.out.below
          go_wp2_with (fail)
          go_ret
          exact ⟨rfl, HB.out⟩
        | false =>
          have N2 := NX'.out (fun h => by rw [hs] at h; exact absurd h.2 (by simp))
          go_wp2_with (fail)
          go_roundw
          case rel => exact ⟨r + 1, by omega, by go_num, N2, trivial⟩
          case measure => simp [intOf]; omega
      · have hz' : ((z2 : Int) == 0) = false := by simp; omega
        have N2 := NX'.out (fun h => hz h.1)
        go_wp2_with (fail)
        go_roundw
        case rel => exact ⟨r + 1, by omega, by go_num, N2, trivial⟩
        case measure => simp [intOf]; omega
    · obtain ⟨q, hq, hq2⟩ := HR.out
      exact absurd hq2 (HN.out q (by rw [List.take_of_length_le (by omega)]; exact hq))
end Go.Proofs.YtjdlmhkfaodkgaaDoor.Lex
namespace Go.Proofs.YtjdlmhkfaodkgaaDoor.Lex
theorem OfOk.lead {now ago : List (List Nat)} (h : OfOk now ago) {home : Nat} {L : List Nat} (L0 : L[0]? = some home) (hlt : ∀ z ∈ L, z < now.length) (hs : ∀ i (h : i + 1 < L.length), L[i + 1] ∈ now.getD L[i] []) (last : ∀ i (h : i < L.length), i + 1 = L.length → home ∈ now.getD L[i] []) : leadB (rowsP (ofP now ago)) (ofP now ago).flows.length home = true := by
  have hL1 : 0 < L.length := by
    rcases Nat.eq_zero_or_pos L.length with h | h
    · rw [List.length_eq_zero_iff.1 h] at L0; cases L0
    · exact h
  have hhome : home ∈ L := List.mem_of_getElem? L0
  rw [lead_spec (rowsP_lt _) (by rw [ofP_len]; exact hlt _ hhome)]
  have hs' : ∀ i (h : i + 1 < L.length), L[i + 1] ∈ rowsP (ofP now ago) L[i] := fun i hi => (h.rows _ _).2 ⟨hlt _ (List.getElem_mem _), hs i hi⟩
  have h1 := rch_snoc L home L0 hs' (L.length - 1) (by omega)
  exact ⟨L.length - 1, _, h1, (h.rows _ _).2 ⟨hlt _ (List.getElem_mem _), last _ (by omega) (by omega)⟩⟩
theorem OfOk.find_is {now ago : List (List Nat)} (h : OfOk now ago) {home : Nat} {L : List Nat} (L0 : L[0]? = some home) (hnd : L.Nodup) (hlt : ∀ z ∈ L, z < now.length) (only : ∀ i (h : i + 1 < L.length), ∀ y ∈ now.getD L[i] [], y = L[i + 1]) (hs : ∀ i (h : i + 1 < L.length), L[i + 1] ∈ now.getD L[i] [])
    (last : ∀ i (h : i < L.length), i + 1 = L.length → home ∈ now.getD L[i] []) (first : ∀ j, j < home → leadB (rowsP (ofP now ago)) (ofP now ago).flows.length j = false) : findC (ofP now ago) = L.map wordB := by
  have hlb := h.lead L0 hlt hs last
  have hhome : home < (ofP now ago).flows.length := by rw [ofP_len]; exact hlt _ (List.mem_of_getElem? L0)
  have hc := circ_spec (rowsP_lt _) (whoP_lt _) hhome (rows_who _) hlb
  have e : circP (ofP now ago) = L := by
    unfold circP
    rw [findI_some hhome hlb first]
    exact circ_is hc (circ_zero _ _ _ _) L0 hnd (fun i hi y hy => only i hi y ((h.rows _ _).1 hy).2) (fun i hi => (h.rows _ _).2 ⟨hlt _ (List.getElem_mem _), hs i hi⟩) (fun i hi e => (h.rows _ _).2 ⟨hlt _ (List.getElem_mem _), last i hi e⟩)
  unfold findC
  rw [e]
  exact List.map_congr_left fun z hz => ofP_nameAt now ago z (hlt z hz)
theorem OfOk.find_no {now ago : List (List Nat)} (h : OfOk now ago) (rk : Nat → Nat) (hrk : ∀ i, i < now.length → ∀ y ∈ now.getD i [], rk y < rk i) : findC (ofP now ago) = [] := by
  unfold findC circP
  rw [findI_none fun j hj => lead_lower (rowsP_lt _) rk (fun i y hy => by obtain ⟨h1, h2⟩ := (h.rows i y).1 hy; exact hrk i h1 y h2) hj]
  rfl
theorem OfOk.ck {now ago : List (List Nat)} (h : OfOk now ago) : ckC (ofP now ago) = if (findC (ofP now ago)).length = 0 then 0 else 8 := by
  unfold ckC
  rw [if_pos h.nmErr]
/-! The four programs of alive. -/
theorem ok_p : OfOk [[1], [0]] [] := ⟨by decide, by decide, by decide⟩
theorem ok_q : OfOk [[1], [2], [1]] [] := ⟨by decide, by decide, by decide⟩
theorem ok_r : OfOk [[]] [[0]] := ⟨by decide, by decide, by decide⟩
theorem ok_s : OfOk [[0]] [] := ⟨by decide, by decide, by decide⟩
theorem fc_p : findC (ofP [[1], [0]] []) = [wordB 0, wordB 1] := ok_p.find_is (L := [0, 1]) (home := 0) rfl (by decide) (by decide)
  (fun i hi => by obtain rfl : i = 0 := by (simp at hi; omega)
                  simp)
  (fun i hi => by obtain rfl : i = 0 := by (simp at hi; omega)
                  simp)
  (fun i hi e => by obtain rfl : i = 1 := by (simp at e; omega)
                    simp)
  (fun j hj => by omega)
theorem fc_q : findC (ofP [[1], [2], [1]] []) = [wordB 1, wordB 2] := ok_q.find_is (L := [1, 2]) (home := 1) rfl (by decide) (by decide)
  (fun i hi => by obtain rfl : i = 0 := by (simp at hi; omega)
                  simp)
  (fun i hi => by obtain rfl : i = 0 := by (simp at hi; omega)
                  simp)
  (fun i hi e => by obtain rfl : i = 1 := by (simp at e; omega)
                    simp)
  (fun j hj => by
    obtain rfl : j = 0 := by omega
    refine lead_lone (rowsP_lt _) (fun i hi => ?_) (by rw [ofP_len]; decide)
    obtain ⟨h1, h2⟩ := (ok_q.rows i 0).1 hi
    have h1 : i < 3 := h1
    rcases (by omega : i = 0 ∨ i = 1 ∨ i = 2) with rfl | rfl | rfl <;> simp at h2)
theorem fc_r : findC (ofP [[]] [[0]]) = [] := ok_r.find_no (fun _ => 0) (fun i hi y hy => by
  have hi : i < 1 := hi
  obtain rfl : i = 0 := by omega
  simp at hy)
theorem fc_s : findC (ofP [[0]] []) = [wordB 0] := ok_s.find_is (L := [0]) (home := 0) rfl (by decide) (by decide) (fun i hi => by simp at hi) (fun i hi => by simp at hi)
  (fun i hi e => by obtain rfl : i = 0 := by (simp at e; omega)
                    simp)
  (fun j hj => by omega)
theorem ck_p : ckC (ofP [[1], [0]] []) = 8 := by rw [ok_p.ck, fc_p]; rfl
theorem ck_r : ckC (ofP [[]] [[0]]) = 0 := by rw [ok_r.ck, fc_r]; rfl
theorem ck_s : ckC (ofP [[0]] []) = 8 := by rw [ok_s.ck, fc_s]; rfl
end Go.Proofs.YtjdlmhkfaodkgaaDoor.Lex
