/-
  The maps of what operators do: made, and looked into.
-/
import Derived.Test.YtkniacdfhajogaaDeeds
namespace Go.Proofs.Ytkniacdfhajogaa.Val
open Go.ChangeShapes Go.WideShapes Go.ChangeAt Go.RowKit Go.Joins
abbrev fcV (f b1 b2 : Nat) : Value := .func (.func f) #[] #[ptr b1, ptr b2]
abbrev fcD (f b1 b2 : Nat) : DataW Unit := .agg [.lit (.int .i64 (f : Int)), .lit (.int .i64 (b1 : Int)), .lit (.int .i64 (b2 : Int))]
abbrev fzD : DataW Unit := .agg []
/-- How a function reads. -/
def fR (v : Value) : Option (DataW Unit × List MemPlace) := match v with
  | .func (.func f) ⟨[]⟩ ⟨[.pointer (some ⟨b1, 0, none⟩), .pointer (some ⟨b2, 0, none⟩)]⟩ => some (fcD f b1 b2, [])
  | _ => some (fzD, [])
theorem fR_c (f b1 b2 : Nat) : fR (fcV f b1 b2) = some (fcD f b1 b2, []) := rfl
theorem fR_inv {v : Value} {f b1 b2 : Nat} {ps : List MemPlace} (h : fR v = some (fcD f b1 b2, ps)) : v = fcV f b1 b2 := by
  unfold fR at h
  split at h
  · simp only [Option.some.injEq, Prod.mk.injEq, DataW.agg.injEq, List.cons.injEq, DataW.lit.injEq, Lit.int.injEq, true_and, and_true] at h
    obtain ⟨⟨h1, h2, h3⟩, _⟩ := h
    have e1 := Int.ofNat.inj h1
    have e2 := Int.ofNat.inj h2
    have e3 := Int.ofNat.inj h3
    subst e1 e2 e3
    rfl
  · simp at h
/-- A map of functions in memory. -/
def RMap (W : World) (b n : Nat) (T : Nat → DataW Unit) : Prop := ∃ D : DataW Unit, W.ownsMap Try.prog 22 fR b n D ∧ ∀ k : Nat, k < 256 → D.atKey (.int .u8 (k : Int)) fzD = T k
theorem RMap.lt {W : World} {b n : Nat} {T : Nat → DataW Unit} (h : RMap W b n T) : b < W.heap.size := by
  obtain ⟨D, h1, _⟩ := h
  exact h1.lt
theorem RMap.keep {W W' : World} {b n : Nat} {T : Nat → DataW Unit} (h : RMap W b n T) (hb : Below W.heap.size W W') : RMap W' b n T := by
  obtain ⟨D, ⟨es, clock, h1, h2⟩, h3⟩ := id h
  exact ⟨D, ⟨es, clock, (hb.block b h.lt).trans h1, h2⟩, h3⟩
theorem RMap.new (W : World) : RMap (W.alloc (.map #[] 0)) W.heap.size 0 (fun _ => fzD) := ⟨.map [], World.ownsMap_made W _ _ _, fun _ _ => rfl⟩
theorem key29 {k : Nat} (hk : k < 256) : keyOf Try.prog 22 (.int .u8 (k : Int)) = some (.int .u8 (k : Int)) := Maps.keyOf_int_mk Try.underlying22 (by simp [Lit.wf, IntKind.min, IntKind.max, IntKind.signed, IntKind.bits]; omega)
theorem RMap.update {W : World} {b n : Nat} {T : Nat → DataW Unit} (h : RMap W b n T) (hn : n < maxLen) {k : Nat} (hk : k < 256) {v : Value} {d : DataW Unit} (hv : fR v = some (d, [])) :
    ∃ W', (Instr.mapUpdate 47 (.map (some b)) (.int .u8 (k : Int)) v).run Try.prog W = .ok () W' ∧ RMap W' b (n + 1) (fun u => if u = k then d else T u) ∧ W.grownBy W' (some b) := by
  obtain ⟨D, h1, h2⟩ := h
  obtain ⟨W', hrun, r1, r2⟩ := h1.update (Maps.int_keyed Try.underlying22) Try.underlying47 hn (key29 hk) hv
  refine ⟨W', hrun, ⟨_, r1, fun u hu => ?_⟩, r2⟩
  dsimp only
  by_cases e : u = k
  · rw [if_pos e, e, Maps.atKey_put_same h1.isMap (by trivial)]
  · rw [if_neg e, Maps.atKey_put_other (by intro h; injection h with _ h; exact e (Int.ofNat.inj h))]
    exact h2 u hu
theorem zero50 (w : World) : ∃ z, (zeroValue 46).run Try.prog w = .ok z w ∧ fR z = some (fzD, []) := ⟨.nilFunc, by kernel_rfl, rfl⟩
theorem RMap.look {W : World} {b n : Nat} {T : Nat → DataW Unit} (h : RMap W b n T) {k : Nat} (hk : k < 256) : ∃ v ps, (Instr.lookup 47 (.map (some b)) (.int .u8 (k : Int)) false).run Try.prog W = .ok v W ∧ fR v = some (T k, ps) := by
  obtain ⟨D, h1, h2⟩ := h
  obtain ⟨z, hz, hzr⟩ := zero50 W
  obtain ⟨v, ps, hrun, hv⟩ := h1.lookup (Maps.int_keyed Try.underlying22) Try.underlying47 hz hzr (key29 hk)
  rw [h2 k hk] at hv
  exact ⟨v, ps, hrun, hv⟩
theorem wpList_mapIns {P : Program} {w w' : World} {ops : Array Oper} {rest : List Oper} {o : Oper} {a : Act} {Q : Exit → Act → World → Prop} (hg : o.guard = none) (m x v : Operand) (t : TypeId) (hop : o.op = Op.insert t m x v)
    (hrun : (Instr.mapUpdate t (a.eval m) (a.eval x) (a.eval v)).run P w = .ok () w') (hK : wpList P ops Q rest (a.put o.dst undef) w') : wpList P ops Q (o :: rest) a w := by
  refine wpList_plain hg fun K hk => ?_
  unfold Oper.wp execOp
  simp only [hop, Sem.run_bind, hrun, Result.andThen_ok, Sem.run_pure]
  exact hk _ _ hK
/-- What a map has been given so far: keys, functions, the boxes of each. -/
def TL : List (Nat × Nat × Nat × Nat) → Nat → DataW Unit
  | [], _ => fzD
  | x :: L, u => if u = x.1 then fcD x.2.1 x.2.2.1 x.2.2.2 else TL L u
/-- A map that is being made. -/
structure MI (w : World) (n : Nat) (L : List (Nat × Nat × Nat × Nat)) (C : List (Nat × Nat)) (W : World) : Prop where
  map : RMap W w.heap.size n (TL L)
  box : ∀ x ∈ C, w.heap.size < x.1 ∧ W.cell? ⟨x.1, 0, none⟩ = some (fV x.2)
  below : Below w.heap.size w W
theorem MI.new (w : World) : MI w 0 [] [] (w.alloc (.map #[] 0)) := ⟨RMap.new w, fun _ hx => (List.not_mem_nil hx).elim, (Below.refl _ _).alloc (Nat.le_refl _) _⟩
theorem MI.step {w W : World} {n : Nat} {L : List (Nat × Nat × Nat × Nat)} {C : List (Nat × Nat)} (h : MI w n L C W) (hn : n < 1000) (k f tt fd : Nat) (t1 t2 : TypeId) (hk : k < 256) :
    ∃ W', (Instr.mapUpdate 47 (.map (some w.heap.size)) (.int .u8 (k : Int)) (fcV f W.heap.size (W.heap.size + 1))).run Try.prog ((W.alloc (.cells #[fV tt] t1)).alloc (.cells #[fV fd] t2)) = .ok () W' ∧ MI w (n + 1) ((k, f, W.heap.size, W.heap.size + 1) :: L) ((W.heap.size, tt) :: (W.heap.size + 1, fd) :: C) W' := by
  have hlt := h.map.lt
  have hs := h.below.size
  have b2 : Below W.heap.size W ((W.alloc (.cells #[fV tt] t1)).alloc (.cells #[fV fd] t2)) := ((Below.refl _ _).alloc (Nat.le_refl _) _).alloc (by simp) _
  obtain ⟨W', r1, r2, g⟩ := (h.map.keep b2).update (by unfold maxLen; omega) hk (fR_c f W.heap.size (W.heap.size + 1))
  have old : ∀ (b : Nat) (v : Value), b ≠ w.heap.size → ((W.alloc (.cells #[fV tt] t1)).alloc (.cells #[fV fd] t2)).cell? ⟨b, 0, none⟩ = some v → W'.cell? ⟨b, 0, none⟩ = some v := fun b v hb hc => by
    have hl := World.block_lt_of_cell? _ _ hc
    rw [World.cell?_of_block (a := ⟨b, 0, none⟩) (g.block b hl (by intro e; injection e with e; exact hb e))]
    exact hc
  have n1 : ((W.alloc (.cells #[fV tt] t1)).alloc (.cells #[fV fd] t2)).cell? ⟨W.heap.size, 0, none⟩ = some (fV tt) := (cell_of_row _ _ _ _ t1 (0, 0) (push_old (push_new _ _ _ rfl))).trans rfl
  have n2 : ((W.alloc (.cells #[fV tt] t1)).alloc (.cells #[fV fd] t2)).cell? ⟨W.heap.size + 1, 0, none⟩ = some (fV fd) := (cell_of_row _ _ _ _ t2 (0, 0) (push_new _ _ _ (by simp))).trans rfl
  refine ⟨W', r1, ⟨r2, ?_, ?_⟩⟩
  · intro x hx
    rcases List.mem_cons.1 hx with rfl | hx
    · exact ⟨hlt, old _ _ (by show W.heap.size ≠ _; omega) n1⟩
    rcases List.mem_cons.1 hx with rfl | hx
    · exact ⟨by show _ < W.heap.size + 1; omega, old _ _ (by show W.heap.size + 1 ≠ _; omega) n2⟩
    · obtain ⟨h1, h2⟩ := h.box x hx
      exact ⟨h1, old _ _ (by omega) (cell_kept h2 b2)⟩
  · exact (h.below.trans (b2.mono (by omega))).grown g (Nat.le_trans hs b2.size) (fun j hj => by cases hj; exact Nat.le_refl _)
/-- What a map of deeds tells at a key. -/
def Deed (W : World) (b k f tt fd : Nat) : Prop := ∃ b1 b2, (Instr.lookup 47 (.map (some b)) (.int .u8 (k : Int)) false).run Try.prog W = .ok (fcV f b1 b2) W ∧ W.cell? ⟨b1, 0, none⟩ = some (fV tt) ∧ W.cell? ⟨b2, 0, none⟩ = some (fV fd)
theorem MI.deed {w W : World} {n : Nat} {L : List (Nat × Nat × Nat × Nat)} {C : List (Nat × Nat)} (h : MI w n L C W) {k f b1 b2 tt fd : Nat} (hk : k < 256) (hT : TL L k = fcD f b1 b2) (h1 : (b1, tt) ∈ C) (h2 : (b2, fd) ∈ C) : Deed W w.heap.size k f tt fd := by
  obtain ⟨v, ps, hr, hv⟩ := h.map.look hk
  rw [hT] at hv
  rw [fR_inv hv] at hr
  exact ⟨b1, b2, hr, (h.box _ h1).2, (h.box _ h2).2⟩
theorem of_one_n (fd : Nat) (w : World) : Calls Try.prog 22 #[fV 23, fV fd] w fun e w' => e = .returned (fcV 41 w.heap.size (w.heap.size + 1)) ∧ w' = (w.alloc (.cells #[fV 23] 42)).alloc (.cells #[fV fd] 50) := by
  go_enter Try.func22, Try.ntmps22
  go_wp2_with (fail)
  go_ret
  exact ⟨rfl, rfl⟩
theorem of_two_n (fd : Nat) (w : World) : Calls Try.prog 25 #[fV 23, fV fd] w fun e w' => e = .returned (fcV 42 w.heap.size (w.heap.size + 1)) ∧ w' = (w.alloc (.cells #[fV 23] 42)).alloc (.cells #[fV fd] 52) := by
  go_enter Try.func25, Try.ntmps25
  go_wp2_with (fail)
  go_ret
  exact ⟨rfl, rfl⟩
theorem of_two_b (fd : Nat) (w : World) : Calls Try.prog 31 #[fV 32, fV fd] w fun e w' => e = .returned (fcV 43 w.heap.size (w.heap.size + 1)) ∧ w' = (w.alloc (.cells #[fV 32] 43)).alloc (.cells #[fV fd] 54) := by
  go_enter Try.func31, Try.ntmps31
  go_wp2_with (fail)
  go_ret
  exact ⟨rfl, rfl⟩
theorem of_one_b (fd : Nat) (w : World) : Calls Try.prog 37 #[fV 32, fV fd] w fun e w' => e = .returned (fcV 44 w.heap.size (w.heap.size + 1)) ∧ w' = (w.alloc (.cells #[fV 32] 43)).alloc (.cells #[fV fd] 56) := by
  go_enter Try.func37, Try.ntmps37
  go_wp2_with (fail)
  go_ret
  exact ⟨rfl, rfl⟩
end Go.Proofs.Ytkniacdfhajogaa.Val
