/-
  What operators ask for: the contracts of common and of the rules.
  What operators ask for: the contracts of the rules' functions.
  A map of functions: what each operator asks for.
  The map of what operators ask for: the contracts of allOf and rules.
  The type of a name.
  The type of what is worked out: the contract of typeOf.
  fits: may a default be of a type.
  Is each flow of its type: the contract of types.Check.
  The instructions of an expression: write.
-/
import Derived.Test.YtdenddknbmiboaaDoorG3
import Derived.RangeFuncBox
import Derived.Test.YtdenddknbmiboaaDoorG5
import Derived.Maps.Keyed
import Derived.Test.YtdenddknbmiboaaDoorG6
import Derived.Test.YtdenddknbmiboaaDoorG11
namespace Go.Proofs.YtdenddknbmiboaaDoor.Lex.Typ
open Go.ChangeShapes Go.WideShapes Go.ChangeAt Go.RowKit Go.Joins
/-- The type that all have; 0: they have not one. -/
def com (ts : List Nat) : Nat := if ts.all (fun t => t == ts.headD 0) then ts.headD 0 else 0
/-- Types in a row. -/
def TyAt (W : World) (g o : Nat) (ts : List Nat) : Prop := ∀ i (h : i < ts.length), W.cell? ⟨g, o + i, none⟩ = some (.int .u8 (ts[i] : Int))
theorem TyAt.keep {W W' : World} {g o : Nat} {ts : List Nat} (h : TyAt W g o ts) (hb : Below W.heap.size W W') : TyAt W' g o ts := fun i hi => cell_kept (h i hi) hb
set_option maxRecDepth 100000 in
set_option maxHeartbeats 1000000 in
theorem common (ts : List Nat) (g o cap : Nat) (w : World) (hT : TyAt w g o ts) (h0 : 0 < ts.length) (h3 : ts.length ≤ 1000) : Calls Tryd.prog 75 #[.slice (some ⟨g, o, none⟩) ts.length cap] w fun e w' => e = .returned (.int .u8 (com ts : Int)) ∧ w' = w := by
  have HT := hid hT
  have z0 := hT 0 h0
  have hh : ts.headD 0 = ts[0] := by cases ts with | nil => simp at h0 | cons a l => rfl
  have HH := hid hh
  clear hT hh
  go_enter Tryd.func75, Tryd.ntmps75
  go_wp2_with (fail)
  go_loopw [7] (fun i wr => ∃ k : Nat, k ≤ ts.length ∧ i = .int .i64 (k : Int) ∧ wr = w ∧ Hid (∀ t ∈ ts.take k, t = ts.headD 0)) (fun i _ => ts.length - (intOf i).toNat)
  case atStart => exact ⟨0, Nat.zero_le _, rfl, rfl, hid (by simp)⟩
  case round =>
    obtain ⟨k, hk, rfl, rfl, HA⟩ := hrel
    by_cases hlt : k < ts.length
    · have hlt' : (k : Int) < (ts.length : Int) := by omega
      have hk0 : (0 : Int) ≤ (k : Int) := by omega
      have hl0 : (0 : Int) < (ts.length : Int) := by omega
      have y := HT.out k hlt
      have z := HT.out 0 h0
      have HTK := hid (List.take_succ_eq_append_getElem hlt)
      have HM := hid (List.getElem_mem hlt)
      rw [Nat.add_zero] at z
      by_cases he : ts[k] = ts[0]
      · have hne : ((ts[k] : Int) != (ts[0] : Int)) = false := by rw [he]; simp
        have HA2 : Hid (∀ t ∈ ts.take (k + 1), t = ts.headD 0) := hid (fun t ht => by
          rw [HTK.out] at ht
          rcases List.mem_append.1 ht with h | h
          · exact HA.out t h
          · rw [List.mem_singleton.1 h, HH.out]; exact he)
        clear he z0 HTK HM
        generalize ts[k] = tk at *
        generalize hz : ts[0] = tz at y z hne
        clear hz
        go_wp2_with (fail)
        go_roundw
        case rel => exact ⟨k + 1, by omega, by go_num, trivial, HA2⟩
        case measure => simp [intOf]; omega
      · have hne : ((ts[k] : Int) != (ts[0] : Int)) = true := by simp; omega
        have HV : Hid (com ts = 0) := hid (by
          unfold com
          rw [if_neg]
          intro h
          have := List.all_eq_true.1 h _ HM.out
          rw [HH.out, beq_iff_eq] at this
          exact he this)
        clear he z0 HTK HM
        generalize ts[k] = tk at *
        generalize hz : ts[0] = tz at y z hne
        clear hz
        go_wp2_with (fail)
        go_ret
        exact ⟨by rw [HV.out]; rfl, rfl⟩
    · have hlt' : ¬ (k : Int) < (ts.length : Int) := by omega
      have hl0 : (0 : Int) < (ts.length : Int) := by omega
      obtain rfl : k = ts.length := by omega
      have z := HT.out 0 h0
      rw [Nat.add_zero] at z
      have HV : Hid (com ts = ts[0]) := hid (by
        unfold com
        rw [if_pos, HH.out]
        refine List.all_eq_true.2 (fun t ht => ?_)
        rw [beq_iff_eq]
        exact HA.out t (by rw [List.take_length]; exact ht))
      clear z0
      generalize hz : ts[0] = tz at z HV
      clear hz
      go_wp2_with (fail)
      go_ret
      exact ⟨by rw [HV.out]; rfl, rfl⟩
end Go.Proofs.YtdenddknbmiboaaDoor.Lex.Typ
namespace Go.Proofs.YtdenddknbmiboaaDoor.Lex.Typ
open Go.ChangeShapes Go.WideShapes Go.ChangeAt Go.RowKit Go.Joins
/-- Equal, unequal: both have one type. -/
theorem rule1 (ts : List Nat) (g o cap : Nat) (w : World) (hT : TyAt w g o ts) (h0 : 0 < ts.length) (h3 : ts.length ≤ 1000) : Calls Tryd.prog 74 #[.slice (some ⟨g, o, none⟩) ts.length cap] w fun e w' => e = .returned (.int .u8 ((if com ts = 0 then 0 else 2 : Nat) : Int)) ∧ w' = w := by
  have c := common ts g o cap w hT h0 h3
  by_cases h : com ts = 0
  · rw [if_pos h]
    have hb : ((com ts : Int) == 0) = true := by rw [beq_iff_eq]; omega
    clear h hT
    generalize com ts = x at *
    go_enter Tryd.func74, Tryd.ntmps74
    go_wp2_with (fail)
    refine c.mono ?_
    rintro e w2 ⟨rfl, rfl⟩
    go_wp2_with (fail)
    go_ret
    exact ⟨rfl, rfl⟩
  · rw [if_neg h]
    have hb : ((com ts : Int) == 0) = false := by rw [beq_eq_false_iff_ne]; omega
    clear h hT
    generalize com ts = x at *
    go_enter Tryd.func74, Tryd.ntmps74
    go_wp2_with (fail)
    refine c.mono ?_
    rintro e w2 ⟨rfl, rfl⟩
    go_wp2_with (fail)
    go_ret
    exact ⟨rfl, rfl⟩
/-- If: the first one's type is yes or no, the others have one. -/
theorem rule2 (t : Nat) (l : List Nat) (g o cap : Nat) (w : World) (hT : TyAt w g o (t :: l)) (h0 : 0 < l.length) (h3 : l.length ≤ 900) (hc : l.length + 1 ≤ cap) : Calls Tryd.prog 76 #[.slice (some ⟨g, o, none⟩) (t :: l).length cap] w fun e w' => e = .returned (.int .u8 ((if t = 2 then com l else 0 : Nat) : Int)) ∧ w' = w := by
  have z := hT 0 (by simp)
  rw [Nat.add_zero] at z
  have hT2 : TyAt w g (o + 1) l := fun i hi => by
    have := hT (i + 1) (by simp; omega)
    rw [show o + 1 + i = o + (i + 1) by omega]
    exact this
  have c := common l g (o + 1) (cap - 1) w hT2 h0 (by omega)
  simp only [List.getElem_cons_zero] at z
  have hl0 : (0 : Int) < ((t :: l).length : Int) := by simp
  have hlen : (t :: l).length = l.length + 1 := rfl
  rw [hlen] at *
  by_cases h : t = 2
  · rw [if_pos h]
    have hb : ((t : Int) != 2) = false := by rw [bne_eq_false_iff_eq]; omega
    clear h hT hT2
    generalize com l = x at *
    go_enter Tryd.func76, Tryd.ntmps76
    go_wp2_with (fail)
    refine c.mono ?_
    rintro e w2 ⟨rfl, rfl⟩
    go_wp2_with (fail)
    go_ret
    exact ⟨rfl, rfl⟩
  · rw [if_neg h]
    have hb : ((t : Int) != 2) = true := by simp; omega
    clear h hT hT2 c
    go_enter Tryd.func76, Tryd.ntmps76
    go_wp2_with (fail)
    go_ret
    exact ⟨rfl, rfl⟩
set_option maxRecDepth 100000 in
/-- All parts are of one type: it is of another one. -/
theorem rule0 (part own : Nat) (bp bo : Nat) (ts : List Nat) (g o cap : Nat) (w : World) (hp : w.cell? ⟨bp, 0, none⟩ = some (.int .u8 (part : Int))) (ho : w.cell? ⟨bo, 0, none⟩ = some (.int .u8 (own : Int))) (hT : TyAt w g o ts) (h0 : 0 < ts.length) (h3 : ts.length ≤ 1000) : Calls Tryd.prog 89 #[.slice (some ⟨g, o, none⟩) ts.length cap, .pointer (some ⟨bp, 0, none⟩), .pointer (some ⟨bo, 0, none⟩)] w fun e w' => e = .returned (.int .u8 ((if com ts = part then own else 0 : Nat) : Int)) ∧ Below w.heap.size w w' := by
  have c := common ts g o cap w.drew (fun i hi => hT i hi) h0 h3
  have HB := hid (Below.refl w.heap.size w).drew
  by_cases h : com ts = part
  · rw [if_pos h]
    have hb : ((com ts : Int) != (part : Int)) = false := by rw [h]; simp
    clear h hT
    generalize com ts = x at *
    go_enter Tryd.func89, Tryd.ntmps89
    go_wp2_with (fail)
    refine wp_region_held_drew (S := fun W => W.cell? ⟨bp, 0, none⟩ = some (.int .u8 (part : Int)) ∧ W.cell? ⟨bo, 0, none⟩ = some (.int .u8 (own : Int))) (by kernel_rfl) ?_ (fun hHeld => ?_)
    · exact ⟨hp, ho⟩
    refine wpAnyH_take (i := 0) (oi := { dst := some 5, op := Go.Op.move (Go.Operand.tmp 0), type := 60, pos := _, after := #[], guard := none }) (v := ?_) rfl (by kernel_rfl) (by kernel_rfl) (by kernel_rfl) (fun _ _ _ h => h) (Or.inl ⟨by rfl, ?_⟩) (by assumption) ?_
    rotate_left
    · intro w hSw; (try dsimp only at hSw); go_simp <;> first | with_reducible rfl | (rw [if_neg (by first | omega | (simp only [ByteArray.size_append] at *; omega))])
    simp only [Act.put, List.setIfInBounds_toArray, List.set_cons_zero, List.set_cons_succ]
    refine wpAnyH_take (i := 2) (oi := { dst := some 7, op := Go.Op.load 27 (Go.Operand.tmp 1), type := 27, pos := _, after := #[], guard := none }) (v := ?_) rfl (by kernel_rfl) (by kernel_rfl) (by kernel_rfl) (fun _ _ _ h => h) (Or.inl ⟨by rfl, ?_⟩) (by assumption) ?_
    rotate_left
    · intro w hSw; (try dsimp only at hSw); go_simp <;> first | with_reducible rfl | (rw [if_neg (by first | omega | (simp only [ByteArray.size_append] at *; omega))])
    simp only [Act.put, List.setIfInBounds_toArray, List.set_cons_zero, List.set_cons_succ]
    refine wpAnyH_ready (rs := [1]) (by kernel_rfl) (by simp) ?_
    refine AllReadyH.cons (o := { dst := some 6, op := Go.Op.call { callee := Go.Callee.value (Go.Operand.func 75), args := #[Go.Operand.tmp 5], argTypes := #[60] }, type := 27, pos := _, after := #[{ on := 0, ground := Go.Ground.data }], guard := none }) rfl (fun K hK => ?_) AllReadyH.nil
    go_simp
    refine c.mono ?_
    rintro e w2 ⟨rfl, rfl⟩
    go_wp2_with fail
    refine hK.out _ _ ?_ (fun hHeld1 => ?_)
    · exact ⟨hp, ho⟩
    clear hK K
    refine wpAnyH_take (i := 3) (oi := { dst := some 8, op := Go.Op.binOp Go.BinOp.neq 27 (Go.Operand.tmp 6) (Go.Operand.tmp 7) 27, type := 4, pos := _, after := #[{ on := 1, ground := Go.Ground.data }, { on := 2, ground := Go.Ground.data }], guard := none }) (v := ?_) rfl (by kernel_rfl) (by kernel_rfl) (by kernel_rfl) (fun _ _ _ h => h) (Or.inl ⟨by rfl, ?_⟩) (by assumption) ?_
    rotate_left
    · intro w hSw; (try dsimp only at hSw); go_simp <;> first | with_reducible rfl | (rw [if_neg (by first | omega | (simp only [ByteArray.size_append] at *; omega))])
    simp only [Act.put, List.setIfInBounds_toArray, List.set_cons_zero, List.set_cons_succ]
    refine wpAnyH_done (by kernel_rfl) ?_ _
    go_wp2_with (fail)
    go_ret
    exact ⟨rfl, HB.out⟩
  · rw [if_neg h]
    have hb : ((com ts : Int) != (part : Int)) = true := by simp; omega
    clear h hT
    generalize com ts = x at *
    go_enter Tryd.func89, Tryd.ntmps89
    go_wp2_with (fail)
    refine wp_region_held_drew (S := fun W => W.cell? ⟨bp, 0, none⟩ = some (.int .u8 (part : Int)) ∧ W.cell? ⟨bo, 0, none⟩ = some (.int .u8 (own : Int))) (by kernel_rfl) ?_ (fun hHeld => ?_)
    · exact ⟨hp, ho⟩
    refine wpAnyH_take (i := 0) (oi := { dst := some 5, op := Go.Op.move (Go.Operand.tmp 0), type := 60, pos := _, after := #[], guard := none }) (v := ?_) rfl (by kernel_rfl) (by kernel_rfl) (by kernel_rfl) (fun _ _ _ h => h) (Or.inl ⟨by rfl, ?_⟩) (by assumption) ?_
    rotate_left
    · intro w hSw; (try dsimp only at hSw); go_simp <;> first | with_reducible rfl | (rw [if_neg (by first | omega | (simp only [ByteArray.size_append] at *; omega))])
    simp only [Act.put, List.setIfInBounds_toArray, List.set_cons_zero, List.set_cons_succ]
    refine wpAnyH_take (i := 2) (oi := { dst := some 7, op := Go.Op.load 27 (Go.Operand.tmp 1), type := 27, pos := _, after := #[], guard := none }) (v := ?_) rfl (by kernel_rfl) (by kernel_rfl) (by kernel_rfl) (fun _ _ _ h => h) (Or.inl ⟨by rfl, ?_⟩) (by assumption) ?_
    rotate_left
    · intro w hSw; (try dsimp only at hSw); go_simp <;> first | with_reducible rfl | (rw [if_neg (by first | omega | (simp only [ByteArray.size_append] at *; omega))])
    simp only [Act.put, List.setIfInBounds_toArray, List.set_cons_zero, List.set_cons_succ]
    refine wpAnyH_ready (rs := [1]) (by kernel_rfl) (by simp) ?_
    refine AllReadyH.cons (o := { dst := some 6, op := Go.Op.call { callee := Go.Callee.value (Go.Operand.func 75), args := #[Go.Operand.tmp 5], argTypes := #[60] }, type := 27, pos := _, after := #[{ on := 0, ground := Go.Ground.data }], guard := none }) rfl (fun K hK => ?_) AllReadyH.nil
    go_simp
    refine c.mono ?_
    rintro e w2 ⟨rfl, rfl⟩
    go_wp2_with fail
    refine hK.out _ _ ?_ (fun hHeld1 => ?_)
    · exact ⟨hp, ho⟩
    clear hK K
    refine wpAnyH_take (i := 3) (oi := { dst := some 8, op := Go.Op.binOp Go.BinOp.neq 27 (Go.Operand.tmp 6) (Go.Operand.tmp 7) 27, type := 4, pos := _, after := #[{ on := 1, ground := Go.Ground.data }, { on := 2, ground := Go.Ground.data }], guard := none }) (v := ?_) rfl (by kernel_rfl) (by kernel_rfl) (by kernel_rfl) (fun _ _ _ h => h) (Or.inl ⟨by rfl, ?_⟩) (by assumption) ?_
    rotate_left
    · intro w hSw; (try dsimp only at hSw); go_simp <;> first | with_reducible rfl | (rw [if_neg (by first | omega | (simp only [ByteArray.size_append] at *; omega))])
    simp only [Act.put, List.setIfInBounds_toArray, List.set_cons_zero, List.set_cons_succ]
    refine wpAnyH_done (by kernel_rfl) ?_ _
    go_wp2_with (fail)
    go_ret
    exact ⟨rfl, HB.out⟩
end Go.Proofs.YtdenddknbmiboaaDoor.Lex.Typ
namespace Go.Proofs.YtdenddknbmiboaaDoor.Lex.Typ
open Go.ChangeShapes Go.WideShapes Go.ChangeAt Go.RowKit Go.Joins
/-- A function of the map: its number, and where what it holds lies. -/
structure Fx where
  f : Nat
  a : Nat
  b : Nat
abbrev fxV (x : Fx) : Value := .func (.func x.f) #[] #[.pointer (some ⟨x.a, 0, none⟩), .pointer (some ⟨x.b, 0, none⟩)]
abbrev fyV (f : Nat) : Value := .func (.func f) #[] #[]
abbrev fxD (x : Fx) : DataW Unit := .agg [.lit (.int .i64 (x.f : Int)), .lit (.int .i64 (x.a : Int)), .lit (.int .i64 (x.b : Int))]
abbrev fyD (f : Nat) : DataW Unit := .agg [.lit (.int .i64 (f : Int))]
abbrev fzD : DataW Unit := .agg []
/-- How a function reads. -/
def fR (v : Value) : Option (DataW Unit × List MemPlace) := match v with
  | .func (.func f) ⟨[]⟩ ⟨[.pointer (some ⟨a, 0, none⟩), .pointer (some ⟨b, 0, none⟩)]⟩ => some (fxD ⟨f, a, b⟩, [])
  | .func (.func f) ⟨[]⟩ ⟨[]⟩ => some (fyD f, [])
  | _ => some (fzD, [])
theorem fR_x (x : Fx) : fR (fxV x) = some (fxD x, []) := rfl
theorem fR_y (f : Nat) : fR (fyV f) = some (fyD f, []) := rfl
theorem fR_invx {v : Value} {x : Fx} {ps : List MemPlace} (h : fR v = some (fxD x, ps)) : v = fxV x := by
  unfold fR at h
  split at h
  · simp only [Option.some.injEq, Prod.mk.injEq, DataW.agg.injEq, List.cons.injEq, DataW.lit.injEq, Lit.int.injEq, true_and, and_true] at h
    obtain ⟨⟨h1, h2, h3⟩, _⟩ := h
    obtain ⟨f, a, b⟩ := x
    simp only at h1 h2 h3
    have e1 := Int.ofNat.inj h1
    have e2 := Int.ofNat.inj h2
    have e3 := Int.ofNat.inj h3
    subst e1 e2 e3
    rfl
  · simp at h
  · simp at h
theorem fR_invy {v : Value} {f : Nat} {ps : List MemPlace} (h : fR v = some (fyD f, ps)) : v = fyV f := by
  unfold fR at h
  split at h
  · simp at h
  · simp only [Option.some.injEq, Prod.mk.injEq, DataW.agg.injEq, List.cons.injEq, DataW.lit.injEq, Lit.int.injEq, true_and, and_true] at h
    have e1 := Int.ofNat.inj h.1
    subst e1
    rfl
  · simp at h
/-- A map of functions in memory. -/
def RMap (W : World) (b n : Nat) (T : Nat → DataW Unit) : Prop := ∃ D : DataW Unit, W.ownsMap Tryd.prog 36 fR b n D ∧ ∀ k : Nat, k < 256 → D.atKey (.int .u8 (k : Int)) fzD = T k
theorem RMap.lt {W : World} {b n : Nat} {T : Nat → DataW Unit} (h : RMap W b n T) : b < W.heap.size := by
  obtain ⟨D, h1, _⟩ := h
  exact h1.lt
theorem RMap.keep {W W' : World} {b n : Nat} {T : Nat → DataW Unit} (h : RMap W b n T) (hb : Below W.heap.size W W') : RMap W' b n T := by
  obtain ⟨D, ⟨es, clock, h1, h2⟩, h3⟩ := id h
  exact ⟨D, ⟨es, clock, (hb.block b h.lt).trans h1, h2⟩, h3⟩
theorem RMap.new (W : World) : RMap (W.alloc (.map #[] 0)) W.heap.size 0 (fun _ => fzD) := ⟨.map [], World.ownsMap_made W _ _ _, fun _ _ => rfl⟩
theorem key27 {k : Nat} (hk : k < 256) : keyOf Tryd.prog 36 (.int .u8 (k : Int)) = some (.int .u8 (k : Int)) := Maps.keyOf_int_mk Tryd.underlying36 (by simp [Lit.wf, IntKind.min, IntKind.max, IntKind.signed, IntKind.bits]; omega)
theorem RMap.update {W : World} {b n : Nat} {T : Nat → DataW Unit} (h : RMap W b n T) (hn : n < maxLen) {k : Nat} (hk : k < 256) {v : Value} {d : DataW Unit} (hv : fR v = some (d, [])) :
    ∃ W', (Instr.mapUpdate 121 (.map (some b)) (.int .u8 (k : Int)) v).run Tryd.prog W = .ok () W' ∧ RMap W' b (n + 1) (fun u => if u = k then d else T u) ∧ W.grownBy W' (some b) := by
  obtain ⟨D, h1, h2⟩ := h
  obtain ⟨W', hrun, r1, r2⟩ := h1.update (Maps.int_keyed Tryd.underlying36) Tryd.underlying121 hn (key27 hk) hv
  refine ⟨W', hrun, ⟨_, r1, fun u hu => ?_⟩, r2⟩
  dsimp only
  by_cases e : u = k
  · rw [if_pos e, e, Maps.atKey_put_same h1.isMap (by trivial)]
  · rw [if_neg e, Maps.atKey_put_other (by intro h; injection h with _ h; exact e (Int.ofNat.inj h))]
    exact h2 u hu
theorem zero101 (w : World) : ∃ z, (zeroValue 154).run Tryd.prog w = .ok z w ∧ fR z = some (fzD, []) := ⟨.nilFunc, by kernel_rfl, rfl⟩
theorem RMap.look {W : World} {b n : Nat} {T : Nat → DataW Unit} (h : RMap W b n T) {k : Nat} (hk : k < 256) : ∃ v ps, (Instr.lookup 121 (.map (some b)) (.int .u8 (k : Int)) false).run Tryd.prog W = .ok v W ∧ fR v = some (T k, ps) := by
  obtain ⟨D, h1, h2⟩ := h
  obtain ⟨z, hz, hzr⟩ := zero101 W
  obtain ⟨v, ps, hrun, hv⟩ := h1.lookup (Maps.int_keyed Tryd.underlying36) Tryd.underlying121 hz hzr (key27 hk)
  rw [h2 k hk] at hv
  exact ⟨v, ps, hrun, hv⟩
end Go.Proofs.YtdenddknbmiboaaDoor.Lex.Typ
namespace Go.Proofs.YtdenddknbmiboaaDoor.Lex.Typ
open Go.ChangeShapes Go.WideShapes Go.ChangeAt Go.RowKit Go.Joins
theorem wpList_mapIns {P : Program} {w w' : World} {ops : Array Oper} {rest : List Oper} {o : Oper} {a : Act} {Q : Exit → Act → World → Prop} (hg : o.guard = none) (m x v : Operand) (t : TypeId) (hop : o.op = Op.insert t m x v)
    (hrun : (Instr.mapUpdate t (a.eval m) (a.eval x) (a.eval v)).run P w = .ok () w') (hK : wpList P ops Q rest (a.put o.dst undef) w') : wpList P ops Q (o :: rest) a w := by
  refine wpList_plain hg fun K hk => ?_
  unfold Oper.wp execOp
  simp only [hop, Sem.run_bind, hrun, Result.andThen_ok, Sem.run_pure]
  exact hk _ _ hK
theorem all_of (part own : Nat) (w : World) : Calls Tryd.prog 73 #[.int .u8 (part : Int), .int .u8 (own : Int)] w fun e w' => e = .returned (fxV ⟨89, w.heap.size, w.heap.size + 1⟩) ∧ w' = (w.alloc (.cells #[.int .u8 (part : Int)] 27)).alloc (.cells #[.int .u8 (own : Int)] 27) := by
  have hmf : ∀ (fn : Fn) (first cap : Array Value) (w : World), (Instr.makeFunc fn first cap).run Tryd.prog w = .ok (.func fn first cap) w := fun _ _ _ _ => rfl
  go_enter Tryd.func73, Tryd.ntmps73
  go_wp2_with (fail)
  go_ret
  exact ⟨rfl, rfl⟩
theorem RMap.congr {W : World} {b n : Nat} {T T' : Nat → DataW Unit} (h : RMap W b n T) (he : ∀ k, k < 256 → T k = T' k) : RMap W b n T' := by
  obtain ⟨D, h1, h2⟩ := h
  exact ⟨D, h1, fun k hk => (h2 k hk).trans (he k hk)⟩
/-- What each operator asks for, as the map holds it. -/
def TT8 (n : Nat) (k : Nat) : DataW Unit :=
  if k = 4 ∨ k = 6 ∨ k = 7 ∨ k = 8 ∨ k = 9 ∨ k = 10 then fxD ⟨89, n, n + 1⟩
  else if k = 5 ∨ k = 15 ∨ k = 16 then fxD ⟨89, n + 1 + 1, n + 1 + 1 + 1⟩
  else if k = 13 ∨ k = 14 then fxD ⟨89, n + 1 + 1 + 1 + 1, n + 1 + 1 + 1 + 1 + 1⟩
  else if k = 11 ∨ k = 12 then fyD 74 else if k = 17 then fyD 76 else if k = 18 ∨ k = 19 then fyD 75 else fzD
/-- The map, and what its functions hold. -/
structure Asks (W : World) (n b : Nat) : Prop where
  map : ∃ m, RMap W b m (TT8 n)
  p1 : W.cell? ⟨n, 0, none⟩ = some (.int .u8 1)
  o1 : W.cell? ⟨n + 1, 0, none⟩ = some (.int .u8 1)
  p2 : W.cell? ⟨n + 1 + 1, 0, none⟩ = some (.int .u8 2)
  o2 : W.cell? ⟨n + 1 + 1 + 1, 0, none⟩ = some (.int .u8 2)
  p3 : W.cell? ⟨n + 1 + 1 + 1 + 1, 0, none⟩ = some (.int .u8 1)
  o3 : W.cell? ⟨n + 1 + 1 + 1 + 1 + 1, 0, none⟩ = some (.int .u8 2)
theorem Asks.keep {W W' : World} {n b : Nat} (h : Asks W n b) (hb : Below W.heap.size W W') : Asks W' n b := by
  obtain ⟨m, hm⟩ := h.map
  exact ⟨⟨m, hm.keep hb⟩, cell_kept h.p1 hb, cell_kept h.o1 hb, cell_kept h.p2 hb, cell_kept h.o2 hb, cell_kept h.p3 hb, cell_kept h.o3 hb⟩
set_option maxRecDepth 100000 in
set_option maxHeartbeats 4000000 in
theorem rules (w : World) : Calls Tryd.prog 55 #[] w fun e w' => ∃ b, e = .returned (.map (some b)) ∧ Asks w' w.heap.size b ∧ Below w.heap.size w w' := by
  have hmm := @run_makeMap Tryd.prog
  have c1 := all_of 1 1
  have c2 := all_of 2 2
  have c3 := all_of 1 2
  go_enter Tryd.func55, Tryd.ntmps55
  go_wp2_with (fail)
  refine (c1 _).mono ?_
  rintro e w1 ⟨rfl, rfl⟩
  go_wp2_with (fail)
  refine (c2 _).mono ?_
  rintro e w2 ⟨rfl, rfl⟩
  go_wp2_with (fail)
  refine (c3 _).mono ?_
  rintro e w3 ⟨rfl, rfl⟩
  have R0 : Hid (RMap (((((((w.alloc (.cells #[.int .u8 1] 27)).alloc (.cells #[.int .u8 1] 27)).alloc (.cells #[.int .u8 2] 27)).alloc (.cells #[.int .u8 2] 27)).alloc (.cells #[.int .u8 1] 27)).alloc (.cells #[.int .u8 2] 27)).alloc (.map #[] 0)) (w.heap.size + 1 + 1 + 1 + 1 + 1 + 1) 0 (fun _ => fzD)) := hid ((show ((((((w.alloc (.cells #[.int .u8 1] 27)).alloc (.cells #[.int .u8 1] 27)).alloc (.cells #[.int .u8 2] 27)).alloc (.cells #[.int .u8 2] 27)).alloc (.cells #[.int .u8 1] 27)).alloc (.cells #[.int .u8 2] 27)).heap.size = (w.heap.size + 1 + 1 + 1 + 1 + 1 + 1) by simp) ▸ RMap.new ((((((w.alloc (.cells #[.int .u8 1] 27)).alloc (.cells #[.int .u8 1] 27)).alloc (.cells #[.int .u8 2] 27)).alloc (.cells #[.int .u8 2] 27)).alloc (.cells #[.int .u8 1] 27)).alloc (.cells #[.int .u8 2] 27)))
  obtain ⟨W1, r1, m1, g1⟩ := R0.out.update (by unfold maxLen; omega) (k := 4) (by omega) (fR_x ⟨89, w.heap.size, w.heap.size + 1⟩)
  have R1 := hid m1
  clear m1
  obtain ⟨W2, r2, m2, g2⟩ := R1.out.update (by unfold maxLen; omega) (k := 6) (by omega) (fR_x ⟨89, w.heap.size, w.heap.size + 1⟩)
  have R2 := hid m2
  clear m2
  obtain ⟨W3, r3, m3, g3⟩ := R2.out.update (by unfold maxLen; omega) (k := 7) (by omega) (fR_x ⟨89, w.heap.size, w.heap.size + 1⟩)
  have R3 := hid m3
  clear m3
  obtain ⟨W4, r4, m4, g4⟩ := R3.out.update (by unfold maxLen; omega) (k := 8) (by omega) (fR_x ⟨89, w.heap.size, w.heap.size + 1⟩)
  have R4 := hid m4
  clear m4
  obtain ⟨W5, r5, m5, g5⟩ := R4.out.update (by unfold maxLen; omega) (k := 9) (by omega) (fR_x ⟨89, w.heap.size, w.heap.size + 1⟩)
  have R5 := hid m5
  clear m5
  obtain ⟨W6, r6, m6, g6⟩ := R5.out.update (by unfold maxLen; omega) (k := 10) (by omega) (fR_x ⟨89, w.heap.size, w.heap.size + 1⟩)
  have R6 := hid m6
  clear m6
  obtain ⟨W7, r7, m7, g7⟩ := R6.out.update (by unfold maxLen; omega) (k := 5) (by omega) (fR_x ⟨89, w.heap.size + 1 + 1, w.heap.size + 1 + 1 + 1⟩)
  have R7 := hid m7
  clear m7
  obtain ⟨W8, r8, m8, g8⟩ := R7.out.update (by unfold maxLen; omega) (k := 15) (by omega) (fR_x ⟨89, w.heap.size + 1 + 1, w.heap.size + 1 + 1 + 1⟩)
  have R8 := hid m8
  clear m8
  obtain ⟨W9, r9, m9, g9⟩ := R8.out.update (by unfold maxLen; omega) (k := 16) (by omega) (fR_x ⟨89, w.heap.size + 1 + 1, w.heap.size + 1 + 1 + 1⟩)
  have R9 := hid m9
  clear m9
  obtain ⟨W10, r10, m10, g10⟩ := R9.out.update (by unfold maxLen; omega) (k := 13) (by omega) (fR_x ⟨89, w.heap.size + 1 + 1 + 1 + 1, w.heap.size + 1 + 1 + 1 + 1 + 1⟩)
  have R10 := hid m10
  clear m10
  obtain ⟨W11, r11, m11, g11⟩ := R10.out.update (by unfold maxLen; omega) (k := 14) (by omega) (fR_x ⟨89, w.heap.size + 1 + 1 + 1 + 1, w.heap.size + 1 + 1 + 1 + 1 + 1⟩)
  have R11 := hid m11
  clear m11
  obtain ⟨W12, r12, m12, g12⟩ := R11.out.update (by unfold maxLen; omega) (k := 11) (by omega) (fR_y 74)
  have R12 := hid m12
  clear m12
  obtain ⟨W13, r13, m13, g13⟩ := R12.out.update (by unfold maxLen; omega) (k := 12) (by omega) (fR_y 74)
  have R13 := hid m13
  clear m13
  obtain ⟨W14, r14, m14, g14⟩ := R13.out.update (by unfold maxLen; omega) (k := 17) (by omega) (fR_y 76)
  have R14 := hid m14
  clear m14
  obtain ⟨W15, r15, m15, g15⟩ := R14.out.update (by unfold maxLen; omega) (k := 18) (by omega) (fR_y 75)
  have R15 := hid m15
  clear m15
  obtain ⟨W16, r16, m16, g16⟩ := R15.out.update (by unfold maxLen; omega) (k := 19) (by omega) (fR_y 75)
  have R16 := hid m16
  clear m16
  have H0 := Below.refl (w.heap.size + 1 + 1 + 1 + 1 + 1 + 1) (((((((w.alloc (.cells #[.int .u8 1] 27)).alloc (.cells #[.int .u8 1] 27)).alloc (.cells #[.int .u8 2] 27)).alloc (.cells #[.int .u8 2] 27)).alloc (.cells #[.int .u8 1] 27)).alloc (.cells #[.int .u8 2] 27)).alloc (.map #[] 0))
  have H1 := H0.grown g1 (Nat.le_trans (by simp) H0.size) (fun j hj => by cases hj; exact Nat.le_refl _)
  have H2 := H1.grown g2 (Nat.le_trans (by simp) H1.size) (fun j hj => by cases hj; exact Nat.le_refl _)
  have H3 := H2.grown g3 (Nat.le_trans (by simp) H2.size) (fun j hj => by cases hj; exact Nat.le_refl _)
  have H4 := H3.grown g4 (Nat.le_trans (by simp) H3.size) (fun j hj => by cases hj; exact Nat.le_refl _)
  have H5 := H4.grown g5 (Nat.le_trans (by simp) H4.size) (fun j hj => by cases hj; exact Nat.le_refl _)
  have H6 := H5.grown g6 (Nat.le_trans (by simp) H5.size) (fun j hj => by cases hj; exact Nat.le_refl _)
  have H7 := H6.grown g7 (Nat.le_trans (by simp) H6.size) (fun j hj => by cases hj; exact Nat.le_refl _)
  have H8 := H7.grown g8 (Nat.le_trans (by simp) H7.size) (fun j hj => by cases hj; exact Nat.le_refl _)
  have H9 := H8.grown g9 (Nat.le_trans (by simp) H8.size) (fun j hj => by cases hj; exact Nat.le_refl _)
  have H10 := H9.grown g10 (Nat.le_trans (by simp) H9.size) (fun j hj => by cases hj; exact Nat.le_refl _)
  have H11 := H10.grown g11 (Nat.le_trans (by simp) H10.size) (fun j hj => by cases hj; exact Nat.le_refl _)
  have H12 := H11.grown g12 (Nat.le_trans (by simp) H11.size) (fun j hj => by cases hj; exact Nat.le_refl _)
  have H13 := H12.grown g13 (Nat.le_trans (by simp) H12.size) (fun j hj => by cases hj; exact Nat.le_refl _)
  have H14 := H13.grown g14 (Nat.le_trans (by simp) H13.size) (fun j hj => by cases hj; exact Nat.le_refl _)
  have H15 := H14.grown g15 (Nat.le_trans (by simp) H14.size) (fun j hj => by cases hj; exact Nat.le_refl _)
  have H16 := H15.grown g16 (Nat.le_trans (by simp) H15.size) (fun j hj => by cases hj; exact Nat.le_refl _)
  have HB := hid H16
  clear H0 H1 H2 H3 H4 H5 H6 H7 H8 H9 H10 H11 H12 H13 H14 H15 H16 g1 g2 g3 g4 g5 g6 g7 g8 g9 g10 g11 g12 g13 g14 g15 g16 R0 R1 R2 R3 R4 R5 R6 R7 R8 R9 R10 R11 R12 R13 R14 R15 c1 c2 c3
  go_wp2_with (first | (refine wpList_mapIns rfl (.tmp 9) (.const (.int .u8 4)) (.tmp 10) 121 rfl r1 ?_; clear r1) | (refine wpList_mapIns rfl (.tmp 9) (.const (.int .u8 6)) (.tmp 11) 121 rfl r2 ?_; clear r2) | (refine wpList_mapIns rfl (.tmp 9) (.const (.int .u8 7)) (.tmp 12) 121 rfl r3 ?_; clear r3) | (refine wpList_mapIns rfl (.tmp 9) (.const (.int .u8 8)) (.tmp 13) 121 rfl r4 ?_; clear r4) | (refine wpList_mapIns rfl (.tmp 9) (.const (.int .u8 9)) (.tmp 14) 121 rfl r5 ?_; clear r5) | (refine wpList_mapIns rfl (.tmp 9) (.const (.int .u8 10)) (.tmp 15) 121 rfl r6 ?_; clear r6) | (refine wpList_mapIns rfl (.tmp 9) (.const (.int .u8 5)) (.tmp 16) 121 rfl r7 ?_; clear r7) | (refine wpList_mapIns rfl (.tmp 9) (.const (.int .u8 15)) (.tmp 17) 121 rfl r8 ?_; clear r8) | (refine wpList_mapIns rfl (.tmp 9) (.const (.int .u8 16)) (.tmp 18) 121 rfl r9 ?_; clear r9) | (refine wpList_mapIns rfl (.tmp 9) (.const (.int .u8 13)) (.tmp 19) 121 rfl r10 ?_; clear r10) | (refine wpList_mapIns rfl (.tmp 9) (.const (.int .u8 14)) (.tmp 20) 121 rfl r11 ?_; clear r11) | (refine wpList_mapIns rfl (.tmp 9) (.const (.int .u8 11)) (.tmp 21) 121 rfl r12 ?_; clear r12) | (refine wpList_mapIns rfl (.tmp 9) (.const (.int .u8 12)) (.tmp 22) 121 rfl r13 ?_; clear r13) | (refine wpList_mapIns rfl (.tmp 9) (.const (.int .u8 17)) (.tmp 23) 121 rfl r14 ?_; clear r14) | (refine wpList_mapIns rfl (.tmp 9) (.const (.int .u8 18)) (.func 75) 121 rfl r15 ?_; clear r15) | (refine wpList_mapIns rfl (.tmp 9) (.const (.int .u8 19)) (.func 75) 121 rfl r16 ?_; clear r16))
  go_ret
  have hB : Below w.heap.size w (((((((w.alloc (.cells #[.int .u8 1] 27)).alloc (.cells #[.int .u8 1] 27)).alloc (.cells #[.int .u8 2] 27)).alloc (.cells #[.int .u8 2] 27)).alloc (.cells #[.int .u8 1] 27)).alloc (.cells #[.int .u8 2] 27)).alloc (.map #[] 0)) := ((((((((Below.refl w.heap.size w).alloc (Nat.le_refl _) _).alloc (by simp) _).alloc (by simp; omega) _).alloc (by simp; omega) _).alloc (by simp; omega) _).alloc (by simp; omega) _).alloc (by simp; omega) _)
  have kc : ∀ (c o : Nat) (v : Value), c < (w.heap.size + 1 + 1 + 1 + 1 + 1 + 1) → (((((((w.alloc (.cells #[.int .u8 1] 27)).alloc (.cells #[.int .u8 1] 27)).alloc (.cells #[.int .u8 2] 27)).alloc (.cells #[.int .u8 2] 27)).alloc (.cells #[.int .u8 1] 27)).alloc (.cells #[.int .u8 2] 27)).alloc (.map #[] 0)).cell? ⟨c, o, none⟩ = some v → W16.cell? ⟨c, o, none⟩ = some v := fun c o v hc h => by
    rw [World.cell?_of_block (w := ((((((w.alloc (.cells #[.int .u8 1] 27)).alloc (.cells #[.int .u8 1] 27)).alloc (.cells #[.int .u8 2] 27)).alloc (.cells #[.int .u8 2] 27)).alloc (.cells #[.int .u8 1] 27)).alloc (.cells #[.int .u8 2] 27)).alloc (.map #[] 0)) (a := ⟨c, o, none⟩) (HB.out.block c hc)]
    exact h
  have k1 : (((((((w.alloc (.cells #[.int .u8 1] 27)).alloc (.cells #[.int .u8 1] 27)).alloc (.cells #[.int .u8 2] 27)).alloc (.cells #[.int .u8 2] 27)).alloc (.cells #[.int .u8 1] 27)).alloc (.cells #[.int .u8 2] 27)).alloc (.map #[] 0)).cell? ⟨w.heap.size, 0, none⟩ = some (.int .u8 1) := by go_simp
  have k2 : (((((((w.alloc (.cells #[.int .u8 1] 27)).alloc (.cells #[.int .u8 1] 27)).alloc (.cells #[.int .u8 2] 27)).alloc (.cells #[.int .u8 2] 27)).alloc (.cells #[.int .u8 1] 27)).alloc (.cells #[.int .u8 2] 27)).alloc (.map #[] 0)).cell? ⟨w.heap.size + 1, 0, none⟩ = some (.int .u8 1) := by go_simp
  have k3 : (((((((w.alloc (.cells #[.int .u8 1] 27)).alloc (.cells #[.int .u8 1] 27)).alloc (.cells #[.int .u8 2] 27)).alloc (.cells #[.int .u8 2] 27)).alloc (.cells #[.int .u8 1] 27)).alloc (.cells #[.int .u8 2] 27)).alloc (.map #[] 0)).cell? ⟨w.heap.size + 1 + 1, 0, none⟩ = some (.int .u8 2) := by go_simp
  have k4 : (((((((w.alloc (.cells #[.int .u8 1] 27)).alloc (.cells #[.int .u8 1] 27)).alloc (.cells #[.int .u8 2] 27)).alloc (.cells #[.int .u8 2] 27)).alloc (.cells #[.int .u8 1] 27)).alloc (.cells #[.int .u8 2] 27)).alloc (.map #[] 0)).cell? ⟨w.heap.size + 1 + 1 + 1, 0, none⟩ = some (.int .u8 2) := by go_simp
  have k5 : (((((((w.alloc (.cells #[.int .u8 1] 27)).alloc (.cells #[.int .u8 1] 27)).alloc (.cells #[.int .u8 2] 27)).alloc (.cells #[.int .u8 2] 27)).alloc (.cells #[.int .u8 1] 27)).alloc (.cells #[.int .u8 2] 27)).alloc (.map #[] 0)).cell? ⟨w.heap.size + 1 + 1 + 1 + 1, 0, none⟩ = some (.int .u8 1) := by go_simp
  have k6 : (((((((w.alloc (.cells #[.int .u8 1] 27)).alloc (.cells #[.int .u8 1] 27)).alloc (.cells #[.int .u8 2] 27)).alloc (.cells #[.int .u8 2] 27)).alloc (.cells #[.int .u8 1] 27)).alloc (.cells #[.int .u8 2] 27)).alloc (.map #[] 0)).cell? ⟨w.heap.size + 1 + 1 + 1 + 1 + 1, 0, none⟩ = some (.int .u8 2) := by go_simp
  refine ⟨_, rfl, ⟨⟨_, R16.out.congr (fun k _ => ?_)⟩, kc _ _ _ (by omega) k1, kc _ _ _ (by omega) k2, kc _ _ _ (by omega) k3, kc _ _ _ (by omega) k4, kc _ _ _ (by omega) k5, kc _ _ _ (by omega) k6⟩, hB.trans (HB.out.mono (by omega))⟩
  by_cases hk : k < 20
  · have hc : k = 0 ∨ k = 1 ∨ k = 2 ∨ k = 3 ∨ k = 4 ∨ k = 5 ∨ k = 6 ∨ k = 7 ∨ k = 8 ∨ k = 9 ∨ k = 10 ∨ k = 11 ∨ k = 12 ∨ k = 13 ∨ k = 14 ∨ k = 15 ∨ k = 16 ∨ k = 17 ∨ k = 18 ∨ k = 19 := by omega
    rcases hc with rfl | rfl | rfl | rfl | rfl | rfl | rfl | rfl | rfl | rfl | rfl | rfl | rfl | rfl | rfl | rfl | rfl | rfl | rfl | rfl <;> rfl
  · unfold TT8
    rw [if_neg (show ¬ k = 19 by omega), if_neg (show ¬ k = 18 by omega), if_neg (show ¬ k = 17 by omega), if_neg (show ¬ k = 12 by omega), if_neg (show ¬ k = 11 by omega), if_neg (show ¬ k = 14 by omega), if_neg (show ¬ k = 13 by omega), if_neg (show ¬ k = 16 by omega), if_neg (show ¬ k = 15 by omega), if_neg (show ¬ k = 5 by omega), if_neg (show ¬ k = 10 by omega), if_neg (show ¬ k = 9 by omega), if_neg (show ¬ k = 8 by omega), if_neg (show ¬ k = 7 by omega), if_neg (show ¬ k = 6 by omega), if_neg (show ¬ k = 4 by omega), if_neg (by omega), if_neg (by omega), if_neg (by omega), if_neg (by omega), if_neg (by omega), if_neg (by omega)]
end Go.Proofs.YtdenddknbmiboaaDoor.Lex.Typ
namespace Go.Proofs.YtdenddknbmiboaaDoor.Lex.Typ
open Go.ChangeShapes Go.WideShapes Go.ChangeAt Go.RowKit Go.Joins
/-- The type of a name, if it is one of values. -/
def tyN (p : Pg) (nm : ByteArray) : Nat := match findT (thingsL p) nm with
  | some x => if x.2.ty = 1 ∨ x.2.ty = 2 then x.2.ty else 0
  | none => 0
set_option maxRecDepth 100000 in
theorem type_name (p : Pg) (nm : ByteArray) (w : World) (a b c : Value) (hP : PgAt w p a b c) : Calls Tryd.prog 77 #[pgV p a b c, .string nm] w fun e w' => e = .returned (.int .u8 (tyN p nm : Int)) ∧ Below w.heap.size w w' := by
  have B0 := hid ((Below.refl w.heap.size w).alloc (Nat.le_refl _) (.cells (pgC p a b c) 46))
  have c21 := find p nm _ _ _ _ (hP.keep B0.out)
  clear hP
  obtain ⟨v1, v2, v3, v4, hfo, hty⟩ : ∃ (v1 : Int) (v2 : Nat) (v3 : Int) (v4 : Bool), foV (findT (thingsL p) nm) = #[.int .i64 v1, .int .u8 (v2 : Int), .int .i64 v3, .bool v4] ∧ tyN p nm = if v2 = 1 ∨ v2 = 2 then v2 else 0 := by
    unfold tyN
    cases findT (thingsL p) nm with
    | none => exact ⟨0, 0, 0, false, rfl, rfl⟩
    | some x => exact ⟨x.2.st, x.2.ty, x.1, true, rfl, rfl⟩
  rw [hfo] at c21
  by_cases h1 : v2 = 1
  · have HV : Hid (tyN p nm = v2) := hid (by rw [hty, if_pos (.inl h1)])
    have e1 : ((v2 : Int) != 1) = false := by rw [bne_eq_false_iff_eq]; omega
    clear hfo hty h1
    go_enter Tryd.func77, Tryd.ntmps77
    go_wp2_with (fail)
    refine c21.mono ?_
    rintro e w2 ⟨rfl, hb2⟩
    have hB := hid (bstep B0.out hb2)
    go_wp2_with (fail)
    go_ret
    exact ⟨by rw [HV.out]; rfl, hB.out⟩
  · have e1 : ((v2 : Int) != 1) = true := by simp; omega
    by_cases h2 : v2 = 2
    · have HV : Hid (tyN p nm = v2) := hid (by rw [hty, if_pos (.inr h2)])
      have e2 : ((v2 : Int) != 2) = false := by rw [bne_eq_false_iff_eq]; omega
      clear hfo hty h1 h2
      go_enter Tryd.func77, Tryd.ntmps77
      go_wp2_with (fail)
      refine c21.mono ?_
      rintro e w2 ⟨rfl, hb2⟩
      have hB := hid (bstep B0.out hb2)
      go_wp2_with (fail)
      go_ret
      exact ⟨by rw [HV.out]; rfl, hB.out⟩
    · have HV : Hid (tyN p nm = 0) := hid (by rw [hty, if_neg (by omega)])
      have e2 : ((v2 : Int) != 2) = true := by simp; omega
      clear hfo hty h1 h2
      go_enter Tryd.func77, Tryd.ntmps77
      go_wp2_with (fail)
      refine c21.mono ?_
      rintro e w2 ⟨rfl, hb2⟩
      have hB := hid (bstep B0.out hb2)
      go_wp2_with (fail)
      go_ret
      exact ⟨by rw [HV.out]; rfl, hB.out⟩
end Go.Proofs.YtdenddknbmiboaaDoor.Lex.Typ
namespace Go.Proofs.YtdenddknbmiboaaDoor.Lex.Typ
open Go.ChangeShapes Go.WideShapes Go.ChangeAt Go.RowKit Go.Joins
/-- By the rule of its operator. -/
def ruleT (op : Nat) (ts : List Nat) : Nat :=
  if op = 4 ∨ op = 6 ∨ op = 7 ∨ op = 8 ∨ op = 9 ∨ op = 10 then (if com ts = 1 then 1 else 0)
  else if op = 5 ∨ op = 15 ∨ op = 16 then (if com ts = 2 then 2 else 0)
  else if op = 13 ∨ op = 14 then (if com ts = 1 then 2 else 0)
  else if op = 11 ∨ op = 12 then (if com ts = 0 then 0 else 2)
  else if op = 17 then (if ts.headD 0 = 2 then com (ts.drop 1) else 0)
  else com ts
/-- The type of what may be; 0: there is none. -/
def tyE (p : Pg) : Ex → Nat
  | ⟨op, _, nm, args⟩ => if op = 1 then 1 else if op = 2 then 2 else if op = 3 then tyN p nm else ruleT op (args.map (tyE p))
theorem tyE_eq (p : Pg) (x : Ex) : tyE p x = if x.op = 1 then 1 else if x.op = 2 then 2 else if x.op = 3 then tyN p x.name else ruleT x.op (x.args.map (tyE p)) := by
  obtain ⟨op, n, nm, args⟩ := x
  rw [tyE]
/-- Each part has its fields. -/
def okD : Nat → Ex → Prop
  | 0, _ => False
  | d + 1, x => fieldsOk x.op x.n x.name x.args.length = true ∧ ∀ y ∈ x.args, okD d y
theorem sz_ok : ∀ (d m : Nat) (x : Ex) (k : Nat), sz d m x = some k → okD d x
  | 0, m, x, k, h => by simp [sz] at h
  | d + 1, m, x, k, h => by
    unfold sz at h
    by_cases hm : m = 0 ∨ fieldsOk x.op x.n x.name x.args.length = false
    · rw [if_pos hm] at h; cases h
    · rw [if_neg hm] at h
      refine ⟨by cases e : fieldsOk x.op x.n x.name x.args.length with | true => rfl | false => exact (hm (.inr e)).elim, ?_⟩
      have key : ∀ (l : List Ex) (n k : Nat), szL (sz d) m n l = some k → ∀ y ∈ l, okD d y := by
        intro l
        induction l with
        | nil => intro n k _ y hy; cases hy
        | cons a l ih =>
          intro n k h y hy
          simp only [szL] at h
          cases hz : sz d (m - n) a with
          | none => rw [hz] at h; cases h
          | some j =>
            rw [hz] at h
            rcases List.mem_cons.1 hy with rfl | hy
            · exact sz_ok d _ _ j hz
            · exact ih _ _ h y hy
      exact key x.args 1 k h
theorem chk_ok {x : Ex} (h : chk x = true) : okD 32 x := by
  unfold chk at h
  obtain ⟨k, hk⟩ := Option.isSome_iff_exists.1 h
  exact sz_ok 32 200 x k hk
theorem jOf_le {op : Nat} (h : (jOf op).isSome = true) : 4 ≤ op ∧ op ≤ 19 ∧ op ≠ 17 ∧ op ≠ 4 ∧ op ≠ 5 ∧ op ≠ 19 := by
  unfold jOf at h
  rw [List.find?_isSome] at h
  obtain ⟨r, hr, he⟩ := h
  have key : ∀ r ∈ JT, 4 ≤ r.op ∧ r.op ≤ 19 ∧ r.op ≠ 17 ∧ r.op ≠ 4 ∧ r.op ≠ 5 ∧ r.op ≠ 19 := by decide
  rw [beq_iff_eq] at he
  rw [← he]
  exact key r hr
theorem ok_parts {x : Ex} (h : fieldsOk x.op x.n x.name x.args.length = true) (h1 : x.op ≠ 1) (h2 : x.op ≠ 2) (h3 : x.op ≠ 3) : 4 ≤ x.op ∧ x.op ≤ 19 ∧ 0 < x.args.length ∧ x.args.length ≤ 3 ∧ (x.op = 17 → x.args.length = 3) := by
  unfold fieldsOk at h
  rw [if_neg h1, if_neg h2, if_neg h3] at h
  simp only [Bool.and_eq_true, decide_eq_true_eq] at h
  obtain ⟨hp, _, _, hl⟩ := h
  unfold parts at hp hl
  by_cases ha : x.op = 4 ∨ x.op = 5 ∨ x.op = 19
  · rw [if_pos ha] at hl; omega
  · rw [if_neg ha] at hp hl
    by_cases hb : x.op = 17
    · rw [if_pos hb] at hl; omega
    · rw [if_neg hb] at hp hl
      by_cases hc : (jOf x.op).isSome = true
      · rw [if_pos hc] at hl
        have := jOf_le hc
        omega
      · rw [if_neg hc] at hp; omega
/-- The row of the parts' types, while it is made. -/
structure YL (w1 : World) (l : List Nat) (v : Value) (W : World) : Prop where
  below : Below w1.heap.size w1 W
  own : W.ownsRow w1.heap.size 27 1 v l.length (l.map fun (t : Nat) => Value.int .u8 (t : Int))
theorem own_carry8 {w W : World} {lo t c n : Nat} {v : Value} {xs : List Value} (h : w.ownsRow lo t c v n xs) (hb : ∀ b, lo ≤ b → b < w.heap.size → W.heap[b]? = w.heap[b]?) : W.ownsRow lo t c v n xs := by
  refine ⟨h.1, h.2.imp_right ?_⟩
  rintro ⟨g, cap, cur, e, h1, h2, rest⟩
  exact ⟨g, cap, cur, e, h1, (hb g h1 (Array.getElem?_eq_some_iff.1 h2).1).trans h2, rest⟩
theorem YL.start (w1 : World) : YL w1 [] (.slice none 0 0) w1 := ⟨Below.refl _ _, rfl, .inl ⟨rfl, rfl⟩⟩
theorem YL.keep {w1 W W' : World} {l : List Nat} {v : Value} (h : YL w1 l v W) (hb : Below W.heap.size W W') : YL w1 l v W' := ⟨h.below.trans (hb.mono h.below.size), own_carry8 h.own (fun b _ hlt => hb.block b hlt)⟩
theorem YL.grow {w1 W W' : World} {l : List Nat} {v v' : Value} {t : Nat} (h : YL w1 l v W) (hown : W'.ownsRow w1.heap.size 27 1 v' (l.length + 1) ((l.map fun (t : Nat) => Value.int .u8 (t : Int)) ++ [.int .u8 (t : Int)])) (hg : W.grownBy W' v.ownBlock) : YL w1 (l ++ [t]) v' W' where
  below := h.below.grown hg h.below.size (fun j hj => by
    rcases h.own.2 with ⟨e, _⟩ | ⟨g, cap, cur, e, h1, _⟩
    · rw [e] at hj; cases hj
    · rw [e] at hj; have hj' : g = j := by injection hj
      omega)
  own := by
    have e1 : (l ++ [t]).length = l.length + 1 := by simp
    rw [e1, List.map_append]
    exact hown
theorem YL.at {w1 W : World} {l : List Nat} {v : Value} (h : YL w1 l v W) (h0 : 0 < l.length) : ∃ g cap, v = .slice (some ⟨g, 0, none⟩) l.length cap ∧ l.length ≤ cap ∧ TyAt W g 0 l := by
  have hown := h.own
  rcases hown.2 with ⟨e, e0⟩ | ⟨g, cap, cur, e, _, _, hc, _⟩
  · omega
  · refine ⟨g, cap, e, hc, fun i hi => ?_⟩
    subst e
    rw [Nat.zero_add, hown.cellAt i (by omega), List.getElem?_map, List.getElem?_eq_getElem hi]
    rfl
theorem inf35 : (Tryd.prog.info? 27).map (fun i => (i.zero, i.size, i.bytes)) = some (some (.int .u8 0), 1, 1) := by kernel_rfl
def TyC (p : Pg) (x : Ex) : Prop := ∀ (w : World) (s A B C : Value) (n b : Nat), PgAt w p A B C → Asks w n b → St w x s → Calls Tryd.prog 56 #[pgV p A B C, .map (some b), exV x s] w fun e w' => e = .returned (.int .u8 (tyE p x : Int)) ∧ Below w.heap.size w w'
set_option maxRecDepth 100000 in
set_option maxHeartbeats 4000000 in
theorem type_of_ (p : Pg) (d : Nat) (ih : ∀ x, okD d x → TyC p x) (x : Ex) (hx : okD (d + 1) x) : TyC p x := by
  intro w s A B C n b hP hA hS
  obtain ⟨ao, cap, sl, rfl, hop, hn, hnm, hlen, _, hc, hs⟩ := hS.out
  have HS := hid hs
  have HC := hid hc
  have HI := hid (fun i (hi : i < x.args.length) => ih x.args[i] (hx.2 _ (List.getElem_mem hi)))
  have HF := hid hx.1
  have B1 := hid ((Below.refl w.heap.size w).alloc (Nat.le_refl _) (.cells (pgC p A B C) 46))
  have B2 := hid (bstep B1.out ((Below.refl _ _).alloc (Nat.le_refl _) (.cells #[.int .u8 (x.op : Int), .int .i64 x.n, .string x.name, .slice ao x.args.length cap] 70)))
  have P2 := hid (hP.keep B2.out)
  have A2 := hid (hA.keep B2.out)
  have HW := hid (And.intro hP (And.intro hA trivial))
  have RP := hid (show ((w.alloc (.cells (pgC p A B C) 46)).alloc (.cells #[.int .u8 (x.op : Int), .int .i64 x.n, .string x.name, .slice ao x.args.length cap] 70)).heap[w.heap.size]? = some (.cells (pgC p A B C) 46 (0, 0)) from (Below.heap_alloc _ _ _ (by simp)).trans (heap_alloc_new w _))
  have RX := hid (show ((w.alloc (.cells (pgC p A B C) 46)).alloc (.cells #[.int .u8 (x.op : Int), .int .i64 x.n, .string x.name, .slice ao x.args.length cap] 70)).heap[w.heap.size + 1]? = some (.cells #[.int .u8 (x.op : Int), .int .i64 x.n, .string x.name, .slice ao x.args.length cap] 70 (0, 0)) from by have := heap_alloc_new (w.alloc (.cells (pgC p A B C) 46)) (.cells #[.int .u8 (x.op : Int), .int .i64 x.n, .string x.name, .slice ao x.args.length cap] 70); rwa [show (w.alloc (.cells (pgC p A B C) 46)).heap.size = w.heap.size + 1 by simp] at this)
  obtain ⟨i0, hi, hz0, hz1, hz2⟩ := info_parts inf35
  clear hs hc ih hx hS hP hA
  by_cases h1 : x.op = 1
  · have e1 : ((x.op : Int) == 1) = true := by rw [beq_iff_eq]; omega
    have HV : Hid (tyE p x = 1) := hid (by rw [tyE_eq, if_pos h1])
    clear h1
    go_enter Tryd.func56, Tryd.ntmps56
    go_wp2_with (fail)
    go_ret
    exact ⟨by rw [HV.out]; rfl, B2.out⟩
  have e1 : ((x.op : Int) == 1) = false := by rw [beq_eq_false_iff_ne]; omega
  by_cases h2 : x.op = 2
  · have e2 : ((x.op : Int) == 2) = true := by rw [beq_iff_eq]; omega
    have HV : Hid (tyE p x = 2) := hid (by rw [tyE_eq, if_neg h1, if_pos h2])
    clear h1 h2
    go_enter Tryd.func56, Tryd.ntmps56
    go_wp2_with (fail)
    go_ret
    exact ⟨by rw [HV.out]; rfl, B2.out⟩
  have e2 : ((x.op : Int) == 2) = false := by rw [beq_eq_false_iff_ne]; omega
  by_cases h3 : x.op = 3
  · have e3 : ((x.op : Int) == 3) = true := by rw [beq_iff_eq]; omega
    have HV : Hid (tyE p x = tyN p x.name) := hid (by rw [tyE_eq, if_neg h1, if_neg h2, if_pos h3])
    have c58 := type_name p x.name _ _ _ _ P2.out
    clear h1 h2 h3
    go_enter Tryd.func56, Tryd.ntmps56
    go_wp2_with (fail)
    refine c58.mono ?_
    rintro e w3 ⟨rfl, hb3⟩
    have hB := hid (bstep B2.out hb3)
    go_wp2_with (fail)
    go_ret
    exact ⟨by rw [HV.out]; rfl, hB.out⟩
  have e3 : ((x.op : Int) == 3) = false := by rw [beq_eq_false_iff_ne]; omega
  have HOK := hid (ok_parts HF.out h1 h2 h3)
  go_enter Tryd.func56, Tryd.ntmps56
  go_wp2_with (fail)
  generalize ((w.alloc (.cells (pgC p A B C) 46)).alloc (.cells #[.int .u8 (x.op : Int), .int .i64 x.n, .string x.name, .slice ao x.args.length cap] 70)) = W2 at *
  go_loopw [7, 25] (fun v i wr => ∃ k : Nat, k ≤ x.args.length ∧ i = .int .i64 (k : Int) ∧ Hid (YL W2 ((x.args.take k).map (tyE p)) v wr)) (fun _ i _ => x.args.length - (intOf i).toNat)
  case atStart => exact ⟨0, Nat.zero_le _, rfl, hid (by simpa using YL.start W2)⟩
  case round =>
    obtain ⟨k, hk, rfl, HY⟩ := hrel
    have HBW := hid (bstep B2.out HY.out.below)
    have RPk := hid ((HY.out.below.block _ (Array.getElem?_eq_some_iff.1 RP.out).1).trans RP.out)
    have RXk := hid ((HY.out.below.block _ (Array.getElem?_eq_some_iff.1 RX.out).1).trans RX.out)
    have r0 := (cell_of_row wr w.heap.size 0 _ 46 (0, 0) RPk.out).trans (show _ = some (.int .i64 p.st) from rfl)
    have r1 := (cell_of_row wr w.heap.size 1 _ 46 (0, 0) RPk.out).trans (show _ = some A from rfl)
    have r2 := (cell_of_row wr w.heap.size 2 _ 46 (0, 0) RPk.out).trans (show _ = some B from rfl)
    have r3 := (cell_of_row wr w.heap.size 3 _ 46 (0, 0) RPk.out).trans (show _ = some C from rfl)
    have q0 := (cell_of_row wr (w.heap.size + 1) 0 _ 70 (0, 0) RXk.out).trans (show _ = some (.int .u8 (x.op : Int)) from rfl)
    have q3 := (cell_of_row wr (w.heap.size + 1) 3 _ 70 (0, 0) RXk.out).trans (show _ = some (.slice ao x.args.length cap) from rfl)
    by_cases hlt : k < x.args.length
    · have hlt' : (k : Int) < (x.args.length : Int) := by omega
      have hk0 : (0 : Int) ≤ (k : Int) := by omega
      obtain ⟨bb, o, rfl, hc⟩ := HC.out.resolve_left (by omega)
      obtain ⟨g0, g1, g2, g3⟩ := hc k hlt
      have y0 := cell_kept g0 HBW.out
      have y1 := cell_kept g1 HBW.out
      have y2 := cell_kept g2 HBW.out
      have y3 := cell_kept g3 HBW.out
      obtain ⟨a4, c4, _, e4, _⟩ := (HS.out k hlt).out
      rw [e4] at y3
      have HT : Hid ((x.args.take (k + 1)).map (tyE p) = (x.args.take k).map (tyE p) ++ [tyE p x.args[k]]) := hid (by rw [List.take_succ_eq_append_getElem hlt, List.map_append]; rfl)
      have hll : ((x.args.take k).map (tyE p)).length ≤ 3 := by have := HOK.out; simp; omega
      have HST := hid (e4 ▸ HS.out k hlt)
      have HIK := hid (HI.out k hlt)
      clear g0 g1 g2 g3 hc e4
      generalize x.args[k] = y at *
      have BA := hid ((Below.refl wr.heap.size wr).alloc (Nat.le_refl _) (.cells #[.int .u8 (y.op : Int), .int .i64 y.n, .string y.name, .slice a4 y.args.length c4] 70))
      have HBA := hid (bstep HBW.out BA.out)
      have c31 := HIK.out _ _ A B C n b (HW.out.1.keep HBA.out) (HW.out.2.1.keep HBA.out) (HST.out.keep HBA.out)
      have s0 := cell_kept r0 BA.out
      have s1 := cell_kept r1 BA.out
      have s2 := cell_kept r2 BA.out
      have s3 := cell_kept r3 BA.out
      generalize tyE p y = ty at *
      go_wp2_with (fail)
      refine c31.mono ?_
      rintro e w3 ⟨rfl, hb3⟩
      have Y3 := hid (HY.out.keep (bstep BA.out hb3))
      generalize (x.args.take k).map (tyE p) = ll at *
      have N2 := hid (Y3.out.keep ((Below.refl _ _).alloc (Nat.le_refl _) (.cells #[.int .u8 (ty : Int)] 27)))
      have W5 := hid (next_cells w3 [.int .u8 (ty : Int)] 27)
      have hmx : ll.length + 1 ≤ maxLen := by unfold maxLen; omega
      go_wp2_with (at_builtin; refine wpList_append_own _ rfl (.tmp 29) (.tmp 34) 60 rfl W2.heap.size 27 i0 _ 1 1 Tryd.underlying60 hi hz0 hz1 hz2 rfl (by decide) _ _ _ rfl N2.out.own ⟨w3.heap.size, 0, none⟩ 1 1 [.int .u8 (ty : Int)] rfl rfl W5.out (by simp [Value.oneCell']) hmx (by omega) N2.out.below.size ?_; intro v' w' hown1 hgrow1 _; have N3 := hid (N2.out.grow hown1 hgrow1); clear hown1 hgrow1)
      go_roundw
      case rel => exact ⟨k + 1, by omega, by go_num, hid (by rw [HT.out]; exact N3.out)⟩
      case measure => simp [intOf]; omega
    · have hlt' : ¬ (k : Int) < (x.args.length : Int) := by omega
      obtain rfl : k = x.args.length := by omega
      have HTS : Hid (x.args.map (tyE p) = (x.args.take x.args.length).map (tyE p)) := hid (by rw [List.take_length])
      have HTL : Hid (((x.args.take x.args.length).map (tyE p)).length = x.args.length) := hid (by simp)
      have HL0 : Hid (0 < ((x.args.take x.args.length).map (tyE p)).length) := hid (by have := HOK.out; rw [HTL.out]; omega)
      have HL3 : Hid (((x.args.take x.args.length).map (tyE p)).length ≤ 3) := hid (by have := HOK.out; rw [HTL.out]; omega)
      obtain ⟨g, gc, rfl, hgc, hty⟩ := HY.out.at HL0.out
      have HTY := hid hty
      have HGC := hid hgc
      have AK := hid (HW.out.2.1.keep HBW.out)
      obtain ⟨mm, hmap⟩ := AK.out.map
      obtain ⟨fv, fps, hrun, hfr⟩ := hmap.look hop
      clear hmap hty hgc HY hk hlt
      generalize (x.args.take x.args.length).map (tyE p) = ts at *
      by_cases hk0 : x.op = 4 ∨ x.op = 6 ∨ x.op = 7 ∨ x.op = 8 ∨ x.op = 9 ∨ x.op = 10
      · have HT8 : TT8 n x.op = fxD ⟨89, n, n + 1⟩ := by unfold TT8; rw [if_pos hk0]
        have HV : Hid (tyE p x = (if com ts = 1 then 1 else 0 : Nat)) := hid (by rw [tyE_eq, if_neg h1, if_neg h2, if_neg h3, HTS.out]; unfold ruleT; rw [if_pos hk0])
        rw [HT8] at hfr
        obtain rfl := fR_invx hfr
        have c := rule0 1 1 n (n + 1) _ g 0 gc _ AK.out.p1 AK.out.o1 HTY.out HL0.out (by have := HL3.out; omega)
        generalize (if com ts = 1 then 1 else 0 : Nat) = tv at c HV
        clear hfr HT8 hk0 h1 h2 h3 
        go_wp2_with (fail)
        refine c.mono ?_
        rintro e w3 ⟨rfl, hb3⟩
        have hB := bstep HBW.out hb3
        go_wp2_with (fail)
        go_ret
        exact ⟨by rw [HV.out]; rfl, hB⟩
      by_cases hk1 : x.op = 5 ∨ x.op = 15 ∨ x.op = 16
      · have HT8 : TT8 n x.op = fxD ⟨89, n + 1 + 1, n + 1 + 1 + 1⟩ := by unfold TT8; rw [if_neg hk0, if_pos hk1]
        have HV : Hid (tyE p x = (if com ts = 2 then 2 else 0 : Nat)) := hid (by rw [tyE_eq, if_neg h1, if_neg h2, if_neg h3, HTS.out]; unfold ruleT; rw [if_neg hk0, if_pos hk1])
        rw [HT8] at hfr
        obtain rfl := fR_invx hfr
        have c := rule0 2 2 (n + 1 + 1) (n + 1 + 1 + 1) _ g 0 gc _ AK.out.p2 AK.out.o2 HTY.out HL0.out (by have := HL3.out; omega)
        generalize (if com ts = 2 then 2 else 0 : Nat) = tv at c HV
        clear hfr HT8 hk1 h1 h2 h3 hk0
        go_wp2_with (fail)
        refine c.mono ?_
        rintro e w3 ⟨rfl, hb3⟩
        have hB := bstep HBW.out hb3
        go_wp2_with (fail)
        go_ret
        exact ⟨by rw [HV.out]; rfl, hB⟩
      by_cases hk2 : x.op = 13 ∨ x.op = 14
      · have HT8 : TT8 n x.op = fxD ⟨89, n + 1 + 1 + 1 + 1, n + 1 + 1 + 1 + 1 + 1⟩ := by unfold TT8; rw [if_neg hk0, if_neg hk1, if_pos hk2]
        have HV : Hid (tyE p x = (if com ts = 1 then 2 else 0 : Nat)) := hid (by rw [tyE_eq, if_neg h1, if_neg h2, if_neg h3, HTS.out]; unfold ruleT; rw [if_neg hk0, if_neg hk1, if_pos hk2])
        rw [HT8] at hfr
        obtain rfl := fR_invx hfr
        have c := rule0 1 2 (n + 1 + 1 + 1 + 1) (n + 1 + 1 + 1 + 1 + 1) _ g 0 gc _ AK.out.p3 AK.out.o3 HTY.out HL0.out (by have := HL3.out; omega)
        generalize (if com ts = 1 then 2 else 0 : Nat) = tv at c HV
        clear hfr HT8 hk2 h1 h2 h3 hk0 hk1
        go_wp2_with (fail)
        refine c.mono ?_
        rintro e w3 ⟨rfl, hb3⟩
        have hB := bstep HBW.out hb3
        go_wp2_with (fail)
        go_ret
        exact ⟨by rw [HV.out]; rfl, hB⟩
      by_cases hk3 : x.op = 11 ∨ x.op = 12
      · have HT8 : TT8 n x.op = fyD 74 := by unfold TT8; rw [if_neg hk0, if_neg hk1, if_neg hk2, if_pos hk3]
        have HV : Hid (tyE p x = (if com ts = 0 then 0 else 2 : Nat)) := hid (by rw [tyE_eq, if_neg h1, if_neg h2, if_neg h3, HTS.out]; unfold ruleT; rw [if_neg hk0, if_neg hk1, if_neg hk2, if_pos hk3])
        rw [HT8] at hfr
        obtain rfl := fR_invy hfr
        have c := rule1 _ g 0 gc _ HTY.out HL0.out (by have := HL3.out; omega)
        generalize (if com ts = 0 then 0 else 2 : Nat) = tv at c HV
        clear hfr HT8 hk3 h1 h2 h3 hk0 hk1 hk2
        go_wp2_with (fail)
        refine c.mono ?_
        rintro e w3 ⟨rfl, rfl⟩
        have hB := HBW.out
        go_wp2_with (fail)
        go_ret
        exact ⟨by rw [HV.out]; rfl, hB⟩
      by_cases hk4 : x.op = 17
      · have HT8 : TT8 n x.op = fyD 76 := by unfold TT8; rw [if_neg hk0, if_neg hk1, if_neg hk2, if_neg hk3, if_pos hk4]
        have hl3 := HOK.out.2.2.2.2 hk4
        have HV0 : Hid (tyE p x = (if ts.headD 0 = 2 then com (ts.drop 1) else 0 : Nat)) := hid (by rw [tyE_eq, if_neg h1, if_neg h2, if_neg h3, HTS.out]; unfold ruleT; rw [if_neg hk0, if_neg hk1, if_neg hk2, if_neg hk3, if_pos hk4])
        rw [HT8] at hfr
        obtain rfl := fR_invy hfr
        obtain ⟨t0, l, rfl⟩ : ∃ t0 l, ts = t0 :: l := by cases ts with | nil => exact absurd HL0.out (by simp) | cons a l => exact ⟨a, l, rfl⟩
        have hll : l.length = 2 := by have h := HTL.out; rw [hl3] at h; simp at h; omega
        have HV : Hid (tyE p x = (if t0 = 2 then com l else 0 : Nat)) := hid HV0.out
        have c := rule2 t0 l g 0 gc _ HTY.out (by omega) (by omega) (by have := HGC.out; simp at this; omega)
        generalize (if t0 = 2 then com l else 0 : Nat) = tv at c HV
        rw [show (t0 :: l).length = 3 by simp [hll]] at c
        clear hfr HT8 hk4 h1 h2 h3 hl3 HV0 hk0 hk1 hk2 hk3
        go_wp2_with (fail)
        refine c.mono ?_
        rintro e w3 ⟨rfl, rfl⟩
        have hB := HBW.out
        go_wp2_with (fail)
        go_ret
        exact ⟨by rw [HV.out]; rfl, hB⟩
      have HT8 : TT8 n x.op = fyD 75 := by unfold TT8; rw [if_neg hk0, if_neg hk1, if_neg hk2, if_neg hk3, if_neg hk4, if_pos (by have := HOK.out; omega)]
      have HV : Hid (tyE p x = com ts) := hid (by rw [tyE_eq, if_neg h1, if_neg h2, if_neg h3, HTS.out]; unfold ruleT; rw [if_neg hk0, if_neg hk1, if_neg hk2, if_neg hk3, if_neg hk4])
      rw [HT8] at hfr
      obtain rfl := fR_invy hfr
      have c := common _ g 0 gc _ HTY.out HL0.out (by have := HL3.out; omega)
      clear hfr HT8 h1 h2 h3 hk0 hk1 hk2 hk3 hk4
      go_wp2_with (fail)
      refine c.mono ?_
      rintro e w3 ⟨rfl, rfl⟩
      have hB := HBW.out
      go_wp2_with (fail)
      go_ret
      exact ⟨by rw [HV.out]; rfl, hB⟩
theorem type_any (p : Pg) : ∀ (d : Nat) (x : Ex), okD d x → TyC p x
  | 0, _, h => h.elim
  | d + 1, x, h => type_of_ p d (fun y hy => type_any p d y hy) x h
/-- typeOf of what may be. -/
theorem type_of (p : Pg) (x : Ex) (h : chk x = true) : TyC p x := type_any p 32 x (chk_ok h)
end Go.Proofs.YtdenddknbmiboaaDoor.Lex.Typ
namespace Go.Proofs.YtdenddknbmiboaaDoor.Lex.Typ
open Go.ChangeShapes Go.WideShapes Go.ChangeAt Go.RowKit Go.Joins
def fitT (v : Int) (t : Nat) : Bool := !decide (t = 2) || decide (v = 0) || decide (v = 1)
set_option maxRecDepth 100000 in
set_option maxHeartbeats 1000000 in
theorem fits_t (v : Int) (t : Nat) (w : World) :
    Calls Tryd.prog 57 #[.int .i64 v, .int .u8 (t : Int)] w fun e w' => e = .returned (.bool (fitT v t)) ∧ Below w.heap.size w w' := by
  have B0 := Below.refl w.heap.size w
  by_cases ht : t = 2
  · have ht' : (t : Int) = 2 := by omega
    by_cases h0 : v = 0
    · go_enter Tryd.func57, Tryd.ntmps57
      go_wp2_with (fail)
      go_ret
      refine ⟨?_, B0⟩
      simp [fitT, ht, h0]
    · go_enter Tryd.func57, Tryd.ntmps57
      go_wp2_with (fail)
      go_ret
      refine ⟨?_, B0⟩
      by_cases h1 : v = 1 <;> simp [fitT, ht, h0, h1]
  · have ht' : ¬ (t : Int) = 2 := by omega
    go_enter Tryd.func57, Tryd.ntmps57
    go_wp2_with (fail)
    go_ret
    refine ⟨?_, B0⟩
    simp [fitT, ht]
end Go.Proofs.YtdenddknbmiboaaDoor.Lex.Typ
namespace Go.Proofs.YtdenddknbmiboaaDoor.Lex.Typ
open Go.ChangeShapes Go.WideShapes Go.ChangeAt Go.RowKit Go.Joins
/-- Is a flow of its type, and its default? -/
def flT (p : Pg) (f : Fl) : Bool := decide (tyE p f.body = f.ty) && fitT f.df f.ty
/-- What types.Check answers. -/
def ckV (p : Pg) : Int := if nmErr p = 0 then (if p.flows.all (flT p) then 0 else 7) else nmErr p
theorem nmErr_ok {p : Pg} (h : nmErr p = 0) : pgOk p = true := by
  unfold nmErr at h
  by_cases hp : pgOk p = true
  · exact hp
  · rw [if_neg hp] at h; omega
set_option maxRecDepth 100000 in
set_option maxHeartbeats 4000000 in
theorem types_check (p : Pg) (w : World) (A B C : Value) (hP : PgAt w p A B C) (hR : TabR w) (hJ : TabJ w) : Calls Tryd.prog 32 #[pgV p A B C] w fun e w' => e = .returned (.int .i64 (ckV p)) ∧ Below w.heap.size w w' := by
  have X0 := hid (FV.new hP hR hJ)
  obtain ⟨ao, cap, sl0, rfl, _⟩ := hP.flows
  clear hP hR hJ
  go_enter Tryd.func32, Tryd.ntmps32
  go_wp2_with (fail)
  refine ((callsIn_wide (n := 20)).1 (names_check p _ _ _ _ X0.out.P X0.out.R X0.out.J)).mono ?_
  rintro e w1 ⟨rfl, hb1⟩
  have X1 := hid (X0.out.keep hb1)
  clear hb1 X0
  by_cases hn : nmErr p = 0
  · have HK := hid (pgOk_chk (nmErr_ok hn))
    have HOV : Hid (ckV p = if p.flows.all (flT p) then 0 else 7) := hid (by unfold ckV; rw [if_pos hn])
    rw [hn]
    clear hn
    go_wp2_with (fail)
    refine (rules _).mono ?_
    rintro e w2 ⟨ab, rfl, hasks, hb2⟩
    have X2 := hid (X1.out.keep hb2)
    have AS := hid hasks
    generalize w1.heap.size = an at AS
    obtain ⟨s0, s1, s2, s3⟩ := row4 X2.out.row
    clear hb2 hasks X1
    go_wp2_with (fail)
    clear s0 s1 s2 s3
    obtain ⟨ao', cap', sl, heq, hlen, _, hok, hc, hs⟩ := X2.out.P.flows
    obtain ⟨rfl, rfl⟩ : ao = ao' ∧ cap = cap' := by simpa using heq
    have HC := hid hc
    have HS := hid hs
    clear hc hs hok heq
    go_loopw [16] (fun i wr => ∃ r : Nat, r ≤ p.flows.length ∧ i = .int .i64 (r : Int) ∧ Hid (∀ z ∈ p.flows.take r, flT p z = true) ∧ Hid (Below w2.heap.size w2 wr)) (fun i _ => p.flows.length - (intOf i).toNat)
    case atStart => exact ⟨0, Nat.zero_le _, rfl, hid (by simp), hid (Below.refl _ _)⟩
    case round =>
      obtain ⟨r, hr, rfl, HE, hB⟩ := hrel
      have FX := hid (X2.out.keep hB.out)
      by_cases hrl : r < p.flows.length
      · have hrl' : (r : Int) < (p.flows.length : Int) := by omega
        have hr0 : (0 : Int) ≤ (r : Int) := by omega
        obtain ⟨gb, go, rfl, hcc⟩ := HC.out.resolve_left (by omega)
        obtain ⟨y0, y1, y2, y3, y4, y5, y6, y7⟩ := (hcc r hrl).keep hB.out
        have HTK := hid (List.take_succ_eq_append_getElem hrl)
        have HMG := hid (List.getElem_mem hrl)
        have HST := hid ((HS.out r hrl).keep hB.out)
        clear hcc
        generalize sl r = sv at *
        generalize hy : p.flows[r] = y at *
        clear hy
        obtain ⟨sa, sc, _, rfl, _⟩ := HST.out.out
        have BA := hid ((Below.refl wr.heap.size wr).alloc (Nat.le_refl _) (.cells #[.string y.name, .int .u8 (y.ty : Int), .int .i64 y.st, .int .i64 y.df, .int .u8 (y.body.op : Int), .int .i64 y.body.n, .string y.body.name, .slice sa y.body.args.length sc] 76))
        have FA := hid (FX.out.keep BA.out)
        have bx := fun j v => box_at wr #[.string y.name, .int .u8 (y.ty : Int), .int .i64 y.st, .int .i64 y.df, .int .u8 (y.body.op : Int), .int .i64 y.body.n, .string y.body.name, .slice sa y.body.args.length sc] 76 j v
        have q0 := bx 0 _ rfl
        have q1 := bx 1 _ rfl
        have q2 := bx 2 _ rfl
        have q3 := bx 3 _ rfl
        have q4 := bx 4 _ rfl
        have q5 := bx 5 _ rfl
        have q6 := bx 6 _ rfl
        have q7 := bx 7 _ rfl
        clear bx
        obtain ⟨s0, s1, s2, s3⟩ := row4 FA.out.row
        have c31 := type_of p y.body (HK.out y HMG.out) _ _ _ _ _ an ab (FA.out.P.keep (Below.refl _ _).drew) ((AS.out.keep (hB.out.trans (BA.out.mono hB.out.size))).keep (Below.refl _ _).drew) ((HST.out.keep BA.out).keep (Below.refl _ _).drew)
        by_cases ht : tyE p y.body = y.ty
        · rw [ht] at c31
          have HTB : Hid (((y.ty : Int) != (y.ty : Int)) = false) := hid (by simp)
          go_wp2_with (fail)
          refine wp_region_held_drew (S := fun W => W.cell? ⟨w.heap.size, 0, none⟩ = some (.int .i64 p.st) ∧ W.cell? ⟨w.heap.size, 1, none⟩ = some (A) ∧ W.cell? ⟨w.heap.size, 2, none⟩ = some ((.slice (some ⟨gb, go, none⟩) p.flows.length cap)) ∧ W.cell? ⟨w.heap.size, 3, none⟩ = some (C) ∧ W.cell? ⟨wr.heap.size, 0, none⟩ = some (.string y.name) ∧ W.cell? ⟨wr.heap.size, 1, none⟩ = some (.int .u8 (y.ty : Int)) ∧ W.cell? ⟨wr.heap.size, 2, none⟩ = some (.int .i64 y.st) ∧ W.cell? ⟨wr.heap.size, 3, none⟩ = some (.int .i64 y.df) ∧ W.cell? ⟨wr.heap.size, 4, none⟩ = some (.int .u8 (y.body.op : Int)) ∧ W.cell? ⟨wr.heap.size, 5, none⟩ = some (.int .i64 y.body.n) ∧ W.cell? ⟨wr.heap.size, 6, none⟩ = some (.string y.body.name) ∧ W.cell? ⟨wr.heap.size, 7, none⟩ = some (.slice sa y.body.args.length sc)) (by kernel_rfl) ?_ (fun hHeld => ?_)
          · exact ⟨s0, s1, s2, s3, q0, q1, q2, q3, q4, q5, q6, q7⟩
          refine wpAnyH_take (i := 0) (oi := { dst := some 20, op := Go.Op.load 46 (Go.Operand.tmp 1), type := 46, pos := _, after := #[], guard := none }) (v := ?_) rfl (by kernel_rfl) (by kernel_rfl) (by kernel_rfl) (fun _ _ _ h => h) (Or.inl ⟨by rfl, ?_⟩) (by assumption) ?_
          rotate_left
          · intro w hSw; (try dsimp only at hSw); go_simp <;> first | with_reducible rfl | (rw [if_neg (by first | omega | (simp only [ByteArray.size_append] at *; omega))])
          simp only [Act.put, List.setIfInBounds_toArray, List.set_cons_zero, List.set_cons_succ]
          refine wpAnyH_take (i := 1) (oi := { dst := some 21, op := Go.Op.move (Go.Operand.tmp 4), type := 121, pos := _, after := #[], guard := none }) (v := ?_) rfl (by kernel_rfl) (by kernel_rfl) (by kernel_rfl) (fun _ _ _ h => h) (Or.inl ⟨by rfl, ?_⟩) (by assumption) ?_
          rotate_left
          · intro w hSw; (try dsimp only at hSw); go_simp <;> first | with_reducible rfl | (rw [if_neg (by first | omega | (simp only [ByteArray.size_append] at *; omega))])
          simp only [Act.put, List.setIfInBounds_toArray, List.set_cons_zero, List.set_cons_succ]
          refine wpAnyH_take (i := 2) (oi := { dst := some 22, op := Go.Op.fieldAddr 76 (Go.Operand.tmp 6) 4, type := 0, pos := _, after := #[], guard := none }) (v := ?_) rfl (by kernel_rfl) (by kernel_rfl) (by kernel_rfl) (fun _ _ _ h => h) (Or.inl ⟨by rfl, ?_⟩) (by assumption) ?_
          rotate_left
          · intro w hSw; (try dsimp only at hSw); go_simp <;> first | with_reducible rfl | (rw [if_neg (by first | omega | (simp only [ByteArray.size_append] at *; omega))])
          simp only [Act.put, List.setIfInBounds_toArray, List.set_cons_zero, List.set_cons_succ]
          refine wpAnyH_take (i := 3) (oi := { dst := some 23, op := Go.Op.load 70 (Go.Operand.tmp 22), type := 70, pos := _, after := #[{ on := 2, ground := Go.Ground.data }], guard := none }) (v := ?_) rfl (by kernel_rfl) (by kernel_rfl) (by kernel_rfl) (fun _ _ _ h => h) (Or.inl ⟨by rfl, ?_⟩) (by assumption) ?_
          rotate_left
          · intro w hSw; (try dsimp only at hSw); go_simp <;> first | with_reducible rfl | (rw [if_neg (by first | omega | (simp only [ByteArray.size_append] at *; omega))])
          simp only [Act.put, List.setIfInBounds_toArray, List.set_cons_zero, List.set_cons_succ]
          refine wpAnyH_take (i := 5) (oi := { dst := some 25, op := Go.Op.fieldAddr 76 (Go.Operand.tmp 6) 1, type := 0, pos := _, after := #[], guard := none }) (v := ?_) rfl (by kernel_rfl) (by kernel_rfl) (by kernel_rfl) (fun _ _ _ h => h) (Or.inl ⟨by rfl, ?_⟩) (by assumption) ?_
          rotate_left
          · intro w hSw; (try dsimp only at hSw); go_simp <;> first | with_reducible rfl | (rw [if_neg (by first | omega | (simp only [ByteArray.size_append] at *; omega))])
          simp only [Act.put, List.setIfInBounds_toArray, List.set_cons_zero, List.set_cons_succ]
          refine wpAnyH_take (i := 6) (oi := { dst := some 26, op := Go.Op.load 27 (Go.Operand.tmp 25), type := 27, pos := _, after := #[{ on := 5, ground := Go.Ground.data }], guard := none }) (v := ?_) rfl (by kernel_rfl) (by kernel_rfl) (by kernel_rfl) (fun _ _ _ h => h) (Or.inl ⟨by rfl, ?_⟩) (by assumption) ?_
          rotate_left
          · intro w hSw; (try dsimp only at hSw); go_simp <;> first | with_reducible rfl | (rw [if_neg (by first | omega | (simp only [ByteArray.size_append] at *; omega))])
          simp only [Act.put, List.setIfInBounds_toArray, List.set_cons_zero, List.set_cons_succ]
          refine wpAnyH_ready (rs := [4]) (by kernel_rfl) (by simp) ?_
          refine AllReadyH.cons (o := { dst := some 24, op := Go.Op.call { callee := Go.Callee.value (Go.Operand.func 56), args := #[Go.Operand.tmp 20, Go.Operand.tmp 21, Go.Operand.tmp 23], argTypes := #[46, 121, 70] }, type := 27, pos := _, after := #[{ on := 0, ground := Go.Ground.data }, { on := 1, ground := Go.Ground.data }, { on := 3, ground := Go.Ground.data }], guard := none }) rfl (fun K hK => ?_) AllReadyH.nil
          go_simp
          refine c31.mono ?_
          rintro e v1 ⟨rfl, hb1⟩
          have HG1 : Hid (Below (wr.alloc (.cells #[.string y.name, .int .u8 (y.ty : Int), .int .i64 y.st, .int .i64 y.df, .int .u8 (y.body.op : Int), .int .i64 y.body.n, .string y.body.name, .slice sa y.body.args.length sc] 76)).heap.size (wr.alloc (.cells #[.string y.name, .int .u8 (y.ty : Int), .int .i64 y.st, .int .i64 y.df, .int .u8 (y.body.op : Int), .int .i64 y.body.n, .string y.body.name, .slice sa y.body.args.length sc] 76)) v1) := hid ((Below.refl _ _).drew.trans (hb1.mono (by simp)))
          have X1 := hid (FA.out.keep HG1.out)
          obtain ⟨t0, t1, t2, t3⟩ := row4 X1.out.row
          have u0 := cell_kept q0 HG1.out
          have u1 := cell_kept q1 HG1.out
          have u2 := cell_kept q2 HG1.out
          have u3 := cell_kept q3 HG1.out
          have u4 := cell_kept q4 HG1.out
          have u5 := cell_kept q5 HG1.out
          have u6 := cell_kept q6 HG1.out
          have u7 := cell_kept q7 HG1.out
          clear hb1
          go_wp2_with fail
          refine hK.out _ _ ?_ (fun hHeld1 => ?_)
          · exact ⟨t0, t1, t2, t3, u0, u1, u2, u3, u4, u5, u6, u7⟩
          clear hK K
          refine wpAnyH_take (i := 7) (oi := { dst := some 27, op := Go.Op.binOp Go.BinOp.neq 27 (Go.Operand.tmp 24) (Go.Operand.tmp 26) 27, type := 4, pos := _, after := #[{ on := 4, ground := Go.Ground.data }, { on := 6, ground := Go.Ground.data }], guard := none }) (v := ?_) rfl (by kernel_rfl) (by kernel_rfl) (by kernel_rfl) (fun _ _ _ h => h) (Or.inl ⟨by rfl, ?_⟩) (by assumption) ?_
          rotate_left
          · intro w hSw; (try dsimp only at hSw); go_simp <;> first | with_reducible rfl | (rw [if_neg (by first | omega | (simp only [ByteArray.size_append] at *; omega))])
          simp only [Act.put, List.setIfInBounds_toArray, List.set_cons_zero, List.set_cons_succ]
          (try simp only [HTB.out])
          refine wpAnyH_take (i := 8) (oi := { dst := some 28, op := Go.Op.move (Go.Operand.tmp 27), type := 4, pos := _, after := #[{ on := 7, ground := Go.Ground.data }, { on := 4, ground := Go.Ground.chain }], guard := none }) (v := ?_) rfl (by kernel_rfl) (by kernel_rfl) (by kernel_rfl) (fun _ _ _ h => h) (Or.inl ⟨by rfl, ?_⟩) (by assumption) ?_
          rotate_left
          · intro w hSw; (try dsimp only at hSw); go_simp <;> first | with_reducible rfl | (rw [if_neg (by first | omega | (simp only [ByteArray.size_append] at *; omega))])
          simp only [Act.put, List.setIfInBounds_toArray, List.set_cons_zero, List.set_cons_succ]
          refine wpAnyH_take (i := 9) (oi := { dst := some 29, op := Go.Op.fieldAddr 76 (Go.Operand.tmp 6) 3, type := 0, pos := _, after := #[{ on := 8, ground := Go.Ground.guard }], guard := some (8, false) }) (v := ?_) rfl (by kernel_rfl) (by kernel_rfl) (by kernel_rfl) (fun _ _ _ h => h) (Or.inl ⟨by rfl, ?_⟩) (by assumption) ?_
          rotate_left
          · intro w hSw; (try dsimp only at hSw); go_simp <;> first | with_reducible rfl | (rw [if_neg (by first | omega | (simp only [ByteArray.size_append] at *; omega))])
          simp only [Act.put, List.setIfInBounds_toArray, List.set_cons_zero, List.set_cons_succ]
          refine wpAnyH_take (i := 10) (oi := { dst := some 30, op := Go.Op.load 2 (Go.Operand.tmp 29), type := 2, pos := _, after := #[{ on := 9, ground := Go.Ground.data }, { on := 8, ground := Go.Ground.guard }], guard := some (8, false) }) (v := ?_) rfl (by kernel_rfl) (by kernel_rfl) (by kernel_rfl) (fun _ _ _ h => h) (Or.inl ⟨by rfl, ?_⟩) (by assumption) ?_
          rotate_left
          · intro w hSw; (try dsimp only at hSw); go_simp <;> first | with_reducible rfl | (rw [if_neg (by first | omega | (simp only [ByteArray.size_append] at *; omega))])
          simp only [Act.put, List.setIfInBounds_toArray, List.set_cons_zero, List.set_cons_succ]
          refine wpAnyH_take (i := 11) (oi := { dst := some 31, op := Go.Op.fieldAddr 76 (Go.Operand.tmp 6) 1, type := 0, pos := _, after := #[{ on := 8, ground := Go.Ground.guard }], guard := some (8, false) }) (v := ?_) rfl (by kernel_rfl) (by kernel_rfl) (by kernel_rfl) (fun _ _ _ h => h) (Or.inl ⟨by rfl, ?_⟩) (by assumption) ?_
          rotate_left
          · intro w hSw; (try dsimp only at hSw); go_simp <;> first | with_reducible rfl | (rw [if_neg (by first | omega | (simp only [ByteArray.size_append] at *; omega))])
          simp only [Act.put, List.setIfInBounds_toArray, List.set_cons_zero, List.set_cons_succ]
          refine wpAnyH_take (i := 12) (oi := { dst := some 32, op := Go.Op.load 27 (Go.Operand.tmp 31), type := 27, pos := _, after := #[{ on := 11, ground := Go.Ground.data }, { on := 8, ground := Go.Ground.guard }], guard := some (8, false) }) (v := ?_) rfl (by kernel_rfl) (by kernel_rfl) (by kernel_rfl) (fun _ _ _ h => h) (Or.inl ⟨by rfl, ?_⟩) (by assumption) ?_
          rotate_left
          · intro w hSw; (try dsimp only at hSw); go_simp <;> first | with_reducible rfl | (rw [if_neg (by first | omega | (simp only [ByteArray.size_append] at *; omega))])
          simp only [Act.put, List.setIfInBounds_toArray, List.set_cons_zero, List.set_cons_succ]
          refine wpAnyH_ready (rs := [13]) (by kernel_rfl) (by simp) ?_
          refine AllReadyH.cons (o := { dst := some 33, op := Go.Op.call { callee := Go.Callee.value (Go.Operand.func 57), args := #[Go.Operand.tmp 30, Go.Operand.tmp 32], argTypes := #[2, 27] }, type := 4, pos := _, after := #[{ on := 10, ground := Go.Ground.data }, { on := 12, ground := Go.Ground.data }, { on := 8, ground := Go.Ground.chain }, { on := 8, ground := Go.Ground.guard }], guard := some (8, false) }) rfl (fun K hK => ?_) AllReadyH.nil
          go_simp
          refine (fits_t y.df y.ty _).mono ?_
          rintro e v2 ⟨rfl, hb2⟩
          have X2' := hid (X1.out.keep hb2)
          obtain ⟨m0, m1, m2, m3⟩ := row4 X2'.out.row
          have n0 := cell_kept u0 hb2
          have n1 := cell_kept u1 hb2
          have n2 := cell_kept u2 hb2
          have n3 := cell_kept u3 hb2
          have n4 := cell_kept u4 hb2
          have n5 := cell_kept u5 hb2
          have n6 := cell_kept u6 hb2
          have n7 := cell_kept u7 hb2
          have HG2 := hid hb2
          clear hb2
          go_wp2_with fail
          refine hK.out _ _ ?_ (fun hHeld2 => ?_)
          · exact ⟨m0, m1, m2, m3, n0, n1, n2, n3, n4, n5, n6, n7⟩
          clear hK K
          refine wpAnyH_take (i := 14) (oi := { dst := some 34, op := Go.Op.unOp Go.UnOp.not 4 (Go.Operand.tmp 33), type := 4, pos := _, after := #[{ on := 13, ground := Go.Ground.data }, { on := 8, ground := Go.Ground.guard }], guard := some (8, false) }) (v := ?_) rfl (by kernel_rfl) (by kernel_rfl) (by kernel_rfl) (fun _ _ _ h => h) (Or.inl ⟨by rfl, ?_⟩) (by assumption) ?_
          rotate_left
          · intro w hSw; (try dsimp only at hSw); go_simp <;> first | with_reducible rfl | (rw [if_neg (by first | omega | (simp only [ByteArray.size_append] at *; omega))])
          simp only [Act.put, List.setIfInBounds_toArray, List.set_cons_zero, List.set_cons_succ]
          refine wpAnyH_take (i := 15) (oi := { dst := some 35, op := Go.Op.pick (Go.Operand.tmp 28) (Go.Operand.const (Go.Value.bool true)) (Go.Operand.tmp 34), type := 4, pos := _, after := #[{ on := 8, ground := Go.Ground.data }, { on := 14, ground := Go.Ground.data }], guard := none }) (v := ?_) rfl (by kernel_rfl) (by kernel_rfl) (by kernel_rfl) (fun _ _ _ h => h) (Or.inl ⟨by rfl, ?_⟩) (by assumption) ?_
          rotate_left
          · intro w hSw; (try dsimp only at hSw); go_simp <;> first | with_reducible rfl | (rw [if_neg (by first | omega | (simp only [ByteArray.size_append] at *; omega))])
          simp only [Act.put, List.setIfInBounds_toArray, List.set_cons_zero, List.set_cons_succ]
          refine wpAnyH_done (by kernel_rfl) ?_ _
          clear s0 s1 s2 s3 t0 t1 t2 t3 m0 m1 m2 m3 q0 q1 q2 q3 q4 q5 q6 q7 u0 u1 u2 u3 u4 u5 u6 u7 n0 n1 n2 n3 n4 n5 n6 n7 y0 y1 y2 y3 y4 y5 y6 y7
          cases hf : fitT y.df y.ty with
          | true =>
            have HE2 : Hid (∀ q ∈ p.flows.take (r + 1), flT p q = true) := hid (fun q hq => by
              rw [HTK.out] at hq
              rcases List.mem_append.1 hq with h | h
              · exact HE.out q h
              · rw [List.mem_singleton.1 h]; unfold flT; rw [hf, ht]; simp)
            have HB3 := hid (hB.out.trans ((bstep (bstep BA.out HG1.out) HG2.out).mono hB.out.size))
            clear hf ht
            go_wp2_with (fail)
            go_roundw
            case rel => exact ⟨r + 1, by omega, by go_num, HE2, HB3⟩
            case measure => simp [intOf]; omega
          | false =>
            have HV : Hid (ckV p = 7) := hid (by rw [HOV.out, if_neg]; intro h; have := List.all_eq_true.1 h y HMG.out; unfold flT at this; rw [hf] at this; simp at this)
            clear hf ht
            go_wp2_with (fail)
            go_ret
            exact ⟨by rw [HV.out]; rfl, X2'.out.below⟩
        · have HTB : Hid (((tyE p y.body : Int) != (y.ty : Int)) = true) := hid (by rw [bne_iff_ne]; omega)
          have HV : Hid (ckV p = 7) := hid (by rw [HOV.out, if_neg]; intro h; have := List.all_eq_true.1 h y HMG.out; unfold flT at this; simp [ht] at this)
          generalize tyE p y.body = ty at *
          go_wp2_with (fail)
          refine wp_region_held_drew (S := fun W => W.cell? ⟨w.heap.size, 0, none⟩ = some (.int .i64 p.st) ∧ W.cell? ⟨w.heap.size, 1, none⟩ = some (A) ∧ W.cell? ⟨w.heap.size, 2, none⟩ = some ((.slice (some ⟨gb, go, none⟩) p.flows.length cap)) ∧ W.cell? ⟨w.heap.size, 3, none⟩ = some (C) ∧ W.cell? ⟨wr.heap.size, 0, none⟩ = some (.string y.name) ∧ W.cell? ⟨wr.heap.size, 1, none⟩ = some (.int .u8 (y.ty : Int)) ∧ W.cell? ⟨wr.heap.size, 2, none⟩ = some (.int .i64 y.st) ∧ W.cell? ⟨wr.heap.size, 3, none⟩ = some (.int .i64 y.df) ∧ W.cell? ⟨wr.heap.size, 4, none⟩ = some (.int .u8 (y.body.op : Int)) ∧ W.cell? ⟨wr.heap.size, 5, none⟩ = some (.int .i64 y.body.n) ∧ W.cell? ⟨wr.heap.size, 6, none⟩ = some (.string y.body.name) ∧ W.cell? ⟨wr.heap.size, 7, none⟩ = some (.slice sa y.body.args.length sc)) (by kernel_rfl) ?_ (fun hHeld => ?_)
          · exact ⟨s0, s1, s2, s3, q0, q1, q2, q3, q4, q5, q6, q7⟩
          refine wpAnyH_take (i := 0) (oi := { dst := some 20, op := Go.Op.load 46 (Go.Operand.tmp 1), type := 46, pos := _, after := #[], guard := none }) (v := ?_) rfl (by kernel_rfl) (by kernel_rfl) (by kernel_rfl) (fun _ _ _ h => h) (Or.inl ⟨by rfl, ?_⟩) (by assumption) ?_
          rotate_left
          · intro w hSw; (try dsimp only at hSw); go_simp <;> first | with_reducible rfl | (rw [if_neg (by first | omega | (simp only [ByteArray.size_append] at *; omega))])
          simp only [Act.put, List.setIfInBounds_toArray, List.set_cons_zero, List.set_cons_succ]
          refine wpAnyH_take (i := 1) (oi := { dst := some 21, op := Go.Op.move (Go.Operand.tmp 4), type := 121, pos := _, after := #[], guard := none }) (v := ?_) rfl (by kernel_rfl) (by kernel_rfl) (by kernel_rfl) (fun _ _ _ h => h) (Or.inl ⟨by rfl, ?_⟩) (by assumption) ?_
          rotate_left
          · intro w hSw; (try dsimp only at hSw); go_simp <;> first | with_reducible rfl | (rw [if_neg (by first | omega | (simp only [ByteArray.size_append] at *; omega))])
          simp only [Act.put, List.setIfInBounds_toArray, List.set_cons_zero, List.set_cons_succ]
          refine wpAnyH_take (i := 2) (oi := { dst := some 22, op := Go.Op.fieldAddr 76 (Go.Operand.tmp 6) 4, type := 0, pos := _, after := #[], guard := none }) (v := ?_) rfl (by kernel_rfl) (by kernel_rfl) (by kernel_rfl) (fun _ _ _ h => h) (Or.inl ⟨by rfl, ?_⟩) (by assumption) ?_
          rotate_left
          · intro w hSw; (try dsimp only at hSw); go_simp <;> first | with_reducible rfl | (rw [if_neg (by first | omega | (simp only [ByteArray.size_append] at *; omega))])
          simp only [Act.put, List.setIfInBounds_toArray, List.set_cons_zero, List.set_cons_succ]
          refine wpAnyH_take (i := 3) (oi := { dst := some 23, op := Go.Op.load 70 (Go.Operand.tmp 22), type := 70, pos := _, after := #[{ on := 2, ground := Go.Ground.data }], guard := none }) (v := ?_) rfl (by kernel_rfl) (by kernel_rfl) (by kernel_rfl) (fun _ _ _ h => h) (Or.inl ⟨by rfl, ?_⟩) (by assumption) ?_
          rotate_left
          · intro w hSw; (try dsimp only at hSw); go_simp <;> first | with_reducible rfl | (rw [if_neg (by first | omega | (simp only [ByteArray.size_append] at *; omega))])
          simp only [Act.put, List.setIfInBounds_toArray, List.set_cons_zero, List.set_cons_succ]
          refine wpAnyH_take (i := 5) (oi := { dst := some 25, op := Go.Op.fieldAddr 76 (Go.Operand.tmp 6) 1, type := 0, pos := _, after := #[], guard := none }) (v := ?_) rfl (by kernel_rfl) (by kernel_rfl) (by kernel_rfl) (fun _ _ _ h => h) (Or.inl ⟨by rfl, ?_⟩) (by assumption) ?_
          rotate_left
          · intro w hSw; (try dsimp only at hSw); go_simp <;> first | with_reducible rfl | (rw [if_neg (by first | omega | (simp only [ByteArray.size_append] at *; omega))])
          simp only [Act.put, List.setIfInBounds_toArray, List.set_cons_zero, List.set_cons_succ]
          refine wpAnyH_take (i := 6) (oi := { dst := some 26, op := Go.Op.load 27 (Go.Operand.tmp 25), type := 27, pos := _, after := #[{ on := 5, ground := Go.Ground.data }], guard := none }) (v := ?_) rfl (by kernel_rfl) (by kernel_rfl) (by kernel_rfl) (fun _ _ _ h => h) (Or.inl ⟨by rfl, ?_⟩) (by assumption) ?_
          rotate_left
          · intro w hSw; (try dsimp only at hSw); go_simp <;> first | with_reducible rfl | (rw [if_neg (by first | omega | (simp only [ByteArray.size_append] at *; omega))])
          simp only [Act.put, List.setIfInBounds_toArray, List.set_cons_zero, List.set_cons_succ]
          refine wpAnyH_ready (rs := [4]) (by kernel_rfl) (by simp) ?_
          refine AllReadyH.cons (o := { dst := some 24, op := Go.Op.call { callee := Go.Callee.value (Go.Operand.func 56), args := #[Go.Operand.tmp 20, Go.Operand.tmp 21, Go.Operand.tmp 23], argTypes := #[46, 121, 70] }, type := 27, pos := _, after := #[{ on := 0, ground := Go.Ground.data }, { on := 1, ground := Go.Ground.data }, { on := 3, ground := Go.Ground.data }], guard := none }) rfl (fun K hK => ?_) AllReadyH.nil
          go_simp
          refine c31.mono ?_
          rintro e v1 ⟨rfl, hb1⟩
          have HG1 : Hid (Below (wr.alloc (.cells #[.string y.name, .int .u8 (y.ty : Int), .int .i64 y.st, .int .i64 y.df, .int .u8 (y.body.op : Int), .int .i64 y.body.n, .string y.body.name, .slice sa y.body.args.length sc] 76)).heap.size (wr.alloc (.cells #[.string y.name, .int .u8 (y.ty : Int), .int .i64 y.st, .int .i64 y.df, .int .u8 (y.body.op : Int), .int .i64 y.body.n, .string y.body.name, .slice sa y.body.args.length sc] 76)) v1) := hid ((Below.refl _ _).drew.trans (hb1.mono (by simp)))
          have X1 := hid (FA.out.keep HG1.out)
          obtain ⟨t0, t1, t2, t3⟩ := row4 X1.out.row
          have u0 := cell_kept q0 HG1.out
          have u1 := cell_kept q1 HG1.out
          have u2 := cell_kept q2 HG1.out
          have u3 := cell_kept q3 HG1.out
          have u4 := cell_kept q4 HG1.out
          have u5 := cell_kept q5 HG1.out
          have u6 := cell_kept q6 HG1.out
          have u7 := cell_kept q7 HG1.out
          clear hb1
          go_wp2_with fail
          refine hK.out _ _ ?_ (fun hHeld1 => ?_)
          · exact ⟨t0, t1, t2, t3, u0, u1, u2, u3, u4, u5, u6, u7⟩
          clear hK K
          refine wpAnyH_take (i := 7) (oi := { dst := some 27, op := Go.Op.binOp Go.BinOp.neq 27 (Go.Operand.tmp 24) (Go.Operand.tmp 26) 27, type := 4, pos := _, after := #[{ on := 4, ground := Go.Ground.data }, { on := 6, ground := Go.Ground.data }], guard := none }) (v := ?_) rfl (by kernel_rfl) (by kernel_rfl) (by kernel_rfl) (fun _ _ _ h => h) (Or.inl ⟨by rfl, ?_⟩) (by assumption) ?_
          rotate_left
          · intro w hSw; (try dsimp only at hSw); go_simp <;> first | with_reducible rfl | (rw [if_neg (by first | omega | (simp only [ByteArray.size_append] at *; omega))])
          simp only [Act.put, List.setIfInBounds_toArray, List.set_cons_zero, List.set_cons_succ]
          (try simp only [HTB.out])
          refine wpAnyH_take (i := 8) (oi := { dst := some 28, op := Go.Op.move (Go.Operand.tmp 27), type := 4, pos := _, after := #[{ on := 7, ground := Go.Ground.data }, { on := 4, ground := Go.Ground.chain }], guard := none }) (v := ?_) rfl (by kernel_rfl) (by kernel_rfl) (by kernel_rfl) (fun _ _ _ h => h) (Or.inl ⟨by rfl, ?_⟩) (by assumption) ?_
          rotate_left
          · intro w hSw; (try dsimp only at hSw); go_simp <;> first | with_reducible rfl | (rw [if_neg (by first | omega | (simp only [ByteArray.size_append] at *; omega))])
          simp only [Act.put, List.setIfInBounds_toArray, List.set_cons_zero, List.set_cons_succ]
          refine wpAnyH_take (i := 9) (oi := { dst := some 29, op := Go.Op.fieldAddr 76 (Go.Operand.tmp 6) 3, type := 0, pos := _, after := #[{ on := 8, ground := Go.Ground.guard }], guard := some (8, false) }) (v := undef) rfl (by kernel_rfl) (by kernel_rfl) (by kernel_rfl) (fun _ _ _ h => h) (Or.inr ⟨by rfl, rfl⟩) (by assumption) ?_
          simp only [Act.put, List.setIfInBounds_toArray, List.set_cons_zero, List.set_cons_succ]
          refine wpAnyH_take (i := 10) (oi := { dst := some 30, op := Go.Op.load 2 (Go.Operand.tmp 29), type := 2, pos := _, after := #[{ on := 9, ground := Go.Ground.data }, { on := 8, ground := Go.Ground.guard }], guard := some (8, false) }) (v := undef) rfl (by kernel_rfl) (by kernel_rfl) (by kernel_rfl) (fun _ _ _ h => h) (Or.inr ⟨by rfl, rfl⟩) (by assumption) ?_
          simp only [Act.put, List.setIfInBounds_toArray, List.set_cons_zero, List.set_cons_succ]
          refine wpAnyH_take (i := 11) (oi := { dst := some 31, op := Go.Op.fieldAddr 76 (Go.Operand.tmp 6) 1, type := 0, pos := _, after := #[{ on := 8, ground := Go.Ground.guard }], guard := some (8, false) }) (v := undef) rfl (by kernel_rfl) (by kernel_rfl) (by kernel_rfl) (fun _ _ _ h => h) (Or.inr ⟨by rfl, rfl⟩) (by assumption) ?_
          simp only [Act.put, List.setIfInBounds_toArray, List.set_cons_zero, List.set_cons_succ]
          refine wpAnyH_take (i := 12) (oi := { dst := some 32, op := Go.Op.load 27 (Go.Operand.tmp 31), type := 27, pos := _, after := #[{ on := 11, ground := Go.Ground.data }, { on := 8, ground := Go.Ground.guard }], guard := some (8, false) }) (v := undef) rfl (by kernel_rfl) (by kernel_rfl) (by kernel_rfl) (fun _ _ _ h => h) (Or.inr ⟨by rfl, rfl⟩) (by assumption) ?_
          simp only [Act.put, List.setIfInBounds_toArray, List.set_cons_zero, List.set_cons_succ]
          refine wpAnyH_take (i := 13) (oi := { dst := some 33, op := Go.Op.call { callee := Go.Callee.value (Go.Operand.func 57), args := #[Go.Operand.tmp 30, Go.Operand.tmp 32], argTypes := #[2, 27] }, type := 4, pos := _, after := #[{ on := 10, ground := Go.Ground.data }, { on := 12, ground := Go.Ground.data }, { on := 8, ground := Go.Ground.chain }, { on := 8, ground := Go.Ground.guard }], guard := some (8, false) }) (v := undef) rfl (by kernel_rfl) (by kernel_rfl) (by kernel_rfl) (fun _ _ _ h => h) (Or.inr ⟨by rfl, rfl⟩) (by assumption) ?_
          simp only [Act.put, List.setIfInBounds_toArray, List.set_cons_zero, List.set_cons_succ]
          refine wpAnyH_take (i := 14) (oi := { dst := some 34, op := Go.Op.unOp Go.UnOp.not 4 (Go.Operand.tmp 33), type := 4, pos := _, after := #[{ on := 13, ground := Go.Ground.data }, { on := 8, ground := Go.Ground.guard }], guard := some (8, false) }) (v := undef) rfl (by kernel_rfl) (by kernel_rfl) (by kernel_rfl) (fun _ _ _ h => h) (Or.inr ⟨by rfl, rfl⟩) (by assumption) ?_
          simp only [Act.put, List.setIfInBounds_toArray, List.set_cons_zero, List.set_cons_succ]
          refine wpAnyH_take (i := 15) (oi := { dst := some 35, op := Go.Op.pick (Go.Operand.tmp 28) (Go.Operand.const (Go.Value.bool true)) (Go.Operand.tmp 34), type := 4, pos := _, after := #[{ on := 8, ground := Go.Ground.data }, { on := 14, ground := Go.Ground.data }], guard := none }) (v := ?_) rfl (by kernel_rfl) (by kernel_rfl) (by kernel_rfl) (fun _ _ _ h => h) (Or.inl ⟨by rfl, ?_⟩) (by assumption) ?_
          rotate_left
          · intro w hSw; (try dsimp only at hSw); go_simp <;> first | with_reducible rfl | (rw [if_neg (by first | omega | (simp only [ByteArray.size_append] at *; omega))])
          simp only [Act.put, List.setIfInBounds_toArray, List.set_cons_zero, List.set_cons_succ]
          refine wpAnyH_done (by kernel_rfl) ?_ _
          go_wp2_with (fail)
          go_ret
          exact ⟨by rw [HV.out]; rfl, X1.out.below⟩
      · have hrl' : ¬ (r : Int) < (p.flows.length : Int) := by omega
        obtain rfl : r = p.flows.length := by omega
        have HV : Hid (ckV p = 0) := hid (by rw [HOV.out, if_pos]; exact List.all_eq_true.2 (fun q hq => HE.out q (by rw [List.take_length]; exact hq)))
        go_wp2_with (fail)
        go_ret
        exact ⟨by rw [HV.out]; rfl, FX.out.below⟩
  · have HV : Hid (ckV p = nmErr p) := hid (by unfold ckV; rw [if_neg hn])
    generalize nmErr p = ne at *
    go_wp2_with (fail)
    go_ret
    exact ⟨by rw [HV.out]; rfl, X1.out.below⟩
end Go.Proofs.YtdenddknbmiboaaDoor.Lex.Typ
namespace Go.Proofs.YtdenddknbmiboaaDoor.Lex
open Go.ChangeShapes Go.WideShapes Go.ChangeAt Go.RowKit Go.Joins
theorem wp_append_at {P : Program} {w : World} {o : Oper} {a : Act} {K : Act → World → Prop} {Q : Exit → Act → World → Prop} (s x : Operand) (t : TypeId)
    (ho : o.op = .call { callee := .builtin .append, args := #[s, x], argTypes := #[t, t] })
    (base : Nat) (e : TypeId) (i : TypeInfo) (z : Value) (size bytes : Nat) (ht : P.underlying t = some (.slice e)) (hi : P.info? e = some i) (hz : i.zero = some z)
    (hsize : i.size = size) (hby : i.bytes = bytes) (hzs : z.cells.size = size) (hsz : 0 < size)
    (v : Value) (n : Nat) (xs : List Value) (hs : a.eval s = v) (hown : w.ownsRow base e size v n xs)
    (ad : Addr) (m c : Nat) (news : List Value) (hx : a.eval x = .slice (some ad) m c) (hl : news.length = m * size) (hnews : ∀ j u, news[j]? = some u → w.cell? (ad.add j) = some u) (h1 : ∀ u ∈ news, u.oneCell' = true)
    (h63 : n + m ≤ maxLen) (hbytes : (n + m) * bytes ≤ 140737488355328) (hbase : base ≤ w.heap.size)
    (h : ∀ v' w', w'.ownsRow base e size v' (n + m) (xs ++ news) → w.grownBy w' v.ownBlock → (v' = .slice none 0 0 ↔ v = .slice none 0 0 ∧ m = 0) → (v'.ownBlock = v.ownBlock ∨ v'.ownBlock = some w.heap.size) → K (a.put o.dst v') w') : o.wp P a w K Q := by
  obtain ⟨v', w', hr, h2, h3, h4, h5⟩ := run_append_own_at (P := P) w base t o.type e i z size bytes ht hi hz hsize hby hzs hsz v n xs hown ad m c news hl hnews h1 h63 hbytes hbase
  unfold Oper.wp execOp
  simp only [ho, resolve, invoke, builtin, Sem.run_bind, Sem.run_pure, Result.andThen_ok, List.map_toArray, List.map_cons, List.map_nil, hs, hx, hr]
  exact h v' w' h2 h3 h4 h5
theorem WrS.app {c : Wp} {W wa : World} {L : List Cin} {dv v' : Value} {x : Cin} (h : WrS c L dv W) (hown : wa.ownsRow c.lo 38 3 v' (L.length + 1) (inssC L ++ insC x)) (hg : W.grownBy wa dv.ownBlock) : WrS c (L ++ [x]) v' (wa.setCell ⟨c.wb, 2, none⟩ v') := by
  have hl := h.l2
  have hl3 := h.l3
  have hl1 := h.l1
  refine WrS.put (dv := dv) ((hg.block _ (Array.getElem?_eq_some_iff.1 h.box).1 (fun e => by have := h.row.lt _ e.symm; omega)).trans h.box) (h.map.kept hg (fun e => by have := h.row.lt _ e.symm; omega)) (h.below.grown hg h.below.size (fun j hj => by have := h.row.lt _ hj; omega)) h.l1 h.l2 h.l3 h.l4 (Nat.le_trans h.l5 hg.size) ?_
  rw [inssC_append, List.length_append]
  have : inssC [x] = insC x := by unfold inssC; simp
  rw [this]
  exact hown
theorem Mvd.app {wb : Nat} {W Wb wa : World} {dv v' : Value} (hb : Below W.heap.size W Wb) (hg : Wb.grownBy wa dv.ownBlock) (hloc : v'.ownBlock = dv.ownBlock ∨ v'.ownBlock = some Wb.heap.size) : Mvd wb dv v' W (wa.setCell ⟨wb, 2, none⟩ v') := by
  refine ⟨?_, fun b hb1 hb2 hb3 => ?_, fun b e => ?_⟩
  · rw [World.size_setCell]
    exact Nat.le_trans hb.size hg.size
  · refine (Below.heap_setCell _ _ _ _ (by simp; exact hb2)).trans ?_
    exact (hg.block _ (Nat.lt_of_lt_of_le hb1 hb.size) (fun e => hb3 e.symm)).trans (hb.block b hb1)
  · rcases hloc with h1 | h1
    · exact .inl (h1 ▸ e)
    · rw [h1] at e
      injection e with e
      exact .inr (e ▸ hb.size)
/-- What comes behind the parts. -/
def lastW (T : List UInt8 → Int × Int) (late : Int) (op : Nat) (n : Int) (nm : ByteArray) (ago : Nat) : List Cin :=
  if op = 19 then [] else if op = 3 then [⟨3, (T nm.data.toList).1, late + (ago : Int) - (T nm.data.toList).2⟩] else if op = 18 then [⟨18, 0, (ago : Int)⟩] else [⟨op, n, 0⟩]
/-- The instructions of an expression, so many instants ago. -/
def wrF (T : List UInt8 → Int × Int) (late : Int) : Ex → Nat → List Cin
  | ⟨op, n, nm, args⟩, ago => (args.map fun y => wrF T late y (if op = 19 then ago + 1 else ago)).flatten ++ lastW T late op n nm ago
theorem wrF_eq (T : List UInt8 → Int × Int) (late : Int) (x : Ex) (ago : Nat) : wrF T late x ago = (x.args.map fun y => wrF T late y (if x.op = 19 then ago + 1 else ago)).flatten ++ lastW T late x.op x.n x.name ago := by
  obtain ⟨op, n, nm, args⟩ := x
  rw [wrF]
end Go.Proofs.YtdenddknbmiboaaDoor.Lex
