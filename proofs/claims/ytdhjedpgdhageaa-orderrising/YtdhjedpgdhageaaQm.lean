/-
  A map of rows: at each key a slice, or none.
-/
import Derived.Test.YtdhjedpgdhageaaPop
import Derived.Test.YtdhjedpgdhageaaOrdM
import Derived.Maps.Views
namespace Go.Proofs.Ytdhjedpgdhageaa.Ord
open Go.ChangeShapes Go.WideShapes Go.ChangeAt Go.RowKit Go.Joins
structure Sl where
  g : Nat
  n : Nat
  c : Nat
def slV : Option Sl → Value
  | none => .slice none 0 0
  | some s => .slice (some ⟨s.g, 0, none⟩) s.n s.c
abbrev nD (k : Nat) : DataW Unit := .lit (.int .i64 (k : Int))
def sD : Option Sl → DataW Unit
  | none => .nil
  | some s => .agg [nD s.g, nD s.n, nD s.c]
/-- How such a value reads. -/
def sR (v : Value) : Option (DataW Unit × List MemPlace) := match v with
  | .slice none 0 0 => some (.nil, [])
  | .slice (some ⟨g, 0, none⟩) n c => some (.agg [nD g, nD n, nD c], [])
  | _ => none
theorem sR_mk (o : Option Sl) : sR (slV o) = some (sD o, []) := by cases o <;> rfl
theorem sR_inv {v : Value} {o : Option Sl} {ps : List MemPlace} (h : sR v = some (sD o, ps)) : v = slV o := by
  unfold sR at h
  split at h
  · cases o with
    | none => rfl
    | some s => simp [sD] at h
  · cases o with
    | none => simp [sD] at h
    | some s =>
      simp only [sD, nD, Option.some.injEq, Prod.mk.injEq, DataW.agg.injEq, List.cons.injEq, DataW.lit.injEq, Lit.int.injEq, true_and, and_true, Int.ofNat_inj] at h
      obtain ⟨⟨h1, h2, h3⟩, _⟩ := h
      rw [h1, h2, h3]
      rfl
  · cases h
theorem own_slV {o : Option Sl} {g : Nat} (h : (slV o).ownBlock = some g) : ∃ s, o = some s ∧ s.g = g := by
  cases o with
  | none => cases h
  | some s => exact ⟨s, rfl, by simpa [slV, Value.ownBlock] using h⟩
/-- A map of slices in memory. -/
def VMap (W : World) (b n : Nat) (V : Int → Option Sl) : Prop := ∃ D : DataW Unit, W.ownsMap Try.prog 3 sR b n D ∧ ∀ k : Int, D.atKey (.int .i64 k) .nil = sD (V k)
theorem VMap.lt {W : World} {b n : Nat} {V : Int → Option Sl} (h : VMap W b n V) : b < W.heap.size := by
  obtain ⟨D, h1, _⟩ := h
  exact h1.lt
theorem VMap.block {W W' : World} {b n : Nat} {V : Int → Option Sl} (h : VMap W b n V) (hb : W'.heap[b]? = W.heap[b]?) : VMap W' b n V := by
  obtain ⟨D, ⟨es, clock, h1, h2⟩, h3⟩ := h
  exact ⟨D, ⟨es, clock, hb.trans h1, h2⟩, h3⟩
theorem VMap.new {W : World} {b : Nat} (h : W.heap[b]? = some (.map #[] 0)) : VMap W b 0 (fun _ => none) := ⟨.map [], ⟨#[], 0, h, ⟨by simp, MapKept.stamped_empty 0, by simp⟩, Nat.le_refl _, rfl⟩, fun _ => rfl⟩
theorem zero25 (w : World) : (zeroValue 25).run Try.prog w = .ok (slV none) w := by kernel_rfl
theorem key3 {k : Int} (h0 : 0 ≤ k) (hk : k < 1099511627776) : keyOf Try.prog 3 (.int .i64 k) = some (.int .i64 k) := Maps.keyOf_int_mk Try.underlying3 (by simp [Lit.wf, IntKind.min, IntKind.max, IntKind.signed, IntKind.bits]; omega)
theorem VMap.look {W : World} {b n : Nat} {V : Int → Option Sl} (h : VMap W b n V) {k : Int} (h0 : 0 ≤ k) (hk : k < 1099511627776) : (Instr.lookup 42 (.map (some b)) (.int .i64 k) false).run Try.prog W = .ok (slV (V k)) W := by
  obtain ⟨D, h1, h2⟩ := h
  obtain ⟨v, ps, hrun, hv⟩ := h1.lookup (Maps.int_keyed Try.underlying3) Try.underlying42 (zero25 W) (sR_mk none) (key3 h0 hk)
  rw [show (sD none) = .nil from rfl, h2 k] at hv
  rw [hrun, sR_inv hv]
theorem VMap.update {W : World} {b n : Nat} {V : Int → Option Sl} (h : VMap W b n V) (hn : n < maxLen) {k : Int} (h0 : 0 ≤ k) (hk : k < 1099511627776) (o : Option Sl) :
    ∃ W', (Instr.mapUpdate 42 (.map (some b)) (.int .i64 k) (slV o)).run Try.prog W = .ok () W' ∧ VMap W' b (n + 1) (fun u => if u = k then o else V u) ∧ W.grownBy W' (some b) := by
  obtain ⟨D, h1, h2⟩ := h
  obtain ⟨W', hrun, r1, r2⟩ := h1.update (Maps.int_keyed Try.underlying3) Try.underlying42 hn (key3 h0 hk) (sR_mk o)
  refine ⟨W', hrun, ⟨_, r1, fun u => ?_⟩, r2⟩
  dsimp only
  by_cases e : u = k
  · rw [if_pos e, e, Maps.atKey_put_same h1.isMap (by trivial)]
  · rw [if_neg e, Maps.atKey_put_other (by intro h; injection h with _ h; exact e h)]
    exact h2 u
theorem VMap.drop {W : World} {b n : Nat} {V : Int → Option Sl} (h : VMap W b n V) {k : Int} (h0 : 0 ≤ k) (hk : k < 1099511627776) (ty : TypeId) :
    ∃ W', (Builtin.delete_ #[42, 3] ty #[.map (some b), .int .i64 k]).run Try.prog W = .ok (.tuple #[]) W' ∧ VMap W' b n (fun u => if u = k then none else V u) ∧ Mv W W' (· = b) := by
  obtain ⟨D, h1, h2⟩ := h
  obtain ⟨W', hrun, r1, r2⟩ := h1.drop (Maps.int_keyed Try.underlying3) Try.underlying42 (key3 h0 hk) ty
  refine ⟨W', hrun, ⟨_, r1, fun u => ?_⟩, ?_⟩
  · dsimp only
    by_cases e : u = k
    · rw [if_pos e, e, Maps.atKey_del_same]
      rfl
    · rw [if_neg e, Maps.atKey_del_other (by intro h; injection h with _ h; exact e h)]
      exact h2 u
  · obtain ⟨es, clock, es', clock', hb, rfl⟩ := r2
    exact ⟨rfl, rfl, rfl, by simp [ChangeMaps.setBlock], fun k _ hk => by simp [ChangeMaps.setBlock, Ne.symm hk]⟩
end Go.Proofs.Ytdhjedpgdhageaa.Ord
