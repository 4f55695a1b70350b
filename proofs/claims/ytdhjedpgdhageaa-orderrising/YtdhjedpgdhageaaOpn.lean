/-
  Lists of numbers that came in.
-/
import Derived.Test.YtdhjedpgdhageaaBehW
import Derived.Test.YtdhjedpgdhageaaRows
import Derived.ProofKit
import Derived.OpenShut
import Derived.ShutString
import Derived.ChangeOld
import Derived.LaidMore
import Derived.SizedLaws
import Derived.Lib.LaidTab
import Derived.Lib.SmallJoins
import Derived.Stop.LaidErr
namespace Go.Proofs.Ytdhjedpgdhageaa.Ord
open Go.ChangeShapes Go.WideShapes Go.ChangeAt Go.RowKit Go.Joins
theorem ownGo : ownKnob Try.prog.godebug = none := by kernel_rfl
theorem laidOut : laidOutB Try.prog = true := by kernel_rfl
theorem nat_c {n : Int} (h : (Lit.int .u8 n).wf = true) : ∃ k : Nat, k < 256 ∧ n = (k : Int) := by
  simp [Lit.wf, IntKind.min, IntKind.max, IntKind.signed, IntKind.bits] at h
  exact ⟨n.toNat, by omega, by omega⟩
theorem all_mem {H : Type} {P : Program} {e : TypeId} : ∀ {l : List (DataW H)} {i : Nat} {d : DataW H}, l[i]? = some d → ∀ v ∈ d.weights P e, v ∈ DataW.weightsAll P e l
  | [], i, d, h => by simp at h
  | x :: l, 0, d, h => by simp at h; subst h; intro v hv; rw [DataW.weightsAll]; exact List.mem_append_left _ hv
  | x :: l, i + 1, d, h => by simp at h; intro v hv; rw [DataW.weightsAll]; exact List.mem_append_right _ (all_mem h v hv)
abbrev Trd {H : Type} (enc : TypeId × Value → H) (W : World) (n : Nat) (t : TypeId) (cs : List Value) (y : DataW H × List MemPlace) : Prop := DataW.trod enc Try.prog W 0 (fun _ => true) true n t cs = some y
theorem add_off (b o j : Nat) : (⟨b, o, none⟩ : Addr).add j = ⟨b, o + j, none⟩ := by unfold Addr.add; split <;> simp_all
/-- A slice that came in: where its elements lie, and that each can be opened. -/
theorem view_row {H : Type} {enc : TypeId × Value → H} {W : World} {n : Nat} {t e : TypeId} {c : Value} {y : DataW H × List MemPlace} (hu : Try.prog.underlying t = some (.slice e)) (h : Trd enc W n t [c] y) (hw : ∀ v ∈ y.1.weights Try.prog t, v ≤ reachBytes) (hc0 : 0 < Try.prog.cellsOf e) :
    ∃ (ao : Option Addr) (len cap : Nat), c = .slice ao len cap ∧ len ≤ cap ∧ cap ≤ maxLen ∧ len * Try.prog.bytesOf e ≤ reachBytes ∧ (len = 0 ∨ ∃ b o, ao = some ⟨b, o, none⟩ ∧ ∀ i, i < len → ∃ l d m, (W.cells? 0 ⟨b, o + i * Try.prog.cellsOf e, none⟩ (Try.prog.cellsOf e)) = some l ∧ Trd enc W m e l d ∧ ∀ v ∈ d.1.weights Try.prog e, v ≤ reachBytes) := by
  rcases DataW.trod_slice hu h with ⟨hc, _⟩ | ⟨a, len, cap, elems, rest, n', hn', hc, hy3, hb, hlc, hcm, hel, helem, hsp, _⟩
  · simp only [List.cons.injEq, and_true] at hc
    exact ⟨none, 0, 0, hc, Nat.le_refl _, by simp [maxLen], by simp [reachBytes], .inl rfl⟩
  · simp only [List.cons.injEq, and_true] at hc
    subst hc
    have hwl : (len + rest.length) * Try.prog.bytesOf e ≤ reachBytes := by
      have := hw ((elems.map (·.1)).length + (rest.map (·.1)).length |> (· * Try.prog.bytesOf e)) (by rw [hy3]; simp [DataW.weights, hu])
      simpa [hel] using this
    refine ⟨some a, len, cap, rfl, hlc, hcm, Nat.le_trans (Nat.mul_le_mul_right _ (by omega)) hwl, ?_⟩
    by_cases h00 : len = 0
    · exact .inl h00
    · right
      have each : ∀ i, i < len → ∃ l d m, (W.cells? 0 (a.add (i * Try.prog.cellsOf e)) (Try.prog.cellsOf e)) = some l ∧ Trd enc W m e l d ∧ ∀ v ∈ d.1.weights Try.prog e, v ≤ reachBytes := fun i hi => by
        have he := helem i hi
        rw [List.getElem?_eq_getElem (by omega)] at he
        obtain ⟨l, hl1, hl2⟩ := Option.bind_eq_some_iff.1 he
        refine ⟨l, _, n', hl1, hl2, fun v hv => hw v ?_⟩
        rw [hy3]
        simp only [DataW.weights, hu]
        refine List.mem_cons_of_mem _ (List.mem_append_left _ (all_mem (i := i) (d := (elems[i]'(by omega)).1) ?_ v hv))
        rw [List.getElem?_map, List.getElem?_eq_getElem (by omega)]
        rfl
      obtain ⟨b, o, sp⟩ := a
      have hspt : sp = none := by
        obtain ⟨l, d, m, hl, _⟩ := each 0 (by omega)
        unfold World.cells? at hl
        rw [if_pos (Nat.zero_le _)] at hl
        obtain ⟨v, _, hf⟩ := Lib.mapM_at hl 0 0 (by simp [hc0])
        simpa [Addr.add] using World.cell?_spot hf
      subst hspt
      exact ⟨b, o, rfl, fun i hi => by have := each i hi; rw [add_off] at this; exact this⟩
theorem cells_at {w : World} {b o c : Nat} {l : List Value} (h : w.cells? 0 ⟨b, o, none⟩ c = some l) : l.length = c ∧ ∀ j, j < c → w.cell? ⟨b, o + j, none⟩ = l[j]? := by
  unfold World.cells? at h
  rw [if_pos (Nat.zero_le _)] at h
  refine ⟨by have := Lib.mapM_length h; simpa using this, fun j hj => ?_⟩
  obtain ⟨v, hb, hf⟩ := Lib.mapM_at h j j (by simp [hj])
  rw [add_off] at hf
  rw [hf, hb]
theorem cell_lt {w : World} {b o : Nat} {v : Value} (h : w.cell? ⟨b, o, none⟩ = some v) : b < w.heap.size := by
  refine Decidable.byContradiction fun hb => ?_
  unfold World.cell? at h
  simp [Array.getElem?_eq_none (show w.heap.size ≤ b by omega)] at h
theorem list1 {α : Type} (l : List α) (h : l.length = 1) : ∃ a, l = [a] := by
  match l, h with
  | [a], _ => exact ⟨a, rfl⟩
theorem ce3 : Try.prog.cellsOf 3 = 1 := by kernel_rfl
theorem ce5 : Try.prog.cellsOf 5 = 1 := by kernel_rfl
theorem ce25 : Try.prog.cellsOf 25 = 1 := by kernel_rfl
theorem ce33 : Try.prog.cellsOf 33 = 1 := by kernel_rfl
theorem by3 : Try.prog.bytesOf 3 = 8 := by kernel_rfl
theorem by5 : Try.prog.bytesOf 5 = 1 := by kernel_rfl
theorem by25 : Try.prog.bytesOf 25 = 24 := by kernel_rfl
theorem by33 : Try.prog.bytesOf 33 = 24 := by kernel_rfl
/-- The one cell of each element, and that it can be opened. -/
theorem view_one {H : Type} {enc : TypeId × Value → H} {W : World} {n : Nat} {t e : TypeId} {c : Value} {y : DataW H × List MemPlace} (hu : Try.prog.underlying t = some (.slice e)) (hc1 : Try.prog.cellsOf e = 1) (h : Trd enc W n t [c] y) (hw : ∀ v ∈ y.1.weights Try.prog t, v ≤ reachBytes) :
    ∃ (ao : Option Addr) (len cap : Nat), c = .slice ao len cap ∧ len ≤ cap ∧ cap ≤ maxLen ∧ len * Try.prog.bytesOf e ≤ reachBytes ∧ ∃ u : Nat → Value, (len = 0 ∨ ∃ b o, ao = some ⟨b, o, none⟩ ∧ b < W.heap.size ∧ ∀ i, i < len → W.cell? ⟨b, o + i, none⟩ = some (u i)) ∧ ∀ i, i < len → ∃ d m, Trd enc W m e [u i] d ∧ ∀ v ∈ d.1.weights Try.prog e, v ≤ reachBytes := by
  obtain ⟨ao, len, cap, h1, h2, h3, h4, h5⟩ := view_row hu h hw (by omega)
  rw [hc1] at h5
  refine ⟨ao, len, cap, h1, h2, h3, h4, ?_⟩
  rcases h5 with h5 | ⟨b, o, e1, hc⟩
  · exact ⟨fun _ => undef, .inl h5, fun i hi => by omega⟩
  · have each : ∀ i, ∃ u : Value, i < len → W.cell? ⟨b, o + i, none⟩ = some u ∧ ∃ d m, Trd enc W m e [u] d ∧ ∀ v ∈ d.1.weights Try.prog e, v ≤ reachBytes := fun i => by
      by_cases hi : i < len
      · obtain ⟨l, d, m, hl, ht, hwt⟩ := hc i hi
        obtain ⟨hl1, hcell⟩ := cells_at hl
        obtain ⟨u, rfl⟩ := list1 l hl1
        have := hcell 0 (by omega)
        exact ⟨u, fun _ => ⟨by simpa using this, d, m, ht, hwt⟩⟩
      · exact ⟨undef, fun h => absurd h hi⟩
    obtain ⟨f, hf⟩ := Classical.axiomOfChoice each
    by_cases h0 : len = 0
    · exact ⟨f, .inl h0, fun i hi => by omega⟩
    · exact ⟨f, .inr ⟨b, o, e1, cell_lt (hf 0 (by omega)).1, fun i hi => (hf i hi).1⟩, fun i hi => (hf i hi).2⟩
theorem ga_map (f : Nat → Int) (n i : Nat) (hi : i < n) : ga ((List.range n).map f) i = f i := by simp [ga, hi]
/-- A row of ints that came in. -/
theorem view_ints {H : Type} {enc : TypeId × Value → H} {W : World} {n : Nat} {c : Value} {y : DataW H × List MemPlace} (h : Trd enc W n 25 [c] y) (hw : ∀ v ∈ y.1.weights Try.prog 25, v ≤ reachBytes) : ∃ r : List Int, Rd W W.heap.size c r := by
  obtain ⟨ao, len, cap, rfl, h2, h3, h4, u, hcs, hel⟩ := view_one Try.underlying25 ce3 h hw
  rw [by3] at h4
  have each : ∀ i, ∃ z : Int, i < len → u i = .int .i64 z := fun i => by
    by_cases hi : i < len
    · obtain ⟨d, m, ht, _⟩ := hel i hi
      obtain ⟨k, e, _⟩ := DataW.trod_int Try.underlying3 ht
      simp only [List.cons.injEq, and_true] at e
      exact ⟨k, fun _ => e⟩
    · exact ⟨0, fun h => absurd h hi⟩
  obtain ⟨f, hf⟩ := Classical.axiomOfChoice each
  have hm : maxLen = 9223372036854775807 := rfl
  have hl : ((List.range len).map f).length = len := by simp
  unfold reachBytes at h4
  refine ⟨(List.range len).map f, ao, cap, by rw [hl], by omega, ⟨by omega, by omega⟩, ?_⟩
  rcases hcs with e | ⟨b, o, e, hb, hc⟩
  · exact .inl (by rw [e]; rfl)
  · exact .inr ⟨b, o, e, hb, fun i hi => by rw [hl] at hi; rw [hc i hi, hf i hi, ga_map f len i hi]⟩
/-- Lists of ints that came in. -/
theorem view_lists {H : Type} {enc : TypeId × Value → H} {W : World} {n : Nat} {c : Value} {y : DataW H × List MemPlace} (h : Trd enc W n 22 [c] y) (hw : ∀ v ∈ y.1.weights Try.prog 22, v ≤ reachBytes) : ∃ l : List (List Int), LL W W.heap.size c l := by
  obtain ⟨ao, len, cap, rfl, h2, h3, h4, u, hcs, hel⟩ := view_one Try.underlying22 ce25 h hw
  rw [by25] at h4
  have each : ∀ i, ∃ r : List Int, i < len → Rd W W.heap.size (u i) r := fun i => by
    by_cases hi : i < len
    · obtain ⟨d, m, ht, hwt⟩ := hel i hi
      obtain ⟨r, hr⟩ := view_ints ht hwt
      exact ⟨r, fun _ => hr⟩
    · exact ⟨[], fun h => absurd h hi⟩
  obtain ⟨f, hf⟩ := Classical.axiomOfChoice each
  have hm : maxLen = 9223372036854775807 := rfl
  have hl : ((List.range len).map f).length = len := by simp
  unfold reachBytes at h4
  refine ⟨(List.range len).map f, ao, cap, by rw [hl], by omega, ⟨by omega, by omega⟩, u, ?_, fun i hi => ?_⟩
  · rcases hcs with e | ⟨b, o, e, hb, hc⟩
    · exact .inl (by omega)
    · exact .inr ⟨b, o, e, hb, fun i hi => hc i (by omega)⟩
  · rw [hl] at hi
    have : ((List.range len).map f).getD i [] = f i := by simp [hi]
    rw [this]
    exact hf i hi
/-- Lists of ints that came in, as an argument. -/
theorem viewG {H : Type} {enc : TypeId × Value → H} {W : World} {base : Nat} {v : Value} {d : DataW H} {p : List MemPlace} {ts : List TypeId} {ds : List (DataW H)} {j : Nat}
    (hv : Value.okWide Try.prog W .any base 22 v) (hd : DataW.Trod enc Try.prog W 0 (fun _ => true) true 22 v d p) (hsz : (DataW.weightsEach Try.prog ts ds).all (· ≤ reachBytes) = true) (ht : ts[j]? = some 22) (hdj : ds[j]? = some d) : ∃ l : List (List Int), LL W W.heap.size v l := by
  obtain ⟨a, len, cap, rfl⟩ := okWide_slice Try.underlying22 hv
  obtain ⟨fuel, hf⟩ := hd
  exact view_lists (show Trd enc W fuel 22 [.slice a len cap] (d, p) from hf) (fun u hu => by
    have := List.all_eq_true.1 hsz _ (DataW.weights_mem_each ht hdj u hu)
    simpa using this)
end Go.Proofs.Ytdhjedpgdhageaa.Ord
