/-
  What came in: a setup, lists of numbers and of bytes, a table, a sending, a setting.
-/
import Derived.Test.YtobmnndimlhfpaaGreatDoorSmWalk
import Derived.Test.YtobmnndimlhfpaaGreatDoorTie
import Derived.Test.YtobmnndimlhfpaaGreatDoorCards
import Derived.ProofKit
import Derived.OpenShut
import Derived.ShutString
import Derived.ChangeOld
import Derived.LaidMore
import Derived.SizedLaws
import Derived.Lib.LaidTab
import Derived.Lib.SmallJoins
import Derived.Stop.LaidErr
namespace Go.Proofs.YtobmnndimlhfpaaGreatDoor.Slo
open Go.ChangeShapes Go.WideShapes Go.ChangeAt Go.RowKit Go.Joins
theorem ownGo : ownKnob Tryz.prog.godebug = none := by kernel_rfl
theorem laidOut : laidOutB Tryz.prog = true := by kernel_rfl
def laidL : List (String × DataW Unit) := [("math/bits.deBruijn32tab", Rows.laid_math_bits_deBruijn32tab), ("math/bits.deBruijn64tab", Rows.laid_math_bits_deBruijn64tab), ("internal/strconv.uint64pow10", Rows.laid_internal_strconv_uint64pow10)]
theorem door_met (os : Os) (args : Array Value) : laidMetH Tryz.prog laidL ((World.doorLaid Tryz.prog 43 os).forCall (fun _ _ => 0) ⟨#[], args, []⟩).memory :=
  laidMetH_of_parts3 (fuel := 8) (laidMet_of_run' 8 (by kernel_rfl) (by kernel_rfl)) (by kernel_rfl) (by kernel_rfl)
theorem wid_of_laid {W : World} (_ : laidMetH Tryz.prog laidL W) : True := trivial
theorem all_mem {H : Type} {P : Program} {e : TypeId} : ∀ {l : List (DataW H)} {i : Nat} {d : DataW H}, l[i]? = some d → ∀ v ∈ d.weights P e, v ∈ DataW.weightsAll P e l
  | [], i, d, h => by simp at h
  | x :: l, 0, d, h => by simp at h; subst h; intro v hv; rw [DataW.weightsAll]; exact List.mem_append_left _ hv
  | x :: l, i + 1, d, h => by simp at h; intro v hv; rw [DataW.weightsAll]; exact List.mem_append_right _ (all_mem h v hv)
abbrev Trd {H : Type} (enc : TypeId × Value → H) (W : World) (n : Nat) (t : TypeId) (cs : List Value) (y : DataW H × List MemPlace) : Prop := DataW.trod enc Tryz.prog W 0 (fun _ => true) true n t cs = some y
theorem add_off (b o j : Nat) : (⟨b, o, none⟩ : Addr).add j = ⟨b, o + j, none⟩ := by unfold Addr.add; split <;> simp_all
/-- A slice that came in: where its elements lie, and that each can be opened. -/
theorem view_row {H : Type} {enc : TypeId × Value → H} {W : World} {n : Nat} {t e : TypeId} {c : Value} {y : DataW H × List MemPlace} (hu : Tryz.prog.underlying t = some (.slice e)) (h : Trd enc W n t [c] y) (hw : ∀ v ∈ y.1.weights Tryz.prog t, v ≤ reachBytes) (hc0 : 0 < Tryz.prog.cellsOf e) :
    ∃ (ao : Option Addr) (len cap : Nat), c = .slice ao len cap ∧ len ≤ cap ∧ cap ≤ maxLen ∧ len * Tryz.prog.bytesOf e ≤ reachBytes ∧ (len = 0 ∨ ∃ b o, ao = some ⟨b, o, none⟩ ∧ ∀ i, i < len → ∃ l d m, (W.cells? 0 ⟨b, o + i * Tryz.prog.cellsOf e, none⟩ (Tryz.prog.cellsOf e)) = some l ∧ Trd enc W m e l d ∧ ∀ v ∈ d.1.weights Tryz.prog e, v ≤ reachBytes) := by
  rcases DataW.trod_slice hu h with ⟨hc, _⟩ | ⟨a, len, cap, elems, rest, n', hn', hc, hy3, hb, hlc, hcm, hel, helem, hsp, _⟩
  · simp only [List.cons.injEq, and_true] at hc
    exact ⟨none, 0, 0, hc, Nat.le_refl _, by simp [maxLen], by simp [reachBytes], .inl rfl⟩
  · simp only [List.cons.injEq, and_true] at hc
    subst hc
    have hwl : (len + rest.length) * Tryz.prog.bytesOf e ≤ reachBytes := by
      have := hw ((elems.map (·.1)).length + (rest.map (·.1)).length |> (· * Tryz.prog.bytesOf e)) (by rw [hy3]; simp [DataW.weights, hu])
      simpa [hel] using this
    refine ⟨some a, len, cap, rfl, hlc, hcm, Nat.le_trans (Nat.mul_le_mul_right _ (by omega)) hwl, ?_⟩
    by_cases h00 : len = 0
    · exact .inl h00
    · right
      have each : ∀ i, i < len → ∃ l d m, (W.cells? 0 (a.add (i * Tryz.prog.cellsOf e)) (Tryz.prog.cellsOf e)) = some l ∧ Trd enc W m e l d ∧ ∀ v ∈ d.1.weights Tryz.prog e, v ≤ reachBytes := fun i hi => by
        have he := helem i hi
        rw [List.getElem?_eq_getElem (by omega)] at he
        obtain ⟨l, hl1, hl2⟩ := Option.bind_eq_some_iff.1 he
        refine ⟨l, _, n', hl1, hl2, fun v hv => hw v ?_⟩
        rw [hy3]
        simp only [DataW.weights, hu]
        refine List.mem_cons_of_mem _ (List.mem_append_left _ (all_mem (i := i) (d := (elems[i]'(by omega)).1) ?_ v hv))
        rw [List.getElem?_map, List.getElem?_eq_getElem (by omega)]
        rfl
      obtain ⟨b, o, sp⟩ := a
      have hspt : sp = none := by
        obtain ⟨l, d, m, hl, _⟩ := each 0 (by omega)
        unfold World.cells? at hl
        rw [if_pos (Nat.zero_le _)] at hl
        obtain ⟨v, _, hf⟩ := Lib.mapM_at hl 0 0 (by simp [hc0])
        simpa [Addr.add] using World.cell?_spot hf
      subst hspt
      exact ⟨b, o, rfl, fun i hi => by have := each i hi; rw [add_off] at this; exact this⟩
theorem cells_at {w : World} {b o c : Nat} {l : List Value} (h : w.cells? 0 ⟨b, o, none⟩ c = some l) : l.length = c ∧ ∀ j, j < c → w.cell? ⟨b, o + j, none⟩ = l[j]? := by
  unfold World.cells? at h
  rw [if_pos (Nat.zero_le _)] at h
  refine ⟨by have := Lib.mapM_length h; simpa using this, fun j hj => ?_⟩
  obtain ⟨v, hb, hf⟩ := Lib.mapM_at h j j (by simp [hj])
  rw [add_off] at hf
  rw [hf, hb]
theorem list1 {α : Type} (l : List α) (h : l.length = 1) : ∃ a, l = [a] := by
  match l, h with
  | [a], _ => exact ⟨a, rfl⟩
theorem ce3 : Tryz.prog.cellsOf 3 = 1 := by kernel_rfl
theorem by3 : Tryz.prog.bytesOf 3 = 8 := by kernel_rfl
/-- The one cell of each element, and that it can be opened. -/
theorem view_one {H : Type} {enc : TypeId × Value → H} {W : World} {n : Nat} {t e : TypeId} {c : Value} {y : DataW H × List MemPlace} (hu : Tryz.prog.underlying t = some (.slice e)) (hc1 : Tryz.prog.cellsOf e = 1) (h : Trd enc W n t [c] y) (hw : ∀ v ∈ y.1.weights Tryz.prog t, v ≤ reachBytes) :
    ∃ (ao : Option Addr) (len cap : Nat), c = .slice ao len cap ∧ len ≤ cap ∧ cap ≤ maxLen ∧ len * Tryz.prog.bytesOf e ≤ reachBytes ∧ ∃ u : Nat → Value, (len = 0 ∨ ∃ b o, ao = some ⟨b, o, none⟩ ∧ b < W.heap.size ∧ ∀ i, i < len → W.cell? ⟨b, o + i, none⟩ = some (u i)) ∧ ∀ i, i < len → ∃ d m, Trd enc W m e [u i] d ∧ ∀ v ∈ d.1.weights Tryz.prog e, v ≤ reachBytes := by
  obtain ⟨ao, len, cap, h1, h2, h3, h4, h5⟩ := view_row hu h hw (by omega)
  rw [hc1] at h5
  refine ⟨ao, len, cap, h1, h2, h3, h4, ?_⟩
  rcases h5 with h5 | ⟨b, o, e1, hc⟩
  · exact ⟨fun _ => undef, .inl h5, fun i hi => by omega⟩
  · have each : ∀ i, ∃ u : Value, i < len → W.cell? ⟨b, o + i, none⟩ = some u ∧ ∃ d m, Trd enc W m e [u] d ∧ ∀ v ∈ d.1.weights Tryz.prog e, v ≤ reachBytes := fun i => by
      by_cases hi : i < len
      · obtain ⟨l, d, m, hl, ht, hwt⟩ := hc i hi
        obtain ⟨hl1, hcell⟩ := cells_at hl
        obtain ⟨u, rfl⟩ := list1 l hl1
        have := hcell 0 (by omega)
        exact ⟨u, fun _ => ⟨by simpa using this, d, m, ht, hwt⟩⟩
      · exact ⟨undef, fun h => absurd h hi⟩
    obtain ⟨f, hf⟩ := Classical.axiomOfChoice each
    by_cases h0 : len = 0
    · exact ⟨f, .inl h0, fun i hi => by omega⟩
    · exact ⟨f, .inr ⟨b, o, e1, cell_lt (hf 0 (by omega)).1, fun i hi => (hf i hi).1⟩, fun i hi => (hf i hi).2⟩
theorem ga_map (f : Nat → Int) (n i : Nat) (hi : i < n) : ga ((List.range n).map f) i = f i := by simp [ga, hi]
/-- A row of ints that came in. -/
theorem view_ints {H : Type} {enc : TypeId × Value → H} {W : World} {n : Nat} {c : Value} {y : DataW H × List MemPlace} (h : Trd enc W n 24 [c] y) (hw : ∀ v ∈ y.1.weights Tryz.prog 24, v ≤ reachBytes) : ∃ r : List Int, Rd W W.heap.size c r := by
  obtain ⟨ao, len, cap, rfl, h2, h3, h4, u, hcs, hel⟩ := view_one Tryz.underlying24 ce3 h hw
  rw [by3] at h4
  have each : ∀ i, ∃ z : Int, i < len → u i = .int .i64 z := fun i => by
    by_cases hi : i < len
    · obtain ⟨d, m, ht, _⟩ := hel i hi
      obtain ⟨k, e, _⟩ := DataW.trod_int Tryz.underlying3 ht
      simp only [List.cons.injEq, and_true] at e
      exact ⟨k, fun _ => e⟩
    · exact ⟨0, fun h => absurd h hi⟩
  obtain ⟨f, hf⟩ := Classical.axiomOfChoice each
  have hm : maxLen = 9223372036854775807 := rfl
  have hl : ((List.range len).map f).length = len := by simp
  unfold reachBytes at h4
  refine ⟨(List.range len).map f, ao, cap, by rw [hl], by omega, ⟨by omega, by omega⟩, ?_⟩
  rcases hcs with e | ⟨b, o, e, hb, hc⟩
  · exact .inl (by rw [e]; rfl)
  · exact .inr ⟨b, o, e, hb, fun i hi => by rw [hl] at hi; rw [hc i hi, hf i hi, ga_map f len i hi]⟩
theorem ce23 : Tryz.prog.cellsOf 23 = 5 := by kernel_rfl
theorem ce24 : Tryz.prog.cellsOf 24 = 1 := by kernel_rfl
theorem ce25 : Tryz.prog.cellsOf 25 = 1 := by kernel_rfl
theorem ce27 : Tryz.prog.cellsOf 27 = 3 := by kernel_rfl
theorem ce64 : Tryz.prog.cellsOf 64 = 3 := by kernel_rfl
theorem ce29 : Tryz.prog.cellsOf 29 = 10 := by kernel_rfl
theorem by64 : Tryz.prog.bytesOf 64 = 24 := by kernel_rfl
theorem list5S {l : List Value} (h : l.length = 5) : ∃ a0 a1 a2 a3 a4, l = [a0, a1, a2, a3, a4] := by match l, h with | [a0, a1, a2, a3, a4], _ => exact ⟨a0, a1, a2, a3, a4, rfl⟩
theorem array5S {c : Array Value} (h : c.size = 5) : ∃ a0 a1 a2 a3 a4, c = #[a0, a1, a2, a3, a4] := by
  obtain ⟨l⟩ := c
  obtain ⟨a0, a1, a2, a3, a4, rfl⟩ := list5S (by simpa using h)
  exact ⟨a0, a1, a2, a3, a4, rfl⟩
theorem list8S {l : List Value} (h : l.length = 8) : ∃ a0 a1 a2 a3 a4 a5 a6 a7, l = [a0, a1, a2, a3, a4, a5, a6, a7] := by match l, h with | [a0, a1, a2, a3, a4, a5, a6, a7], _ => exact ⟨a0, a1, a2, a3, a4, a5, a6, a7, rfl⟩
theorem array8S {c : Array Value} (h : c.size = 8) : ∃ a0 a1 a2 a3 a4 a5 a6 a7, c = #[a0, a1, a2, a3, a4, a5, a6, a7] := by
  obtain ⟨l⟩ := c
  obtain ⟨a0, a1, a2, a3, a4, a5, a6, a7, rfl⟩ := list8S (by simpa using h)
  exact ⟨a0, a1, a2, a3, a4, a5, a6, a7, rfl⟩
theorem list10S {l : List Value} (h : l.length = 10) : ∃ a0 a1 a2 a3 a4 a5 a6 a7 a8 a9, l = [a0, a1, a2, a3, a4, a5, a6, a7, a8, a9] := by match l, h with | [a0, a1, a2, a3, a4, a5, a6, a7, a8, a9], _ => exact ⟨a0, a1, a2, a3, a4, a5, a6, a7, a8, a9, rfl⟩
theorem array10S {c : Array Value} (h : c.size = 10) : ∃ a0 a1 a2 a3 a4 a5 a6 a7 a8 a9, c = #[a0, a1, a2, a3, a4, a5, a6, a7, a8, a9] := by
  obtain ⟨l⟩ := c
  obtain ⟨a0, a1, a2, a3, a4, a5, a6, a7, a8, a9, rfl⟩ := list10S (by simpa using h)
  exact ⟨a0, a1, a2, a3, a4, a5, a6, a7, a8, a9, rfl⟩
theorem list3S {l : List Value} (h : l.length = 3) : ∃ a0 a1 a2, l = [a0, a1, a2] := by match l, h with | [a0, a1, a2], _ => exact ⟨a0, a1, a2, rfl⟩
theorem view_int {H : Type} {enc : TypeId × Value → H} {W : World} {n : Nat} {c : Value} {y : DataW H × List MemPlace} (h : Trd enc W n 3 [c] y) : ∃ z : Int, c = .int .i64 z := by
  obtain ⟨k, e, _⟩ := DataW.trod_int Tryz.underlying3 h
  simp only [List.cons.injEq, and_true] at e
  exact ⟨k, e⟩
theorem view_su {H : Type} {enc : TypeId × Value → H} {W : World} {n : Nat} {c0 c1 c2 c3 c4 : Value} {y : DataW H × List MemPlace} (h : Trd enc W n 23 [c0, c1, c2, c3, c4] y) : ∃ s : Su, [c0, c1, c2, c3, c4] = (suC s).toList := by
  obtain ⟨xs, m, _, hx, hl, hlen, hfs⟩ := DataW.trod_struct Tryz.underlying23 h
  match xs, hlen with
  | [y0, y1, y2, y3, y4], _ =>
    have h0 : Trd enc W m 3 [c0] y0 := by simpa [ce3, Value.cells] using hfs 0 _ rfl
    have h1 : Trd enc W m 3 [c1] y1 := by simpa [ce3, Value.cells] using hfs 1 _ rfl
    have h2 : Trd enc W m 3 [c2] y2 := by simpa [ce3, Value.cells] using hfs 2 _ rfl
    have h3 : Trd enc W m 3 [c3] y3 := by simpa [ce3, Value.cells] using hfs 3 _ rfl
    have h4 : Trd enc W m 3 [c4] y4 := by simpa [ce3, Value.cells] using hfs 4 _ rfl
    obtain ⟨z0, rfl⟩ := view_int h0
    obtain ⟨z1, rfl⟩ := view_int h1
    obtain ⟨z2, rfl⟩ := view_int h2
    obtain ⟨z3, rfl⟩ := view_int h3
    obtain ⟨z4, rfl⟩ := view_int h4
    exact ⟨⟨z0, z1, z2, z3, z4⟩, rfl⟩
/-- Slots that came in. -/
theorem view_slots {H : Type} {enc : TypeId × Value → H} {W : World} {n : Nat} {c : Value} {y : DataW H × List MemPlace} (h : Trd enc W n 25 [c] y) (hw : ∀ v ∈ y.1.weights Tryz.prog 25, v ≤ reachBytes) : ∃ l : List Sl, SlR W W.heap.size c l := by
  obtain ⟨ao, len, cap, rfl, h2, h3, h4, h5⟩ := view_row Tryz.underlying25 h hw (by rw [ce64]; omega)
  rw [by64] at h4
  rw [ce64] at h5
  have each : ∀ i, ∃ z : Sl, i < len → ∃ b o, ao = some ⟨b, o, none⟩ ∧ b < W.heap.size ∧ W.cell? ⟨b, o + i * 3, none⟩ = some (.int .i64 z.1) ∧ W.cell? ⟨b, o + i * 3 + 1, none⟩ = some (.int .i64 z.2.1) ∧ W.cell? ⟨b, o + i * 3 + 2, none⟩ = some (.int .i64 z.2.2) := fun i => by
    by_cases hi : i < len
    · obtain ⟨b, o, rfl, hc⟩ := h5.resolve_left (by omega)
      obtain ⟨l, d, m, hl, ht, _⟩ := hc i hi
      obtain ⟨hll, hcell⟩ := cells_at hl
      obtain ⟨a0, a1, a2, rfl⟩ := list3S hll
      obtain ⟨xs, m', _, hx, _, hlen, hfs⟩ := DataW.trod_struct Tryz.underlying64 ht
      match xs, hlen with
      | [y0, y1, y2], _ =>
        have g0 : Trd enc W m' 3 [a0] y0 := by simpa [ce3, Value.cells] using hfs 0 _ rfl
        have g1 : Trd enc W m' 3 [a1] y1 := by simpa [ce3, Value.cells] using hfs 1 _ rfl
        have g2 : Trd enc W m' 3 [a2] y2 := by simpa [ce3, Value.cells] using hfs 2 _ rfl
        obtain ⟨z0, rfl⟩ := view_int g0
        obtain ⟨z1, rfl⟩ := view_int g1
        obtain ⟨z2, rfl⟩ := view_int g2
        have k0 := hcell 0 (by omega)
        have k1 := hcell 1 (by omega)
        have k2 := hcell 2 (by omega)
        exact ⟨(z0, z1, z2), fun _ => ⟨b, o, rfl, cell_lt k0, by simpa using k0, by simpa using k1, by simpa using k2⟩⟩
    · exact ⟨(0, 0, 0), fun h => absurd h hi⟩
  obtain ⟨f, hf⟩ := Classical.axiomOfChoice each
  have hm : maxLen = 9223372036854775807 := rfl
  have hl : ((List.range len).map f).length = len := by simp
  unfold reachBytes at h4
  refine ⟨(List.range len).map f, ao, cap, by rw [hl], by omega, ⟨by omega, by omega⟩, ?_⟩
  by_cases h0 : len = 0
  · exact .inl (by rw [h0]; rfl)
  · obtain ⟨b, o, e, hb, _⟩ := hf 0 (by omega)
    refine .inr ⟨b, o, e, hb, fun i hi => ?_⟩
    rw [hl] at hi
    obtain ⟨b', o', e', _, k0, k1, k2⟩ := hf i hi
    rw [e] at e'
    injection e' with e'
    injection e' with e1 e2 _
    subst e1 e2
    have g : ((List.range len).map f).getD i (0, 0, 0) = f i := by simp [hi]
    exact ⟨by rw [sO, g]; exact k0, by rw [sS, g]; exact k1, by rw [sH, g]; exact k2⟩
/-- The weights of one argument. -/
theorem weigh {H : Type} {d : DataW H} {ts : List TypeId} {ds : List (DataW H)} {j : Nat} {t : TypeId} (hsz : (DataW.weightsEach Tryz.prog ts ds).all (· ≤ reachBytes) = true) (ht : ts[j]? = some t) (hdj : ds[j]? = some d) : ∀ v ∈ d.weights Tryz.prog t, v ≤ reachBytes := fun u hu => by
  have := List.all_eq_true.1 hsz _ (DataW.weights_mem_each ht hdj u hu)
  simpa using this
set_option maxRecDepth 100000 in
theorem viewT {H : Type} {enc : TypeId × Value → H} {W : World} {base : Nat} {v : Value} {d : DataW H} {p : List MemPlace} {ts : List TypeId} {ds : List (DataW H)} {j : Nat}
    (hv : Value.okWide Tryz.prog W .any base 29 v) (hd : DataW.Trod enc Tryz.prog W 0 (fun _ => true) true 29 v d p) (hsz : (DataW.weightsEach Tryz.prog ts ds).all (· ≤ reachBytes) = true) (ht : ts[j]? = some 29) (hdj : ds[j]? = some d) :
    ∃ (s : Su) (r : List Int) (l : List Sl) (R G z : Int) (a u : Value), v = .agg (stC s a u R G z) ∧ Rd W W.heap.size a r ∧ SlR W W.heap.size u l := by
  obtain ⟨cs, rfl, hz⟩ := okWide_struct Tryz.underlying29 hv
  obtain ⟨c0, c1, c2, c3, c4, c5, c6, c7, c8, c9, rfl⟩ := array10S (by rw [hz]; exact ce29)
  obtain ⟨fuel, hf⟩ := hd
  have hw := weigh hsz ht hdj
  obtain ⟨xs, m, _, hx, hl, hlen, hfs⟩ := DataW.trod_struct Tryz.underlying29 hf
  match xs, hlen with
  | [y0, y1, y2, y3], _ =>
    have h0 : Trd enc W m 23 [c0, c1, c2, c3, c4] y0 := by simpa [ce23, Value.cells] using hfs 0 _ rfl
    have h1 : Trd enc W m 24 [c5] y1 := by simpa [ce24, Value.cells] using hfs 1 _ rfl
    have h2 : Trd enc W m 27 [c6, c7, c8] y2 := by simpa [ce27, Value.cells] using hfs 2 _ rfl
    have h3 : Trd enc W m 3 [c9] y3 := by simpa [ce3, Value.cells] using hfs 3 _ rfl
    simp only [Prod.mk.injEq] at hx
    obtain ⟨rfl, _⟩ := hx
    have hw2 : ∀ v ∈ y2.1.weights Tryz.prog 27, v ≤ reachBytes := fun v hv => hw v (by simp [DataW.weights, Tryz.underlying29, DataW.weightsEach]; right; right; left; exact hv)
    obtain ⟨s, e⟩ := view_su h0
    simp only [List.cons.injEq, and_true] at e
    obtain ⟨rfl, rfl, rfl, rfl, rfl⟩ := e
    obtain ⟨r, hr⟩ := view_ints h1 (fun v hv => hw v (by simp [DataW.weights, Tryz.underlying29, DataW.weightsEach]; right; left; exact hv))
    obtain ⟨z, rfl⟩ := view_int h3
    obtain ⟨zs, m3, _, hx3, _, hlen3, hfs3⟩ := DataW.trod_struct Tryz.underlying27 h2
    match zs, hlen3 with
    | [z0, z1, z2], _ =>
      have g0 : Trd enc W m3 25 [c6] z0 := by simpa [ce25, Value.cells] using hfs3 0 _ rfl
      have g1 : Trd enc W m3 3 [c7] z1 := by simpa [ce3, Value.cells] using hfs3 1 _ rfl
      have g2 : Trd enc W m3 3 [c8] z2 := by simpa [ce3, Value.cells] using hfs3 2 _ rfl
      obtain ⟨l, hsl⟩ := view_slots g0 (fun v hv => hw2 v (by rw [hx3]; simp [DataW.weights, Tryz.underlying27, DataW.weightsEach]; left; exact hv))
      obtain ⟨R, rfl⟩ := view_int g1
      obtain ⟨G, rfl⟩ := view_int g2
      exact ⟨s, r, l, R, G, z, _, _, rfl, hr, hsl⟩
end Go.Proofs.YtobmnndimlhfpaaGreatDoor.Slo
