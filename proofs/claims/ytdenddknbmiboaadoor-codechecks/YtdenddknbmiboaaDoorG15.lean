/-
  A program that came in, opened once.
  What the package-level variables hold when a law of stage 8 begins.
  A byte that came in, as a number.
  What came in: places, instructions, what is spoilt.
-/
import Derived.Test.YtdenddknbmiboaaDoorG14
import Derived.Test.YtdenddknbmiboaaDoorG3
import Derived.Test.YtdenddknbmiboaaDoorG2
import Derived.Test.YtdenddknbmiboaaDoorG5
import Derived.Test.YtdenddknbmiboaaDoorTie
import Derived.Test.YtdenddknbmiboaaDoorCards
import Derived.ProofKit
import Derived.OpenShut
import Derived.ShutString
import Derived.ChangeOld
import Derived.LaidMore
import Derived.SizedLaws
import Derived.Lib.LaidTab
import Derived.Lib.SmallJoins
import Derived.Stop.LaidErr
namespace Go.Proofs.YtdenddknbmiboaaDoor.Lex
open Go.ChangeShapes Go.WideShapes Go.ChangeAt Go.RowKit Go.Joins
theorem cells30 : Tryd.prog.cellsOf 27 = 1 := by kernel_rfl
theorem cells44 : Tryd.prog.cellsOf 73 = 3 := by kernel_rfl
theorem cells50 : Tryd.prog.cellsOf 76 = 8 := by kernel_rfl
theorem cells26 : Tryd.prog.cellsOf 46 = 4 := by kernel_rfl
theorem cellsS22 : Tryd.prog.cellsOf 42 = 1 := by kernel_rfl
theorem cellsS23 : Tryd.prog.cellsOf 43 = 1 := by kernel_rfl
theorem cellsS24 : Tryd.prog.cellsOf 44 = 1 := by kernel_rfl
theorem bytes44 : Tryd.prog.bytesOf 73 = 32 := by kernel_rfl
theorem bytes50 : Tryd.prog.bytesOf 76 = 96 := by kernel_rfl
theorem bytes9 : Tryd.prog.bytesOf 9 = 16 := by kernel_rfl
abbrev Trd {H : Type} (enc : TypeId × Value → H) (W : World) (n : Nat) (t : TypeId) (cs : List Value) (y : DataW H × List MemPlace) : Prop := DataW.trod enc Tryd.prog W 0 (fun _ => true) true n t cs = some y
theorem view_str {H : Type} {enc : TypeId × Value → H} {W : World} {n : Nat} {c : Value} {y : DataW H × List MemPlace} (h : Trd enc W n 9 [c] y) (hw : ∀ v ∈ y.1.weights Tryd.prog 9, v ≤ reachBytes) : ∃ nm : ByteArray, c = .string nm ∧ nm.size ≤ 140737488355328 := by
  obtain ⟨nm, e, hy, _⟩ := DataW.trod_string Tryd.underlying9 h
  simp only [List.cons.injEq, and_true] at e
  subst e
  refine ⟨nm, rfl, ?_⟩
  have := hw nm.data.toList.length (by rw [hy]; simp [DataW.weights])
  rw [← Lib.size_eq] at this
  unfold reachBytes at this
  omega
theorem view_u8 {H : Type} {enc : TypeId × Value → H} {W : World} {n : Nat} {t : TypeId} {c : Value} {y : DataW H × List MemPlace} (hu : Tryd.prog.underlying t = some (.int .u8)) (h : Trd enc W n t [c] y) : ∃ u : Nat, c = .int .u8 (u : Int) ∧ u < 256 := by
  obtain ⟨k, e, _, w0⟩ := DataW.trod_int hu h
  simp only [List.cons.injEq, and_true] at e
  subst e
  have hk : 0 ≤ k ∧ k < 256 := by
    simp [Lit.wf, IntKind.min, IntKind.max, IntKind.signed, IntKind.bits] at w0
    omega
  exact ⟨k.toNat, by rw [Int.toNat_of_nonneg hk.1], by omega⟩
theorem view_i64 {H : Type} {enc : TypeId × Value → H} {W : World} {n : Nat} {t : TypeId} {c : Value} {y : DataW H × List MemPlace} (hu : Tryd.prog.underlying t = some (.int .i64)) (h : Trd enc W n t [c] y) : ∃ k : Int, c = .int .i64 k ∧ (-9223372036854775808 ≤ k ∧ k ≤ 9223372036854775807) := by
  obtain ⟨k, e, _, w0⟩ := DataW.trod_int hu h
  simp only [List.cons.injEq, and_true] at e
  subst e
  have hk : -9223372036854775808 ≤ k ∧ k ≤ 9223372036854775807 := by
    simp [Lit.wf, IntKind.min, IntKind.max, IntKind.signed, IntKind.bits] at w0
    omega
  exact ⟨k, rfl, hk⟩
theorem list3 {l : List Value} (h : l.length = 3) : ∃ a b c, l = [a, b, c] := by match l, h with | [a, b, c], _ => exact ⟨a, b, c, rfl⟩
theorem list8 {l : List Value} (h : l.length = 8) : ∃ a b c d e f g i, l = [a, b, c, d, e, f, g, i] := by match l, h with | [a, b, c, d, e, f, g, i], _ => exact ⟨a, b, c, d, e, f, g, i, rfl⟩
theorem viewHd {H : Type} {enc : TypeId × Value → H} {W : World} {n : Nat} {cs : List Value} {y : DataW H × List MemPlace} (h : Trd enc W n 73 cs y) (hw : ∀ v ∈ y.1.weights Tryd.prog 73, v ≤ reachBytes) : ∃ x : Hd, cs = [.string x.name, .int .u8 (x.ty : Int), .int .i64 x.st] ∧ x.ok := by
  obtain ⟨xs, m, hn, hx, hl, hlen, hfs⟩ := DataW.trod_struct Tryd.underlying73 h
  rw [cells44] at hl
  obtain ⟨c0, c1, c2, rfl⟩ := list3 hl
  match xs, hlen with
  | [y0, y1, y2], _ =>
    have h0 : Trd enc W m 9 [c0] y0 := by simpa [cells9] using hfs 0 _ rfl
    have h1 : Trd enc W m 27 [c1] y1 := by simpa [cells30] using hfs 1 _ rfl
    have h2 : Trd enc W m 3 [c2] y2 := by simpa [cells3] using hfs 2 _ rfl
    obtain ⟨nm, rfl, k0⟩ := view_str h0 (fun v hv => hw v (by rw [hx]; simp [DataW.weights, Tryd.underlying73, DataW.weightsEach]; left; exact hv))
    obtain ⟨u, rfl, k1⟩ := view_u8 Tryd.underlying27 h1
    obtain ⟨k, rfl, k2⟩ := view_i64 Tryd.underlying3 h2
    exact ⟨⟨nm, u, k⟩, rfl, k0, k1, k2⟩
theorem viewFl {H : Type} {enc : TypeId × Value → H} {W : World} {n : Nat} {cs : List Value} {y : DataW H × List MemPlace} (h : Trd enc W n 76 cs y) (hw : ∀ v ∈ y.1.weights Tryd.prog 76, v ≤ reachBytes) :
    ∃ (x : Fl) (s : Value), cs = [.string x.name, .int .u8 (x.ty : Int), .int .i64 x.st, .int .i64 x.df, .int .u8 (x.body.op : Int), .int .i64 x.body.n, .string x.body.name, s] ∧ x.ok ∧ St W x.body s := by
  obtain ⟨xs, m, hn, hx, hl, hlen, hfs⟩ := DataW.trod_struct Tryd.underlying76 h
  rw [cells50] at hl
  obtain ⟨c0, c1, c2, c3, c4, c5, c6, c7, rfl⟩ := list8 hl
  match xs, hlen with
  | [y0, y1, y2, y3, y4], _ =>
    have h0 : Trd enc W m 9 [c0] y0 := by simpa [cells9] using hfs 0 _ rfl
    have h1 : Trd enc W m 27 [c1] y1 := by simpa [cells30] using hfs 1 _ rfl
    have h2 : Trd enc W m 3 [c2] y2 := by simpa [cells3] using hfs 2 _ rfl
    have h3 : Trd enc W m 2 [c3] y3 := by simpa [cells2] using hfs 3 _ rfl
    have h4 : Trd enc W m 70 [c4, c5, c6, c7] y4 := by simpa [cells25] using hfs 4 _ rfl
    obtain ⟨nm, rfl, k0⟩ := view_str h0 (fun v hv => hw v (by rw [hx]; simp [DataW.weights, Tryd.underlying76, DataW.weightsEach]; left; exact hv))
    obtain ⟨u, rfl, k1⟩ := view_u8 Tryd.underlying27 h1
    obtain ⟨k, rfl, k2⟩ := view_i64 Tryd.underlying3 h2
    obtain ⟨k', rfl, k3⟩ := view_i64 Tryd.underlying2 h3
    obtain ⟨x, s, e, hs⟩ := viewT m m _ y4.1 y4.2 (Nat.le_refl _) h4 (fun v hv => hw v (by rw [hx]; simp [DataW.weights, Tryd.underlying76, DataW.weightsEach]; right; right; right; right; exact hv))
    simp only [List.cons.injEq, and_true] at e
    obtain ⟨rfl, rfl, rfl, rfl⟩ := e
    exact ⟨⟨nm, u, k, k', x⟩, _, rfl, ⟨k0, k1, k2, k3⟩, hs⟩
/-- A slice that came in: where its elements lie, and that each can be opened. -/
theorem view_row {H : Type} {enc : TypeId × Value → H} {W : World} {n : Nat} {t e : TypeId} {c : Value} {y : DataW H × List MemPlace} (hu : Tryd.prog.underlying t = some (.slice e)) (h : Trd enc W n t [c] y) (hw : ∀ v ∈ y.1.weights Tryd.prog t, v ≤ reachBytes) (hc0 : 0 < Tryd.prog.cellsOf e) :
    ∃ (ao : Option Addr) (len cap : Nat), c = .slice ao len cap ∧ len ≤ cap ∧ len * Tryd.prog.bytesOf e ≤ reachBytes ∧ (len = 0 ∨ ∃ b o, ao = some ⟨b, o, none⟩ ∧ ∀ i, i < len → ∃ l d m, (W.cells? 0 ⟨b, o + i * Tryd.prog.cellsOf e, none⟩ (Tryd.prog.cellsOf e)) = some l ∧ Trd enc W m e l d ∧ ∀ v ∈ d.1.weights Tryd.prog e, v ≤ reachBytes) := by
  rcases DataW.trod_slice hu h with ⟨hc, _⟩ | ⟨a, len, cap, elems, rest, n', hn', hc, hy3, hb, hlc, hcm, hel, helem, hsp, _⟩
  · simp only [List.cons.injEq, and_true] at hc
    exact ⟨none, 0, 0, hc, Nat.le_refl _, by simp [reachBytes], .inl rfl⟩
  · simp only [List.cons.injEq, and_true] at hc
    subst hc
    have hwl : (len + rest.length) * Tryd.prog.bytesOf e ≤ reachBytes := by
      have := hw ((elems.map (·.1)).length + (rest.map (·.1)).length |> (· * Tryd.prog.bytesOf e)) (by rw [hy3]; simp [DataW.weights, hu])
      simpa [hel] using this
    refine ⟨some a, len, cap, rfl, hlc, Nat.le_trans (Nat.mul_le_mul_right _ (by omega)) hwl, ?_⟩
    by_cases h00 : len = 0
    · exact .inl h00
    · right
      have each : ∀ i, i < len → ∃ l d m, (W.cells? 0 (a.add (i * Tryd.prog.cellsOf e)) (Tryd.prog.cellsOf e)) = some l ∧ Trd enc W m e l d ∧ ∀ v ∈ d.1.weights Tryd.prog e, v ≤ reachBytes := fun i hi => by
        have he := helem i hi
        rw [List.getElem?_eq_getElem (by omega)] at he
        obtain ⟨l, hl1, hl2⟩ := Option.bind_eq_some_iff.1 he
        refine ⟨l, _, n', hl1, hl2, fun v hv => hw v ?_⟩
        rw [hy3]
        simp only [DataW.weights, hu]
        refine List.mem_cons_of_mem _ (List.mem_append_left _ (all_mem (i := i) (d := (elems[i]'(by omega)).1) ?_ v hv))
        rw [List.getElem?_map, List.getElem?_eq_getElem (by omega)]
        rfl
      obtain ⟨b, o, sp⟩ := a
      have hspt : sp = none := by
        obtain ⟨l, d, m, hl, _⟩ := each 0 (by omega)
        unfold World.cells? at hl
        rw [if_pos (Nat.zero_le _)] at hl
        obtain ⟨v, _, hf⟩ := Lib.mapM_at hl 0 0 (by simp [hc0])
        simpa [Addr.add] using World.cell?_spot hf
      subst hspt
      exact ⟨b, o, rfl, fun i hi => by have := each i hi; rw [add_off] at this; exact this⟩
theorem cells_at {w : World} {b o c : Nat} {l : List Value} (h : w.cells? 0 ⟨b, o, none⟩ c = some l) : l.length = c ∧ ∀ j, j < c → w.cell? ⟨b, o + j, none⟩ = l[j]? := by
  unfold World.cells? at h
  rw [if_pos (Nat.zero_le _)] at h
  refine ⟨by have := Lib.mapM_length h; simpa using this, fun j hj => ?_⟩
  obtain ⟨v, hb, hf⟩ := Lib.mapM_at h j j (by simp [hj])
  rw [add_off] at hf
  rw [hf, hb]
theorem viewIns {H : Type} {enc : TypeId × Value → H} {W : World} {n : Nat} {c : Value} {y : DataW H × List MemPlace} (h : Trd enc W n 42 [c] y) (hw : ∀ v ∈ y.1.weights Tryd.prog 42, v ≤ reachBytes) : ∃ l, InsAt W l c := by
  obtain ⟨ao, len, cap, rfl, hlc, hby, hr⟩ := view_row Tryd.underlying42 h hw (by rw [cells44]; omega)
  rw [bytes44] at hby
  rw [cells44] at hr
  have each : ∀ i, ∃ x : Hd, i < len → x.ok ∧ ∃ b o, ao = some ⟨b, o, none⟩ ∧ HdCells W b (o + i * 3) x := fun i => by
    by_cases hi : i < len
    · obtain ⟨b, o, rfl, hc⟩ := hr.resolve_left (by omega)
      obtain ⟨l, d, m, hl, ht, hwt⟩ := hc i hi
      obtain ⟨x, rfl, hx⟩ := viewHd ht hwt
      obtain ⟨_, hcell⟩ := cells_at hl
      exact ⟨x, fun _ => ⟨hx, b, o, rfl, hcell 0 (by omega), hcell 1 (by omega), hcell 2 (by omega)⟩⟩
    · exact ⟨⟨ByteArray.empty, 0, 0⟩, fun h => absurd h hi⟩
  obtain ⟨f, hf⟩ := Classical.axiomOfChoice each
  refine ⟨(List.range len).map f, ao, cap, by simp, ?_, by simpa using hlc, fun x hx => ?_, ?_⟩
  · unfold reachBytes at hby
    simp
    omega
  · obtain ⟨i, hi, rfl⟩ := List.mem_map.1 hx
    exact (hf i (by simpa using hi)).1
  · by_cases h0 : len = 0
    · exact .inl (by simp [h0])
    · right
      obtain ⟨_, b, o, e, _⟩ := hf 0 (by omega)
      refine ⟨b, o, e, fun i hi => ?_⟩
      obtain ⟨_, b', o', e', hc⟩ := hf i (by simpa using hi)
      rw [e] at e'
      injection e' with e'
      injection e' with e1 e2 _
      subst e1 e2
      simpa using hc
theorem viewTexts {H : Type} {enc : TypeId × Value → H} {W : World} {n : Nat} {c : Value} {y : DataW H × List MemPlace} (h : Trd enc W n 44 [c] y) (hw : ∀ v ∈ y.1.weights Tryd.prog 44, v ≤ reachBytes) : ∃ l, TextsAt W l c := by
  obtain ⟨ao, len, cap, rfl, hlc, hby, hr⟩ := view_row Tryd.underlying44 h hw (by rw [cells9]; omega)
  rw [bytes9] at hby
  rw [cells9] at hr
  have each : ∀ i, ∃ x : ByteArray, i < len → x.size ≤ 140737488355328 ∧ ∃ b o, ao = some ⟨b, o, none⟩ ∧ W.cell? ⟨b, o + i, none⟩ = some (.string x) := fun i => by
    by_cases hi : i < len
    · obtain ⟨b, o, rfl, hc⟩ := hr.resolve_left (by omega)
      obtain ⟨l, d, m, hl, ht, hwt⟩ := hc i hi
      obtain ⟨hll, hcell⟩ := cells_at hl
      obtain ⟨c0, rfl⟩ := List.length_eq_one_iff.1 hll
      obtain ⟨x, rfl, hx⟩ := view_str ht hwt
      exact ⟨x, fun _ => ⟨hx, b, o, rfl, by simpa using hcell 0 (by omega)⟩⟩
    · exact ⟨ByteArray.empty, fun h => absurd h hi⟩
  obtain ⟨f, hf⟩ := Classical.axiomOfChoice each
  refine ⟨(List.range len).map f, ao, cap, by simp, ?_, by simpa using hlc, fun x hx => ?_, ?_⟩
  · unfold reachBytes at hby
    simp
    omega
  · obtain ⟨i, hi, rfl⟩ := List.mem_map.1 hx
    exact (hf i (by simpa using hi)).1
  · by_cases h0 : len = 0
    · exact .inl (by simp [h0])
    · right
      obtain ⟨_, b, o, e, _⟩ := hf 0 (by omega)
      refine ⟨b, o, e, fun i hi => ?_⟩
      obtain ⟨_, b', o', e', hc⟩ := hf i (by simpa using hi)
      rw [e] at e'
      injection e' with e'
      injection e' with e1 e2 _
      subst e1 e2
      simpa using hc
theorem viewFlows {H : Type} {enc : TypeId × Value → H} {W : World} {n : Nat} {c : Value} {y : DataW H × List MemPlace} (h : Trd enc W n 43 [c] y) (hw : ∀ v ∈ y.1.weights Tryd.prog 43, v ≤ reachBytes) : ∃ l, FlowsAt W l c := by
  obtain ⟨ao, len, cap, rfl, hlc, hby, hr⟩ := view_row Tryd.underlying43 h hw (by rw [cells50]; omega)
  rw [bytes50] at hby
  rw [cells50] at hr
  have each : ∀ i, ∃ x : Fl × Value, i < len → x.1.ok ∧ St W x.1.body x.2 ∧ ∃ b o, ao = some ⟨b, o, none⟩ ∧ FlCells W b (o + i * 8) x.1 x.2 := fun i => by
    by_cases hi : i < len
    · obtain ⟨b, o, rfl, hc⟩ := hr.resolve_left (by omega)
      obtain ⟨l, d, m, hl, ht, hwt⟩ := hc i hi
      obtain ⟨x, s, rfl, hx, hs⟩ := viewFl ht hwt
      obtain ⟨_, hcell⟩ := cells_at hl
      exact ⟨(x, s), fun _ => ⟨hx, hs, b, o, rfl, hcell 0 (by omega), hcell 1 (by omega), hcell 2 (by omega), hcell 3 (by omega), hcell 4 (by omega), hcell 5 (by omega), hcell 6 (by omega), hcell 7 (by omega)⟩⟩
    · exact ⟨(⟨ByteArray.empty, 0, 0, 0, ⟨0, 0, ByteArray.empty, []⟩⟩, .slice none 0 0), fun h => absurd h hi⟩
  obtain ⟨f, hf⟩ := Classical.axiomOfChoice each
  refine ⟨(List.range len).map fun i => (f i).1, ao, cap, fun i => (f i).2, by simp, ?_, by simpa using hlc, fun x hx => ?_, ?_, fun i hi => ?_⟩
  · unfold reachBytes at hby
    simp
    omega
  · obtain ⟨i, hi, rfl⟩ := List.mem_map.1 hx
    exact (hf i (by simpa using hi)).1
  · by_cases h0 : len = 0
    · exact .inl (by simp [h0])
    · right
      obtain ⟨_, _, b, o, e, _⟩ := hf 0 (by omega)
      refine ⟨b, o, e, fun i hi => ?_⟩
      obtain ⟨_, _, b', o', e', hc⟩ := hf i (by simpa using hi)
      rw [e] at e'
      injection e' with e'
      injection e' with e1 e2 _
      subst e1 e2
      simpa using hc
  · have := (hf i (by simpa using hi)).2.1
    simpa using this
set_option maxRecDepth 100000 in
/-- An api.Prog that came in, opened once. -/
theorem viewP {H : Type} {enc : TypeId × Value → H} {W : World} {r : Reach} {b0 : Nat} {v : Value} {d : DataW H} {p : List MemPlace} {ts : List TypeId} {ds : List (DataW H)} {j : Nat}
    (hv : Value.okWide Tryd.prog W r b0 46 v) (h : DataW.Trod enc Tryd.prog W 0 (fun _ => true) true 46 v d p)
    (hsz : (DataW.weightsEach Tryd.prog ts ds).all (· ≤ reachBytes) = true) (ht : ts[j]? = some 46) (hj : ds[j]? = some d) : ∃ (x : Pg) (a b c : Value), v = pgV x a b c ∧ PgAt W x a b c := by
  obtain ⟨cs, rfl, hz⟩ := okWide_struct Tryd.underlying46 hv
  obtain ⟨c0, c1, c2, c3, rfl⟩ := array4 (by rw [hz]; exact cells26)
  obtain ⟨fuel, hf⟩ := h
  have hw : ∀ v ∈ d.weights Tryd.prog 46, v ≤ reachBytes := fun v hv => by
    have := List.all_eq_true.1 hsz _ (DataW.weights_mem_each ht hj v hv)
    simpa using this
  obtain ⟨xs, m, hn, hx, hl, hlen, hfs⟩ := DataW.trod_struct Tryd.underlying46 hf
  match xs, hlen with
  | [y0, y1, y2, y3], _ =>
    have h0 : Trd enc W m 3 [c0] y0 := by simpa [cells3, Value.cells] using hfs 0 _ rfl
    have h1 : Trd enc W m 42 [c1] y1 := by simpa [cellsS22, Value.cells] using hfs 1 _ rfl
    have h2 : Trd enc W m 43 [c2] y2 := by simpa [cellsS23, Value.cells] using hfs 2 _ rfl
    have h3 : Trd enc W m 44 [c3] y3 := by simpa [cellsS24, Value.cells] using hfs 3 _ rfl
    simp only [Prod.mk.injEq] at hx
    obtain ⟨rfl, _⟩ := hx
    obtain ⟨k, rfl, k0⟩ := view_i64 Tryd.underlying3 h0
    obtain ⟨li, hi⟩ := viewIns h1 (fun v hv => hw v (by simp [DataW.weights, Tryd.underlying46, DataW.weightsEach]; right; left; exact hv))
    obtain ⟨lf, hfl⟩ := viewFlows h2 (fun v hv => hw v (by simp [DataW.weights, Tryd.underlying46, DataW.weightsEach]; right; right; left; exact hv))
    obtain ⟨lo, ho⟩ := viewTexts h3 (fun v hv => hw v (by simp [DataW.weights, Tryd.underlying46, DataW.weightsEach]; right; right; right; exact hv))
    exact ⟨⟨k, li, lf, lo⟩, c1, c2, c3, rfl, k0, hi, hfl, ho⟩
end Go.Proofs.YtdenddknbmiboaaDoor.Lex
namespace Go.Proofs.YtdenddknbmiboaaDoor.Lex
open Go.ChangeShapes Go.WideShapes Go.ChangeAt Go.RowKit Go.Joins
theorem ownGo : ownKnob Tryd.prog.godebug = none := by kernel_rfl
theorem gRes : Tryd.prog.globalNamed "belfry/tokens.reserved" = some 0 := by kernel_rfl
theorem tRes : (Tryd.prog.globals[0]?).map (·.type) = some 171 := by kernel_rfl
theorem gJoin : Tryd.prog.globalNamed "belfry/exprs.joins" = some 1 := by kernel_rfl
theorem tJoin : (Tryd.prog.globals[1]?).map (·.type) = some 178 := by kernel_rfl
theorem cells129 : Tryd.prog.cellsOf 171 = 17 := by kernel_rfl
theorem cells96 : Tryd.prog.cellsOf 178 = 72 := by kernel_rfl
theorem cells83 : Tryd.prog.cellsOf 175 = 6 := by kernel_rfl
/-- An array of strings that reads as a table holds the table's strings, cell for cell. -/
theorem cells_of_strs {H : Type} {enc : TypeId × Value → H} {P : Program} {w : World} {base : Nat} {sp : Nat → Bool} {held : Bool} {fuel : Nat} {t e : TypeId} {n : Nat} {cs : List Value} {zs : List (List UInt8)} {p : List MemPlace}
    (ht : P.underlying t = some (.array n e)) (he : P.underlying e = some .string) (hce : P.cellsOf e = 1) (hct : P.cellsOf t = n)
    (h : DataW.trod enc P w base sp held fuel t cs = some (.agg (zs.map fun z => .lit (.string z)), p)) : cs = zs.map fun z => Value.string ⟨z.toArray⟩ := by
  cases fuel with
  | zero => simp [DataW.trod] at h
  | succ fuel =>
    simp only [DataW.trod, ht, hce, hct, Nat.mul_one] at h
    split at h
    · rename_i hl
      obtain ⟨xs, hm, hx⟩ := Option.map_eq_some_iff.1 h
      have hxs : xs.map (·.1) = zs.map fun z => (DataW.lit (.string z) : DataW H) := by
        have := congrArg Prod.fst hx
        simpa using this
      have hxl : xs.length = n := by simpa using Lib.mapM_length hm
      have hzl : zs.length = n := by
        have := congrArg List.length hxs
        simp at this
        omega
      apply List.ext_getElem?
      intro i
      by_cases hi : i < n
      · obtain ⟨b, hb, hf⟩ := Lib.mapM_at hm i i (by simp [hi])
        obtain ⟨z, hc, rfl, _⟩ := DataW.trod_string he hf
        have h1 : cs[i]? = some (.string z) := by
          have := congrArg (·[0]?) hc
          simpa [List.getElem?_take, List.getElem?_drop] using this
        have h2 : (xs.map (·.1))[i]? = some (DataW.lit (.string z.data.toList) : DataW H) := by simp [hb]
        rw [hxs] at h2
        simp only [List.getElem?_map, Option.map_eq_some_iff, DataW.lit.injEq, Lit.string.injEq] at h2
        obtain ⟨z', hz', rfl⟩ := h2
        simp [h1, hz']
      · rw [List.getElem?_eq_none (by omega), List.getElem?_eq_none (by simp; omega)]
    · cases h
def resB : List (List UInt8) := [[115, 116, 97, 116, 105, 111, 110, 115], [105, 110], [97, 116], [102, 108, 111, 119], [100, 101, 102, 97, 117, 108, 116], [111, 117, 116], [105, 102], [116, 104, 101, 110], [101, 108, 115, 101], [112, 114, 101], [97, 110, 100], [111, 114], [110, 111, 116], [116, 114, 117, 101], [102, 97, 108, 115, 101], [105, 110, 116], [98, 111, 111, 108]]
/-- A row of the table of operators, as a datum. -/
def jD {H : Type} (r : J) : DataW H := .agg [.lit (.int .u8 (r.op : Int)), .agg [.lit (.int .u8 (r.kind : Int)), .lit (.string r.text.data.toList)], .lit (.int .i64 (r.rank : Int)), .lit (.int .i64 (r.first : Int)), .lit (.int .i64 (r.second : Int))]
theorem list6 {l : List Value} (h : l.length = 6) : ∃ a b c d e f, l = [a, b, c, d, e, f] := by match l, h with | [a, b, c, d, e, f], _ => exact ⟨a, b, c, d, e, f, rfl⟩
theorem lit_int {H : Type} {enc : TypeId × Value → H} {w : World} {base : Nat} {sp : Nat → Bool} {held : Bool} {fuel : Nat} {t : TypeId} {k : IntKind} {c : Value} {z : Int} {q : List MemPlace} (ht : Tryd.prog.underlying t = some (.int k)) (h : DataW.trod enc Tryd.prog w base sp held fuel t [c] = some (.lit (.int k z), q)) : c = .int k z := by
  obtain ⟨n, e, hx, _⟩ := DataW.trod_int ht h
  simp only [Prod.mk.injEq, DataW.lit.injEq, Lit.int.injEq, true_and] at hx
  simp only [List.cons.injEq, and_true] at e
  rw [e, hx.1]
theorem lit_str {H : Type} {enc : TypeId × Value → H} {w : World} {base : Nat} {sp : Nat → Bool} {held : Bool} {fuel : Nat} {c : Value} {z : List UInt8} {q : List MemPlace} (h : DataW.trod enc Tryd.prog w base sp held fuel 9 [c] = some (.lit (.string z), q)) : c = .string ⟨z.toArray⟩ := by
  obtain ⟨s, e, hx, _⟩ := DataW.trod_string Tryd.underlying9 h
  simp only [Prod.mk.injEq, DataW.lit.injEq, Lit.string.injEq] at hx
  simp only [List.cons.injEq, and_true] at e
  rw [e, hx.1]
set_option maxRecDepth 100000 in
/-- The cells of a row. -/
theorem row_cells {H : Type} {enc : TypeId × Value → H} {w : World} {base : Nat} {sp : Nat → Bool} {held : Bool} {fuel : Nat} {cs : List Value} {q : List MemPlace} (r : J) (h : DataW.trod enc Tryd.prog w base sp held fuel 175 cs = some (jD r, q)) : cs = (jrow r).toList := by
  obtain ⟨xs, n, _, hx, hl, hlen, hfs⟩ := DataW.trod_struct Tryd.underlying175 h
  rw [cells83] at hl
  obtain ⟨c0, c1, c2, c3, c4, c5, rfl⟩ := list6 hl
  match xs, hlen with
  | [y0, y1, y2, y3, y4], _ =>
    have h0 : DataW.trod enc Tryd.prog w base sp held n 36 [c0] = some y0 := by simpa [cells22] using hfs 0 _ rfl
    have h1 : DataW.trod enc Tryd.prog w base sp held n 173 [c1, c2] = some y1 := by simpa [cells81] using hfs 1 _ rfl
    have h2 : DataW.trod enc Tryd.prog w base sp held n 3 [c3] = some y2 := by simpa [cells3] using hfs 2 _ rfl
    have h3 : DataW.trod enc Tryd.prog w base sp held n 3 [c4] = some y3 := by simpa [cells3] using hfs 3 _ rfl
    have h4 : DataW.trod enc Tryd.prog w base sp held n 3 [c5] = some y4 := by simpa [cells3] using hfs 4 _ rfl
    simp only [jD, Prod.mk.injEq, List.map_cons, List.map_nil, DataW.agg.injEq, List.cons.injEq, and_true] at hx
    obtain ⟨⟨g0, g1, g2, g3, g4⟩, _⟩ := hx
    obtain ⟨z0, z1, m, hy, _, k0, k1⟩ := trod_struct2 Tryd.underlying173 h1
    have k0' : DataW.trod enc Tryd.prog w base sp held m 5 [c1] = some z0 := by simpa [cells5] using k0
    have k1' : DataW.trod enc Tryd.prog w base sp held m 9 [c2] = some z1 := by simpa [cells9] using k1
    rw [hy] at g1
    simp only [DataW.agg.injEq, List.cons.injEq, and_true] at g1
    have f0 : c0 = .int .u8 (r.op : Int) := lit_int Tryd.underlying36 (by rw [g0]; exact h0)
    have f1 : c1 = .int .u8 (r.kind : Int) := lit_int Tryd.underlying5 (by rw [g1.1]; exact k0')
    have f2 : c2 = .string ⟨r.text.data.toList.toArray⟩ := lit_str (by rw [g1.2]; exact k1')
    have f3 : c3 = .int .i64 (r.rank : Int) := lit_int Tryd.underlying3 (by rw [g2]; exact h2)
    have f4 : c4 = .int .i64 (r.first : Int) := lit_int Tryd.underlying3 (by rw [g3]; exact h3)
    have f5 : c5 = .int .i64 (r.second : Int) := lit_int Tryd.underlying3 (by rw [g4]; exact h4)
    rw [f0, f1, f2, f3, f4, f5]
    simp [jrow]
theorem chunk {α : Type} (m : Nat) : ∀ (n : Nat) (cs : List α), cs.length = n * m → (List.range n).flatMap (fun i => (cs.drop (i * m)).take m) = cs
  | 0, cs, h => by
    have : cs = [] := List.eq_nil_of_length_eq_zero (by omega)
    subst this
    rfl
  | n + 1, cs, h => by
    have hnm : (n + 1) * m = n * m + m := Nat.succ_mul n m
    have ih := chunk m n (cs.take (n * m)) (by rw [List.length_take]; omega)
    rw [List.range_succ, List.flatMap_append]
    have e : (List.range n).flatMap (fun i => (cs.drop (i * m)).take m) = (List.range n).flatMap (fun i => ((cs.take (n * m)).drop (i * m)).take m) := by
      have hh : ∀ (l : List Nat), (∀ i ∈ l, i < n) → l.flatMap (fun i => (cs.drop (i * m)).take m) = l.flatMap (fun i => ((cs.take (n * m)).drop (i * m)).take m) := by
        intro l
        induction l with
        | nil => intro _; rfl
        | cons i l ihl =>
          intro hl
          have hi := hl i (List.mem_cons_self ..)
          have him : i * m + m ≤ n * m := by rw [← Nat.succ_mul]; exact Nat.mul_le_mul_right m hi
          rw [List.flatMap_cons, List.flatMap_cons, ihl fun j hj => hl j (List.mem_cons_of_mem _ hj), List.drop_take, List.take_take, Nat.min_eq_left (by omega)]
      exact hh _ fun i hi => List.mem_range.1 hi
    rw [e, ih]
    simp only [List.flatMap_cons, List.flatMap_nil, List.append_nil]
    have hd : (cs.drop (n * m)).take m = cs.drop (n * m) := List.take_of_length_le (by rw [List.length_drop]; omega)
    rw [hd, List.take_append_drop]
set_option maxRecDepth 100000 in
/-- The table's cells. -/
theorem join_cells {H : Type} {enc : TypeId × Value → H} {w : World} {base : Nat} {sp : Nat → Bool} {held : Bool} {fuel : Nat} {cs : List Value} {q : List MemPlace} (h : DataW.trod enc Tryd.prog w base sp held fuel 178 cs = some (.agg (JT.map jD), q)) : cs = joinV.toList := by
  cases fuel with
  | zero => simp [DataW.trod] at h
  | succ fuel =>
    simp only [DataW.trod, Tryd.underlying178, cells83, cells96] at h
    split at h
    · rename_i hl
      obtain ⟨xs, hm, hx⟩ := Option.map_eq_some_iff.1 h
      have hxs : xs.map (·.1) = JT.map jD := by
        have := congrArg Prod.fst hx
        simpa using this
      have hxl : xs.length = 12 := by simpa using Lib.mapM_length hm
      rw [← chunk 6 12 cs (by omega)]
      have hh : ∀ i, i < 12 → (cs.drop (i * 6)).take 6 = (jrow (jR i)).toList := fun i hi => by
        obtain ⟨b, hb, hf⟩ := Lib.mapM_at hm i i (by simp [hi])
        have h1 : (xs.map (·.1))[i]? = some b.1 := by simp [hb]
        rw [hxs, List.getElem?_map] at h1
        have h2 : JT[i]? = some (jR i) := by
          unfold jR
          have : i < JT.length := hi
          rw [List.getD_eq_getElem?_getD, List.getElem?_eq_getElem this]
          rfl
        rw [h2] at h1
        simp only [Option.map_some, Option.some.injEq] at h1
        exact row_cells (jR i) (q := b.2) (by rw [hf, h1])
      have e : (List.range 12).flatMap (fun i => (cs.drop (i * 6)).take 6) = (List.range 12).flatMap (fun i => (jrow (jR i)).toList) := by
        have hh2 : ∀ (l : List Nat), (∀ i ∈ l, i < 12) → l.flatMap (fun i => (cs.drop (i * 6)).take 6) = l.flatMap (fun i => (jrow (jR i)).toList) := by
          intro l
          induction l with
          | nil => intro _; rfl
          | cons i l ihl => intro hl; rw [List.flatMap_cons, List.flatMap_cons, ihl fun j hj => hl j (List.mem_cons_of_mem _ hj), hh i (hl i (List.mem_cons_self ..))]
        exact hh2 _ fun i hi => List.mem_range.1 hi
      rw [e]
      rfl
    · cases h
theorem var_res {w : World} {x : Array Value} (h : w.var? Tryd.prog "belfry/tokens.reserved" = some x) : ∃ t fz, w.heap[0]? = some (.cells x t fz) := by
  unfold World.var? at h
  rw [gRes] at h
  simp only [Option.bind_some] at h
  split at h
  · next cs t fz he => injection h with h; subst h; exact ⟨_, _, he⟩
  · cases h
theorem var_join {w : World} {x : Array Value} (h : w.var? Tryd.prog "belfry/exprs.joins" = some x) : ∃ t fz, w.heap[1]? = some (.cells x t fz) := by
  unfold World.var? at h
  rw [gJoin] at h
  simp only [Option.bind_some] at h
  split at h
  · next cs t fz he => injection h with h; subst h; exact ⟨_, _, he⟩
  · cases h
theorem res_of {W : World} {rest : List (String × DataW Unit)} (h : laidMet Tryd.prog (("belfry/tokens.reserved", Rows.laid_belfry_tokens_reserved) :: rest) W) : TabR W := by
  obtain ⟨ps, ⟨g0, t0, cs0, f0, p0, q0, hg0, ht0, hv0, hd0, _, _⟩, _⟩ := h
  obtain rfl := Option.some.inj (gRes.symm.trans hg0)
  obtain rfl := Option.some.inj (tRes.symm.trans ht0)
  have hd : DataW.trod _ Tryd.prog W 0 _ _ f0 171 cs0.toList = some (.agg (resB.map fun z => .lit (.string z)), p0) := hd0
  have hcs := cells_of_strs Tryd.underlying171 Tryd.underlying9 cells9 cells129 hd
  obtain ⟨t, fz, hb⟩ := var_res hv0
  refine ⟨t, fz, ?_⟩
  rw [hb]
  obtain ⟨l⟩ := cs0
  simp only at hcs
  subst hcs
  rfl
theorem join_of {W : World} {rest : List (String × DataW Unit)} (h : laidMet Tryd.prog (("belfry/exprs.joins", Rows.laid_belfry_exprs_joins) :: rest) W) : TabJ W := by
  obtain ⟨ps, ⟨g0, t0, cs0, f0, p0, q0, hg0, ht0, hv0, hd0, _, _⟩, _⟩ := h
  obtain rfl := Option.some.inj (gJoin.symm.trans hg0)
  obtain rfl := Option.some.inj (tJoin.symm.trans ht0)
  have hd : DataW.trod _ Tryd.prog W 0 _ _ f0 178 cs0.toList = some (.agg (JT.map jD), p0) := hd0
  have hcs := join_cells hd
  obtain ⟨t, fz, hb⟩ := var_join hv0
  refine ⟨t, fz, ?_⟩
  rw [hb]
  obtain ⟨l⟩ := cs0
  simp only at hcs
  subst hcs
  rfl
/-- What the package-level variables hold when a call begins. -/
def laidL : List (String × DataW Unit) := [("belfry/tokens.reserved", Rows.laid_belfry_tokens_reserved), ("belfry/exprs.joins", Rows.laid_belfry_exprs_joins)]
theorem door_met (os : Os) (args : Array Value) : laidMetH Tryd.prog laidL ((World.doorLaid Tryd.prog 43 os).forCall (fun _ _ => 0) ⟨#[], args, []⟩).memory :=
  laidMetH_of_parts3 (fuel := 8) (laidMet_of_run' 8 (by kernel_rfl) (by kernel_rfl)) (by kernel_rfl) (by kernel_rfl)
theorem wid_of_laid {W : World} (h : laidMetH Tryd.prog laidL W) : TabR W ∧ TabJ W := by
  rw [MakeChecks.laidMetH_plain _ _ _ (by kernel_rfl)] at h
  exact ⟨res_of h, join_of h.tail⟩
end Go.Proofs.YtdenddknbmiboaaDoor.Lex
namespace Go.Proofs.YtdenddknbmiboaaDoor.Lex
theorem nat_c {n : Int} (h : (Lit.int .u8 n).wf = true) : ∃ k : Nat, k < 256 ∧ n = (k : Int) := by
  simp [Lit.wf, IntKind.min, IntKind.max, IntKind.signed, IntKind.bits] at h
  exact ⟨n.toNat, by omega, by omega⟩
end Go.Proofs.YtdenddknbmiboaaDoor.Lex
namespace Go.Proofs.YtdenddknbmiboaaDoor.Lex
open Go.ChangeShapes Go.WideShapes Go.ChangeAt Go.RowKit Go.Joins
theorem cePl : Tryd.prog.cellsOf 55 = 6 := by kernel_rfl
theorem byPl : Tryd.prog.bytesOf 55 = 56 := by kernel_rfl
theorem ceIn : Tryd.prog.cellsOf 38 = 3 := by kernel_rfl
theorem byIn : Tryd.prog.bytesOf 38 = 24 := by kernel_rfl
theorem ceSp : Tryd.prog.cellsOf 35 = 4 := by kernel_rfl
theorem ce4 : Tryd.prog.cellsOf 4 = 1 := by kernel_rfl
theorem ceT : Tryd.prog.cellsOf 27 = 1 := by kernel_rfl
theorem ceO : Tryd.prog.cellsOf 36 = 1 := by kernel_rfl
theorem cePls : Tryd.prog.cellsOf 22 = 1 := by kernel_rfl
theorem ceIns : Tryd.prog.cellsOf 23 = 1 := by kernel_rfl
theorem ceU16 : Tryd.prog.cellsOf 33 = 1 := by kernel_rfl
theorem weighs {H : Type} {d : DataW H} {ts : List TypeId} {ds : List (DataW H)} {j : Nat} {t : TypeId} (hsz : (DataW.weightsEach Tryd.prog ts ds).all (· ≤ reachBytes) = true) (ht : ts[j]? = some t) (hdj : ds[j]? = some d) : ∀ v ∈ d.weights Tryd.prog t, v ≤ reachBytes := fun u hu => by
  have := List.all_eq_true.1 hsz _ (DataW.weights_mem_each ht hdj u hu)
  simpa using this
set_option maxRecDepth 100000 in
theorem view_places {H : Type} {enc : TypeId × Value → H} {W : World} {n : Nat} {c : Value} {y : DataW H × List MemPlace} (h : Trd enc W n 22 [c] y) (hw : ∀ v ∈ y.1.weights Tryd.prog 22, v ≤ reachBytes) : ∃ ps : List Plc, PlR W c ps := by
  obtain ⟨ao, len, cap, rfl, h2, h4, h5⟩ := view_row Tryd.underlying22 h hw (by rw [cePl]; omega)
  rw [byPl] at h4
  rw [cePl] at h5
  have each : ∀ i, ∃ z : Plc, i < len → ∃ b o, ao = some ⟨b, o, none⟩ ∧ ∀ j, j < 6 → W.cell? ⟨b, o + i * 6 + j, none⟩ = (plcC z)[j]? := fun i => by
    by_cases hi : i < len
    · obtain ⟨b, o, rfl, hc⟩ := h5.resolve_left (by omega)
      obtain ⟨l, d, m, hl, ht, hwd⟩ := hc i hi
      obtain ⟨hll, hcell⟩ := cells_at hl
      obtain ⟨a0, a1, a2, a3, a4, a5, rfl⟩ := list6 hll
      obtain ⟨xs, m', _, hx, _, hlen, hfs⟩ := DataW.trod_struct Tryd.underlying55 ht
      match xs, hlen with
      | [y0, y1, y2, y3, y4, y5], _ =>
        have g0 : Trd enc W m' 9 [a0] y0 := by simpa [cells9, ceT, cells3, ce4, cells2, Value.cells] using hfs 0 _ rfl
        have g1 : Trd enc W m' 27 [a1] y1 := by simpa [cells9, ceT, cells3, ce4, cells2, Value.cells] using hfs 1 _ rfl
        have g2 : Trd enc W m' 3 [a2] y2 := by simpa [cells9, ceT, cells3, ce4, cells2, Value.cells] using hfs 2 _ rfl
        have g3 : Trd enc W m' 4 [a3] y3 := by simpa [cells9, ceT, cells3, ce4, cells2, Value.cells] using hfs 3 _ rfl
        have g4 : Trd enc W m' 3 [a4] y4 := by simpa [cells9, ceT, cells3, ce4, cells2, Value.cells] using hfs 4 _ rfl
        have g5 : Trd enc W m' 2 [a5] y5 := by simpa [cells9, ceT, cells3, ce4, cells2, Value.cells] using hfs 5 _ rfl
        obtain ⟨nm, rfl, _⟩ := view_str g0 (fun v hv => hwd v (by rw [hx]; simp [DataW.weights, Tryd.underlying55, DataW.weightsEach]; left; exact hv))
        obtain ⟨ty, rfl, _⟩ := view_u8 Tryd.underlying27 g1
        obtain ⟨kp, rfl, _⟩ := view_i64 Tryd.underlying3 g2
        obtain ⟨fa, hfa, _⟩ := DataW.trod_bool Tryd.underlying4 g3
        obtain ⟨fr, rfl, _⟩ := view_i64 Tryd.underlying3 g4
        obtain ⟨df, rfl, _⟩ := view_i64 Tryd.underlying2 g5
        simp only [List.cons.injEq, and_true] at hfa
        subst hfa
        refine ⟨⟨nm, ty, kp, fa, fr, df⟩, fun _ => ⟨b, o, rfl, fun j hj => ?_⟩⟩
        rw [hcell j hj]
    · exact ⟨⟨ByteArray.empty, 0, 0, false, 0, 0⟩, fun h => absurd h hi⟩
  obtain ⟨f, hf⟩ := Classical.axiomOfChoice each
  have hl : ((List.range len).map f).length = len := by simp
  unfold reachBytes at h4
  refine ⟨(List.range len).map f, ao, cap, by rw [hl], ⟨by rw [hl]; exact h2, by rw [hl]; omega⟩, ?_⟩
  by_cases h0 : len = 0
  · exact .inl (by rw [h0]; rfl)
  · obtain ⟨b, o, e, _⟩ := hf 0 (by omega)
    refine .inr ⟨b, o, e, fun i hi j hj => ?_⟩
    rw [hl] at hi
    obtain ⟨b', o', e', k0⟩ := hf i hi
    rw [e] at e'
    injection e' with e'
    injection e' with e1 e2 _
    subst e1 e2
    rw [k0 j hj]
    simp
set_option maxRecDepth 100000 in
theorem view_instrs {H : Type} {enc : TypeId × Value → H} {W : World} {n : Nat} {c : Value} {y : DataW H × List MemPlace} (h : Trd enc W n 23 [c] y) (hw : ∀ v ∈ y.1.weights Tryd.prog 23, v ≤ reachBytes) : ∃ l : List Cin, InR W c l := by
  obtain ⟨ao, len, cap, rfl, h2, h4, h5⟩ := view_row Tryd.underlying23 h hw (by rw [ceIn]; omega)
  rw [byIn] at h4
  rw [ceIn] at h5
  have each : ∀ i, ∃ z : Cin, i < len → z.op < 256 ∧ ∃ b o, ao = some ⟨b, o, none⟩ ∧ ∀ j, j < 3 → W.cell? ⟨b, o + i * 3 + j, none⟩ = (insC z)[j]? := fun i => by
    by_cases hi : i < len
    · obtain ⟨b, o, rfl, hc⟩ := h5.resolve_left (by omega)
      obtain ⟨l, d, m, hl, ht, hwd⟩ := hc i hi
      obtain ⟨hll, hcell⟩ := cells_at hl
      obtain ⟨a0, a1, a2, rfl⟩ := list3 hll
      obtain ⟨xs, m', _, hx, _, hlen, hfs⟩ := DataW.trod_struct Tryd.underlying38 ht
      match xs, hlen with
      | [y0, y1, y2], _ =>
        have g0 : Trd enc W m' 36 [a0] y0 := by simpa [ceO, cells3, cells2, Value.cells] using hfs 0 _ rfl
        have g1 : Trd enc W m' 2 [a1] y1 := by simpa [ceO, cells3, cells2, Value.cells] using hfs 1 _ rfl
        have g2 : Trd enc W m' 3 [a2] y2 := by simpa [ceO, cells3, cells2, Value.cells] using hfs 2 _ rfl
        obtain ⟨op, rfl, hop⟩ := view_u8 Tryd.underlying36 g0
        obtain ⟨nn, rfl, _⟩ := view_i64 Tryd.underlying2 g1
        obtain ⟨ag, rfl, _⟩ := view_i64 Tryd.underlying3 g2
        refine ⟨⟨op, nn, ag⟩, fun _ => ⟨hop, b, o, rfl, fun j hj => ?_⟩⟩
        rw [hcell j hj]
    · exact ⟨⟨0, 0, 0⟩, fun h => absurd h hi⟩
  obtain ⟨f, hf⟩ := Classical.axiomOfChoice each
  have hl : ((List.range len).map f).length = len := by simp
  unfold reachBytes at h4
  refine ⟨(List.range len).map f, ao, cap, by rw [hl], ⟨by rw [hl]; exact h2, by rw [hl]; omega⟩, ?_⟩
  by_cases h0 : len = 0
  · exact .inl (by rw [h0]; rfl)
  · obtain ⟨_, b, o, e, _⟩ := hf 0 (by omega)
    refine .inr ⟨b, o, e, fun i hi => ?_⟩
    rw [hl] at hi
    obtain ⟨ho, b', o', e', k0⟩ := hf i hi
    rw [e] at e'
    injection e' with e'
    injection e' with e1 e2 _
    subst e1 e2
    refine ⟨by simpa using ho, fun j hj => ?_⟩
    rw [k0 j hj]
    simp
set_option maxRecDepth 100000 in
theorem viewp {H : Type} {enc : TypeId × Value → H} {W : World} {base : Nat} {v : Value} {d : DataW H} {p : List MemPlace} {ts : List TypeId} {ds : List (DataW H)} {j : Nat}
    (hv : Value.okWide Tryd.prog W .any base 22 v) (hd : DataW.Trod enc Tryd.prog W 0 (fun _ => true) true 22 v d p) (hsz : (DataW.weightsEach Tryd.prog ts ds).all (· ≤ reachBytes) = true) (ht : ts[j]? = some 22) (hdj : ds[j]? = some d) : ∃ ps : List Plc, PlR W v ps := by
  obtain ⟨a, len, cap, rfl⟩ := okWide_slice Tryd.underlying22 hv
  obtain ⟨fuel, hf⟩ := hd
  exact view_places (show Trd enc W fuel 22 [.slice a len cap] (d, p) from hf) (weighs hsz ht hdj)
set_option maxRecDepth 100000 in
theorem viewi {H : Type} {enc : TypeId × Value → H} {W : World} {base : Nat} {v : Value} {d : DataW H} {p : List MemPlace} {ts : List TypeId} {ds : List (DataW H)} {j : Nat}
    (hv : Value.okWide Tryd.prog W .any base 23 v) (hd : DataW.Trod enc Tryd.prog W 0 (fun _ => true) true 23 v d p) (hsz : (DataW.weightsEach Tryd.prog ts ds).all (· ≤ reachBytes) = true) (ht : ts[j]? = some 23) (hdj : ds[j]? = some d) : ∃ l : List Cin, InR W v l := by
  obtain ⟨a, len, cap, rfl⟩ := okWide_slice Tryd.underlying23 hv
  obtain ⟨fuel, hf⟩ := hd
  exact view_instrs (show Trd enc W fuel 23 [.slice a len cap] (d, p) from hf) (weighs hsz ht hdj)
theorem nat_16 {n : Int} (h : (Lit.int .u16 n).wf = true) : ∃ k : Nat, k < 65536 ∧ n = (k : Int) := by
  simp [Lit.wf, IntKind.min, IntKind.max, IntKind.signed, IntKind.bits] at h
  exact ⟨n.toNat, by omega, by omega⟩
set_option maxRecDepth 100000 in
theorem viewS {H : Type} {enc : TypeId × Value → H} {W : World} {base : Nat} {v : Value} {d : DataW H} {p : List MemPlace} {ts : List TypeId} {ds : List (DataW H)} {j : Nat}
    (hv : Value.okWide Tryd.prog W .any base 35 v) (hd : DataW.Trod enc Tryd.prog W 0 (fun _ => true) true 35 v d p) (hsz : (DataW.weightsEach Tryd.prog ts ds).all (· ≤ reachBytes) = true) (ht : ts[j]? = some 35) (hdj : ds[j]? = some d) :
    ∃ (ps : List Plc) (l : List Cin) (at_ op : Nat) (pv lv : Value), v = .agg #[pv, lv, .int .u16 (at_ : Int), .int .u8 (op : Int)] ∧ at_ < 65536 ∧ op < 256 ∧ PlR W pv ps ∧ InR W lv l := by
  obtain ⟨cs, rfl, hz⟩ := okWide_struct Tryd.underlying35 hv
  obtain ⟨c0, c1, c2, c3, rfl⟩ := array4 (by rw [hz]; exact ceSp)
  obtain ⟨fuel, hf⟩ := hd
  have hw := weighs hsz ht hdj
  obtain ⟨xs, m, _, hx, _, hlen, hfs⟩ := DataW.trod_struct Tryd.underlying35 hf
  match xs, hlen with
  | [y0, y1, y2, y3], _ =>
    have h0 : Trd enc W m 22 [c0] y0 := by simpa [cePls, ceIns, ceU16, cells5, Value.cells] using hfs 0 _ rfl
    have h1 : Trd enc W m 23 [c1] y1 := by simpa [cePls, ceIns, ceU16, cells5, Value.cells] using hfs 1 _ rfl
    have h2 : Trd enc W m 33 [c2] y2 := by simpa [cePls, ceIns, ceU16, cells5, Value.cells] using hfs 2 _ rfl
    have h3 : Trd enc W m 5 [c3] y3 := by simpa [cePls, ceIns, ceU16, cells5, Value.cells] using hfs 3 _ rfl
    simp only [Prod.mk.injEq] at hx
    obtain ⟨rfl, _⟩ := hx
    obtain ⟨ps, hp⟩ := view_places h0 (fun v hv => hw v (by simp [DataW.weights, Tryd.underlying35, DataW.weightsEach]; left; exact hv))
    obtain ⟨l, hl⟩ := view_instrs h1 (fun v hv => hw v (by simp [DataW.weights, Tryd.underlying35, DataW.weightsEach]; right; left; exact hv))
    obtain ⟨k, e, e2⟩ := DataW.trod_int Tryd.underlying33 h2
    simp only [List.cons.injEq, and_true] at e
    obtain ⟨z, hz2, rfl⟩ := nat_16 e2.2
    obtain ⟨op, rfl, hop⟩ := view_u8 Tryd.underlying5 h3
    exact ⟨ps, l, z, op, c0, c1, by rw [e], hz2, hop, hp, hl⟩
end Go.Proofs.YtdenddknbmiboaaDoor.Lex
