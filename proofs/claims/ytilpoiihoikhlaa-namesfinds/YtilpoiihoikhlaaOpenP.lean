/-
  A program that came in, opened once.
-/
import Derived.Test.YtilpoiihoikhlaaOpenE
import Derived.Test.YtilpoiihoikhlaaPg
namespace Go.Proofs.Ytilpoiihoikhlaa.Lex
open Go.ChangeShapes Go.WideShapes Go.ChangeAt Go.RowKit Go.Joins
theorem cells3 : Try.prog.cellsOf 3 = 1 := by kernel_rfl
theorem cells30 : Try.prog.cellsOf 30 = 1 := by kernel_rfl
theorem cells44 : Try.prog.cellsOf 44 = 3 := by kernel_rfl
theorem cells50 : Try.prog.cellsOf 50 = 8 := by kernel_rfl
theorem cells26 : Try.prog.cellsOf 26 = 4 := by kernel_rfl
theorem cellsS22 : Try.prog.cellsOf 22 = 1 := by kernel_rfl
theorem cellsS23 : Try.prog.cellsOf 23 = 1 := by kernel_rfl
theorem cellsS24 : Try.prog.cellsOf 24 = 1 := by kernel_rfl
theorem bytes44 : Try.prog.bytesOf 44 = 32 := by kernel_rfl
theorem bytes50 : Try.prog.bytesOf 50 = 96 := by kernel_rfl
theorem bytes9 : Try.prog.bytesOf 9 = 16 := by kernel_rfl
abbrev Trd {H : Type} (enc : TypeId × Value → H) (W : World) (n : Nat) (t : TypeId) (cs : List Value) (y : DataW H × List MemPlace) : Prop := DataW.trod enc Try.prog W 0 (fun _ => true) true n t cs = some y
theorem view_str {H : Type} {enc : TypeId × Value → H} {W : World} {n : Nat} {c : Value} {y : DataW H × List MemPlace} (h : Trd enc W n 9 [c] y) (hw : ∀ v ∈ y.1.weights Try.prog 9, v ≤ reachBytes) : ∃ nm : ByteArray, c = .string nm ∧ nm.size ≤ 140737488355328 := by
  obtain ⟨nm, e, hy, _⟩ := DataW.trod_string Try.underlying9 h
  simp only [List.cons.injEq, and_true] at e
  subst e
  refine ⟨nm, rfl, ?_⟩
  have := hw nm.data.toList.length (by rw [hy]; simp [DataW.weights])
  rw [← Lib.size_eq] at this
  unfold reachBytes at this
  omega
theorem view_u8 {H : Type} {enc : TypeId × Value → H} {W : World} {n : Nat} {t : TypeId} {c : Value} {y : DataW H × List MemPlace} (hu : Try.prog.underlying t = some (.int .u8)) (h : Trd enc W n t [c] y) : ∃ u : Nat, c = .int .u8 (u : Int) ∧ u < 256 := by
  obtain ⟨k, e, _, w0⟩ := DataW.trod_int hu h
  simp only [List.cons.injEq, and_true] at e
  subst e
  have hk : 0 ≤ k ∧ k < 256 := by
    simp [Lit.wf, IntKind.min, IntKind.max, IntKind.signed, IntKind.bits] at w0
    omega
  exact ⟨k.toNat, by congr 1; omega, by omega⟩
theorem view_i64 {H : Type} {enc : TypeId × Value → H} {W : World} {n : Nat} {t : TypeId} {c : Value} {y : DataW H × List MemPlace} (hu : Try.prog.underlying t = some (.int .i64)) (h : Trd enc W n t [c] y) : ∃ k : Int, c = .int .i64 k ∧ (-9223372036854775808 ≤ k ∧ k ≤ 9223372036854775807) := by
  obtain ⟨k, e, _, w0⟩ := DataW.trod_int hu h
  simp only [List.cons.injEq, and_true] at e
  subst e
  have hk : -9223372036854775808 ≤ k ∧ k ≤ 9223372036854775807 := by
    simp [Lit.wf, IntKind.min, IntKind.max, IntKind.signed, IntKind.bits] at w0
    omega
  exact ⟨k, rfl, hk⟩
theorem list3 {l : List Value} (h : l.length = 3) : ∃ a b c, l = [a, b, c] := by match l, h with | [a, b, c], _ => exact ⟨a, b, c, rfl⟩
theorem list8 {l : List Value} (h : l.length = 8) : ∃ a b c d e f g i, l = [a, b, c, d, e, f, g, i] := by match l, h with | [a, b, c, d, e, f, g, i], _ => exact ⟨a, b, c, d, e, f, g, i, rfl⟩
theorem viewHd {H : Type} {enc : TypeId × Value → H} {W : World} {n : Nat} {cs : List Value} {y : DataW H × List MemPlace} (h : Trd enc W n 44 cs y) (hw : ∀ v ∈ y.1.weights Try.prog 44, v ≤ reachBytes) : ∃ x : Hd, cs = [.string x.name, .int .u8 (x.ty : Int), .int .i64 x.st] ∧ x.ok := by
  obtain ⟨xs, m, hn, hx, hl, hlen, hfs⟩ := DataW.trod_struct Try.underlying44 h
  rw [cells44] at hl
  obtain ⟨c0, c1, c2, rfl⟩ := list3 hl
  match xs, hlen with
  | [y0, y1, y2], _ =>
    have h0 : Trd enc W m 9 [c0] y0 := by simpa [cells9] using hfs 0 _ rfl
    have h1 : Trd enc W m 30 [c1] y1 := by simpa [cells30] using hfs 1 _ rfl
    have h2 : Trd enc W m 3 [c2] y2 := by simpa [cells3] using hfs 2 _ rfl
    obtain ⟨nm, rfl, k0⟩ := view_str h0 (fun v hv => hw v (by rw [hx]; simp [DataW.weights, Try.underlying44, DataW.weightsEach]; left; exact hv))
    obtain ⟨u, rfl, k1⟩ := view_u8 Try.underlying30 h1
    obtain ⟨k, rfl, k2⟩ := view_i64 Try.underlying3 h2
    exact ⟨⟨nm, u, k⟩, rfl, k0, k1, k2⟩
theorem viewFl {H : Type} {enc : TypeId × Value → H} {W : World} {n : Nat} {cs : List Value} {y : DataW H × List MemPlace} (h : Trd enc W n 50 cs y) (hw : ∀ v ∈ y.1.weights Try.prog 50, v ≤ reachBytes) :
    ∃ (x : Fl) (s : Value), cs = [.string x.name, .int .u8 (x.ty : Int), .int .i64 x.st, .int .i64 x.df, .int .u8 (x.body.op : Int), .int .i64 x.body.n, .string x.body.name, s] ∧ x.ok ∧ St W x.body s := by
  obtain ⟨xs, m, hn, hx, hl, hlen, hfs⟩ := DataW.trod_struct Try.underlying50 h
  rw [cells50] at hl
  obtain ⟨c0, c1, c2, c3, c4, c5, c6, c7, rfl⟩ := list8 hl
  match xs, hlen with
  | [y0, y1, y2, y3, y4], _ =>
    have h0 : Trd enc W m 9 [c0] y0 := by simpa [cells9] using hfs 0 _ rfl
    have h1 : Trd enc W m 30 [c1] y1 := by simpa [cells30] using hfs 1 _ rfl
    have h2 : Trd enc W m 3 [c2] y2 := by simpa [cells3] using hfs 2 _ rfl
    have h3 : Trd enc W m 2 [c3] y3 := by simpa [cells2] using hfs 3 _ rfl
    have h4 : Trd enc W m 48 [c4, c5, c6, c7] y4 := by simpa [cells25] using hfs 4 _ rfl
    obtain ⟨nm, rfl, k0⟩ := view_str h0 (fun v hv => hw v (by rw [hx]; simp [DataW.weights, Try.underlying50, DataW.weightsEach]; left; exact hv))
    obtain ⟨u, rfl, k1⟩ := view_u8 Try.underlying30 h1
    obtain ⟨k, rfl, k2⟩ := view_i64 Try.underlying3 h2
    obtain ⟨k', rfl, k3⟩ := view_i64 Try.underlying2 h3
    obtain ⟨x, s, e, hs⟩ := viewT m m _ y4.1 y4.2 (Nat.le_refl _) h4 (fun v hv => hw v (by rw [hx]; simp [DataW.weights, Try.underlying50, DataW.weightsEach]; right; right; right; right; exact hv))
    simp only [List.cons.injEq, and_true] at e
    obtain ⟨rfl, rfl, rfl, rfl⟩ := e
    exact ⟨⟨nm, u, k, k', x⟩, _, rfl, ⟨k0, k1, k2, k3⟩, hs⟩
/-- A slice that came in: where its elements lie, and that each can be opened. -/
theorem view_row {H : Type} {enc : TypeId × Value → H} {W : World} {n : Nat} {t e : TypeId} {c : Value} {y : DataW H × List MemPlace} (hu : Try.prog.underlying t = some (.slice e)) (h : Trd enc W n t [c] y) (hw : ∀ v ∈ y.1.weights Try.prog t, v ≤ reachBytes) (hc0 : 0 < Try.prog.cellsOf e) :
    ∃ (ao : Option Addr) (len cap : Nat), c = .slice ao len cap ∧ len ≤ cap ∧ len * Try.prog.bytesOf e ≤ reachBytes ∧ (len = 0 ∨ ∃ b o, ao = some ⟨b, o, none⟩ ∧ ∀ i, i < len → ∃ l d m, (W.cells? 0 ⟨b, o + i * Try.prog.cellsOf e, none⟩ (Try.prog.cellsOf e)) = some l ∧ Trd enc W m e l d ∧ ∀ v ∈ d.1.weights Try.prog e, v ≤ reachBytes) := by
  rcases DataW.trod_slice hu h with ⟨hc, _⟩ | ⟨a, len, cap, elems, rest, n', hn', hc, hy3, hb, hlc, hcm, hel, helem, hsp, _⟩
  · simp only [List.cons.injEq, and_true] at hc
    exact ⟨none, 0, 0, hc, Nat.le_refl _, by simp [reachBytes], .inl rfl⟩
  · simp only [List.cons.injEq, and_true] at hc
    subst hc
    have hwl : (len + rest.length) * Try.prog.bytesOf e ≤ reachBytes := by
      have := hw ((elems.map (·.1)).length + (rest.map (·.1)).length |> (· * Try.prog.bytesOf e)) (by rw [hy3]; simp [DataW.weights, hu])
      simpa [hel] using this
    refine ⟨some a, len, cap, rfl, hlc, Nat.le_trans (Nat.mul_le_mul_right _ (by omega)) hwl, ?_⟩
    by_cases h00 : len = 0
    · exact .inl h00
    · right
      have each : ∀ i, i < len → ∃ l d m, (W.cells? 0 (a.add (i * Try.prog.cellsOf e)) (Try.prog.cellsOf e)) = some l ∧ Trd enc W m e l d ∧ ∀ v ∈ d.1.weights Try.prog e, v ≤ reachBytes := fun i hi => by
        have he := helem i hi
        rw [List.getElem?_eq_getElem (by omega)] at he
        obtain ⟨l, hl1, hl2⟩ := Option.bind_eq_some_iff.1 he
        refine ⟨l, _, n', hl1, hl2, fun v hv => hw v ?_⟩
        rw [hy3]
        simp only [DataW.weights, hu]
        refine List.mem_cons_of_mem _ (List.mem_append_left _ (all_mem (i := i) (d := (elems[i]'(by omega)).1) ?_ v hv))
        rw [List.getElem?_map, List.getElem?_eq_getElem (by omega)]
        rfl
      obtain ⟨b, o, sp⟩ := a
      have hspt : sp = none := by
        obtain ⟨l, d, m, hl, _⟩ := each 0 (by omega)
        unfold World.cells? at hl
        rw [if_pos (Nat.zero_le _)] at hl
        obtain ⟨v, _, hf⟩ := Lib.mapM_at hl 0 0 (by simp [hc0])
        simpa [Addr.add] using World.cell?_spot hf
      subst hspt
      exact ⟨b, o, rfl, fun i hi => by have := each i hi; rw [add_off] at this; exact this⟩
theorem cells_at {w : World} {b o c : Nat} {l : List Value} (h : w.cells? 0 ⟨b, o, none⟩ c = some l) : l.length = c ∧ ∀ j, j < c → w.cell? ⟨b, o + j, none⟩ = l[j]? := by
  unfold World.cells? at h
  rw [if_pos (Nat.zero_le _)] at h
  refine ⟨by have := Lib.mapM_length h; simpa using this, fun j hj => ?_⟩
  obtain ⟨v, hb, hf⟩ := Lib.mapM_at h j j (by simp [hj])
  rw [add_off] at hf
  rw [hf, hb]
theorem viewIns {H : Type} {enc : TypeId × Value → H} {W : World} {n : Nat} {c : Value} {y : DataW H × List MemPlace} (h : Trd enc W n 22 [c] y) (hw : ∀ v ∈ y.1.weights Try.prog 22, v ≤ reachBytes) : ∃ l, InsAt W l c := by
  obtain ⟨ao, len, cap, rfl, hlc, hby, hr⟩ := view_row Try.underlying22 h hw (by rw [cells44]; omega)
  rw [bytes44] at hby
  rw [cells44] at hr
  have each : ∀ i, ∃ x : Hd, i < len → x.ok ∧ ∃ b o, ao = some ⟨b, o, none⟩ ∧ HdCells W b (o + i * 3) x := fun i => by
    by_cases hi : i < len
    · obtain ⟨b, o, rfl, hc⟩ := hr.resolve_left (by omega)
      obtain ⟨l, d, m, hl, ht, hwt⟩ := hc i hi
      obtain ⟨x, rfl, hx⟩ := viewHd ht hwt
      obtain ⟨_, hcell⟩ := cells_at hl
      exact ⟨x, fun _ => ⟨hx, b, o, rfl, hcell 0 (by omega), hcell 1 (by omega), hcell 2 (by omega)⟩⟩
    · exact ⟨⟨ByteArray.empty, 0, 0⟩, fun h => absurd h hi⟩
  obtain ⟨f, hf⟩ := Classical.axiomOfChoice each
  refine ⟨(List.range len).map f, ao, cap, by simp, ?_, by simpa using hlc, fun x hx => ?_, ?_⟩
  · unfold reachBytes at hby
    simp
    omega
  · obtain ⟨i, hi, rfl⟩ := List.mem_map.1 hx
    exact (hf i (by simpa using hi)).1
  · by_cases h0 : len = 0
    · exact .inl (by simp [h0])
    · right
      obtain ⟨_, b, o, e, _⟩ := hf 0 (by omega)
      refine ⟨b, o, e, fun i hi => ?_⟩
      obtain ⟨_, b', o', e', hc⟩ := hf i (by simpa using hi)
      rw [e] at e'
      injection e' with e'
      injection e' with e1 e2 _
      subst e1 e2
      simpa using hc
theorem viewTexts {H : Type} {enc : TypeId × Value → H} {W : World} {n : Nat} {c : Value} {y : DataW H × List MemPlace} (h : Trd enc W n 24 [c] y) (hw : ∀ v ∈ y.1.weights Try.prog 24, v ≤ reachBytes) : ∃ l, TextsAt W l c := by
  obtain ⟨ao, len, cap, rfl, hlc, hby, hr⟩ := view_row Try.underlying24 h hw (by rw [cells9]; omega)
  rw [bytes9] at hby
  rw [cells9] at hr
  have each : ∀ i, ∃ x : ByteArray, i < len → x.size ≤ 140737488355328 ∧ ∃ b o, ao = some ⟨b, o, none⟩ ∧ W.cell? ⟨b, o + i, none⟩ = some (.string x) := fun i => by
    by_cases hi : i < len
    · obtain ⟨b, o, rfl, hc⟩ := hr.resolve_left (by omega)
      obtain ⟨l, d, m, hl, ht, hwt⟩ := hc i hi
      obtain ⟨hll, hcell⟩ := cells_at hl
      obtain ⟨c0, rfl⟩ := List.length_eq_one_iff.1 hll
      obtain ⟨x, rfl, hx⟩ := view_str ht hwt
      exact ⟨x, fun _ => ⟨hx, b, o, rfl, by simpa using hcell 0 (by omega)⟩⟩
    · exact ⟨ByteArray.empty, fun h => absurd h hi⟩
  obtain ⟨f, hf⟩ := Classical.axiomOfChoice each
  refine ⟨(List.range len).map f, ao, cap, by simp, ?_, by simpa using hlc, fun x hx => ?_, ?_⟩
  · unfold reachBytes at hby
    simp
    omega
  · obtain ⟨i, hi, rfl⟩ := List.mem_map.1 hx
    exact (hf i (by simpa using hi)).1
  · by_cases h0 : len = 0
    · exact .inl (by simp [h0])
    · right
      obtain ⟨_, b, o, e, _⟩ := hf 0 (by omega)
      refine ⟨b, o, e, fun i hi => ?_⟩
      obtain ⟨_, b', o', e', hc⟩ := hf i (by simpa using hi)
      rw [e] at e'
      injection e' with e'
      injection e' with e1 e2 _
      subst e1 e2
      simpa using hc
theorem viewFlows {H : Type} {enc : TypeId × Value → H} {W : World} {n : Nat} {c : Value} {y : DataW H × List MemPlace} (h : Trd enc W n 23 [c] y) (hw : ∀ v ∈ y.1.weights Try.prog 23, v ≤ reachBytes) : ∃ l, FlowsAt W l c := by
  obtain ⟨ao, len, cap, rfl, hlc, hby, hr⟩ := view_row Try.underlying23 h hw (by rw [cells50]; omega)
  rw [bytes50] at hby
  rw [cells50] at hr
  have each : ∀ i, ∃ x : Fl × Value, i < len → x.1.ok ∧ St W x.1.body x.2 ∧ ∃ b o, ao = some ⟨b, o, none⟩ ∧ FlCells W b (o + i * 8) x.1 x.2 := fun i => by
    by_cases hi : i < len
    · obtain ⟨b, o, rfl, hc⟩ := hr.resolve_left (by omega)
      obtain ⟨l, d, m, hl, ht, hwt⟩ := hc i hi
      obtain ⟨x, s, rfl, hx, hs⟩ := viewFl ht hwt
      obtain ⟨_, hcell⟩ := cells_at hl
      exact ⟨(x, s), fun _ => ⟨hx, hs, b, o, rfl, hcell 0 (by omega), hcell 1 (by omega), hcell 2 (by omega), hcell 3 (by omega), hcell 4 (by omega), hcell 5 (by omega), hcell 6 (by omega), hcell 7 (by omega)⟩⟩
    · exact ⟨(⟨ByteArray.empty, 0, 0, 0, ⟨0, 0, ByteArray.empty, []⟩⟩, .slice none 0 0), fun h => absurd h hi⟩
  obtain ⟨f, hf⟩ := Classical.axiomOfChoice each
  refine ⟨(List.range len).map fun i => (f i).1, ao, cap, fun i => (f i).2, by simp, ?_, by simpa using hlc, fun x hx => ?_, ?_, fun i hi => ?_⟩
  · unfold reachBytes at hby
    simp
    omega
  · obtain ⟨i, hi, rfl⟩ := List.mem_map.1 hx
    exact (hf i (by simpa using hi)).1
  · by_cases h0 : len = 0
    · exact .inl (by simp [h0])
    · right
      obtain ⟨_, _, b, o, e, _⟩ := hf 0 (by omega)
      refine ⟨b, o, e, fun i hi => ?_⟩
      obtain ⟨_, _, b', o', e', hc⟩ := hf i (by simpa using hi)
      rw [e] at e'
      injection e' with e'
      injection e' with e1 e2 _
      subst e1 e2
      simpa using hc
  · have := (hf i (by simpa using hi)).2.1
    simpa using this
set_option maxRecDepth 100000 in
/-- An api.Prog that came in, opened once. -/
theorem viewP {H : Type} {enc : TypeId × Value → H} {W : World} {r : Reach} {b0 : Nat} {v : Value} {d : DataW H} {p : List MemPlace} {ts : List TypeId} {ds : List (DataW H)} {j : Nat}
    (hv : Value.okWide Try.prog W r b0 26 v) (h : DataW.Trod enc Try.prog W 0 (fun _ => true) true 26 v d p)
    (hsz : (DataW.weightsEach Try.prog ts ds).all (· ≤ reachBytes) = true) (ht : ts[j]? = some 26) (hj : ds[j]? = some d) : ∃ (x : Pg) (a b c : Value), v = pgV x a b c ∧ PgAt W x a b c := by
  obtain ⟨cs, rfl, hz⟩ := okWide_struct Try.underlying26 hv
  obtain ⟨c0, c1, c2, c3, rfl⟩ := array4 (by rw [hz]; exact cells26)
  obtain ⟨fuel, hf⟩ := h
  have hw : ∀ v ∈ d.weights Try.prog 26, v ≤ reachBytes := fun v hv => by
    have := List.all_eq_true.1 hsz _ (DataW.weights_mem_each ht hj v hv)
    simpa using this
  obtain ⟨xs, m, hn, hx, hl, hlen, hfs⟩ := DataW.trod_struct Try.underlying26 hf
  match xs, hlen with
  | [y0, y1, y2, y3], _ =>
    have h0 : Trd enc W m 3 [c0] y0 := by simpa [cells3, Value.cells] using hfs 0 _ rfl
    have h1 : Trd enc W m 22 [c1] y1 := by simpa [cellsS22, Value.cells] using hfs 1 _ rfl
    have h2 : Trd enc W m 23 [c2] y2 := by simpa [cellsS23, Value.cells] using hfs 2 _ rfl
    have h3 : Trd enc W m 24 [c3] y3 := by simpa [cellsS24, Value.cells] using hfs 3 _ rfl
    simp only [Prod.mk.injEq] at hx
    obtain ⟨rfl, _⟩ := hx
    obtain ⟨k, rfl, k0⟩ := view_i64 Try.underlying3 h0
    obtain ⟨li, hi⟩ := viewIns h1 (fun v hv => hw v (by simp [DataW.weights, Try.underlying26, DataW.weightsEach]; right; left; exact hv))
    obtain ⟨lf, hfl⟩ := viewFlows h2 (fun v hv => hw v (by simp [DataW.weights, Try.underlying26, DataW.weightsEach]; right; right; left; exact hv))
    obtain ⟨lo, ho⟩ := viewTexts h3 (fun v hv => hw v (by simp [DataW.weights, Try.underlying26, DataW.weightsEach]; right; right; right; exact hv))
    exact ⟨⟨k, li, lf, lo⟩, c1, c2, c3, rfl, k0, hi, hfl, ho⟩
end Go.Proofs.Ytilpoiihoikhlaa.Lex
