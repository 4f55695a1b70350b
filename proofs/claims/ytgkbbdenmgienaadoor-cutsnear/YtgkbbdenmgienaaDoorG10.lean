/-
  What is worked out that came in, opened once.
  A program that came in, opened once.
  What the package-level variables hold when a law of stage 8 begins.
-/
import Derived.Test.YtgkbbdenmgienaaDoorG1
import Derived.Test.YtgkbbdenmgienaaDoorG2
import Derived.Test.YtgkbbdenmgienaaDoorG3
import Derived.Test.YtgkbbdenmgienaaDoorG5
import Derived.Test.YtgkbbdenmgienaaDoorTie
import Derived.Test.YtgkbbdenmgienaaDoorCards
import Derived.ProofKit
import Derived.OpenShut
import Derived.ShutString
import Derived.ChangeOld
import Derived.LaidMore
import Derived.SizedLaws
import Derived.Lib.LaidTab
import Derived.Lib.SmallJoins
import Derived.Stop.LaidErr
namespace Go.Proofs.YtgkbbdenmgienaaDoor.Lex
open Go.ChangeShapes Go.WideShapes Go.ChangeAt Go.RowKit Go.Joins
theorem cells25 : Tryd.prog.cellsOf 49 = 4 := by kernel_rfl
theorem cells22 : Tryd.prog.cellsOf 46 = 1 := by kernel_rfl
theorem cells2 : Tryd.prog.cellsOf 2 = 1 := by kernel_rfl
theorem cells23 : Tryd.prog.cellsOf 47 = 1 := by kernel_rfl
theorem bytes25 : Tryd.prog.bytesOf 49 = 56 := by kernel_rfl
theorem list4 {l : List Value} (h : l.length = 4) : ∃ a b c d, l = [a, b, c, d] := by match l, h with | [a, b, c, d], _ => exact ⟨a, b, c, d, rfl⟩
theorem all_mem {H : Type} {P : Program} {e : TypeId} : ∀ {l : List (DataW H)} {i : Nat} {d : DataW H}, l[i]? = some d → ∀ v ∈ d.weights P e, v ∈ DataW.weightsAll P e l
  | [], i, d, h => by simp at h
  | x :: l, 0, d, h => by simp at h; subst h; intro v hv; rw [DataW.weightsAll]; exact List.mem_append_left _ hv
  | x :: l, i + 1, d, h => by simp at h; intro v hv; rw [DataW.weightsAll]; exact List.mem_append_right _ (all_mem h v hv)
theorem add_off (b o n : Nat) : (⟨b, o, none⟩ : Addr).add n = ⟨b, o + n, none⟩ := by unfold Addr.add; split <;> simp_all
theorem cells4 {w : World} {a : Addr} {l : List Value} (h : w.cells? 0 a 4 = some l) : ∃ v0 v1 v2 v3, l = [v0, v1, v2, v3] ∧ w.cell? (a.add 0) = some v0 ∧ w.cell? (a.add 1) = some v1 ∧ w.cell? (a.add 2) = some v2 ∧ w.cell? (a.add 3) = some v3 := by
  unfold World.cells? at h
  rw [if_pos (Nat.zero_le _)] at h
  have hl : l.length = 4 := by have := Lib.mapM_length h; simpa using this
  obtain ⟨v0, v1, v2, v3, rfl⟩ := list4 hl
  have g : ∀ i, i < 4 → w.cell? (a.add i) = [v0, v1, v2, v3][i]? := fun i hi => by
    obtain ⟨b, hb, hf⟩ := Lib.mapM_at h i i (by simp [hi])
    rw [hf, hb]
  exact ⟨v0, v1, v2, v3, rfl, g 0 (by omega), g 1 (by omega), g 2 (by omega), g 3 (by omega)⟩
/-- What came in, as a tree. -/
theorem viewT {H : Type} {enc : TypeId × Value → H} {W : World} : ∀ (m fuel : Nat) (cs : List Value) (d : DataW H) (p : List MemPlace), fuel ≤ m → DataW.trod enc Tryd.prog W 0 (fun _ => true) true fuel 49 cs = some (d, p) → (∀ v ∈ d.weights Tryd.prog 49, v ≤ reachBytes) →
    ∃ (x : Ex) (s : Value), cs = [.int .u8 (x.op : Int), .int .i64 x.n, .string x.name, s] ∧ St W x s := by
  intro m
  induction m with
  | zero => intro fuel cs d p hm h; obtain rfl : fuel = 0 := by omega
            simp [DataW.trod] at h
  | succ m ih =>
    intro fuel cs d p hm h hw
    obtain ⟨xs, n, hn, hx, hl, hlen, hfs⟩ := DataW.trod_struct Tryd.underlying49 h
    rw [cells25] at hl
    obtain ⟨c0, c1, c2, c3, rfl⟩ := list4 hl
    match xs, hlen with
    | [y0, y1, y2, y3], _ =>
      have h0 : DataW.trod enc Tryd.prog W 0 (fun _ => true) true n 46 [c0] = some y0 := by simpa [cells22] using hfs 0 _ rfl
      have h1 : DataW.trod enc Tryd.prog W 0 (fun _ => true) true n 2 [c1] = some y1 := by simpa [cells2] using hfs 1 _ rfl
      have h2 : DataW.trod enc Tryd.prog W 0 (fun _ => true) true n 9 [c2] = some y2 := by simpa [cells9] using hfs 2 _ rfl
      have h3 : DataW.trod enc Tryd.prog W 0 (fun _ => true) true n 47 [c3] = some y3 := by simpa [cells23] using hfs 3 _ rfl
      obtain ⟨op, e0, _, w0⟩ := DataW.trod_int Tryd.underlying46 h0
      obtain ⟨k, e1, _, w1⟩ := DataW.trod_int Tryd.underlying2 h1
      obtain ⟨nm, e2, hy2, _⟩ := DataW.trod_string Tryd.underlying9 h2
      simp only [List.cons.injEq, and_true] at e0 e1 e2
      subst e0 e1 e2
      simp only [Prod.mk.injEq] at hx
      obtain ⟨rfl, _⟩ := hx
      have hw2 : ∀ v ∈ y2.1.weights Tryd.prog 9, v ≤ reachBytes := fun v hv => hw v (by simp [DataW.weights, Tryd.underlying49, DataW.weightsEach]; right; right; left; exact hv)
      have hw3 : ∀ v ∈ y3.1.weights Tryd.prog 47, v ≤ reachBytes := fun v hv => hw v (by simp [DataW.weights, Tryd.underlying49, DataW.weightsEach]; right; right; right; exact hv)
      have hnm : nm.size ≤ 140737488355328 := by
        have := hw2 nm.data.toList.length (by rw [hy2]; simp [DataW.weights])
        rw [← Lib.size_eq] at this
        unfold reachBytes at this
        omega
      have hop : 0 ≤ op ∧ op < 256 := by
        simp [Lit.wf, IntKind.min, IntKind.max, IntKind.signed, IntKind.bits] at w0
        omega
      have hk : -9223372036854775808 ≤ k ∧ k ≤ 9223372036854775807 := by
        simp [Lit.wf, IntKind.min, IntKind.max, IntKind.signed, IntKind.bits] at w1
        omega
      obtain ⟨u, rfl⟩ : ∃ u : Nat, op = (u : Int) := ⟨op.toNat, by omega⟩
      rcases DataW.trod_slice Tryd.underlying47 h3 with ⟨hc, _⟩ | ⟨a, len, cap, elems, rest, n', hn', hc, hy3, hb, hlc, hcm, hel, helem, hsp, _⟩
      · simp only [List.cons.injEq, and_true] at hc
        subst hc
        exact ⟨.mk u k nm [], .slice none 0 0, rfl, St.intro (.mk u k nm []) none 0 (fun _ => .slice none 0 0) (by show u < 256; omega) hk hnm (by show 0 ≤ _; omega) (Nat.le_refl _) (.inl rfl) (fun i hi => by cases hi)⟩
      · simp only [List.cons.injEq, and_true] at hc
        subst hc
        rw [cells25] at helem
        have hwl : (len + rest.length) * 56 ≤ reachBytes := by
          have := hw3 ((elems.map (·.1)).length + (rest.map (·.1)).length |> (· * 56)) (by rw [hy3]; simp [DataW.weights, Tryd.underlying47, bytes25])
          simpa [hel] using this
        have hlen2 : len ≤ 2513169434843 := by unfold reachBytes at hwl; omega
        have each : ∀ i, ∃ q : Ex × Value, i < len → (∃ v0 v1 v2 v3, W.cell? ((a.add (i * 4)).add 0) = some v0 ∧ W.cell? ((a.add (i * 4)).add 1) = some v1 ∧ W.cell? ((a.add (i * 4)).add 2) = some v2 ∧ W.cell? ((a.add (i * 4)).add 3) = some v3 ∧ [v0, v1, v2, v3] = [.int .u8 (q.1.op : Int), .int .i64 q.1.n, .string q.1.name, q.2]) ∧ St W q.1 q.2 := by
          intro i
          by_cases hi : i < len
          · have he := helem i hi
            rw [List.getElem?_eq_getElem (by omega)] at he
            obtain ⟨l, hl1, hl2⟩ := Option.bind_eq_some_iff.1 he
            obtain ⟨v0, v1, v2, v3, rfl, g0, g1, g2, g3⟩ := cells4 hl1
            obtain ⟨x, s, ex, hs⟩ := ih n' _ _ _ (by omega) (show DataW.trod enc Tryd.prog W 0 (fun _ => true) true n' 49 [v0, v1, v2, v3] = some ((elems[i]'(by omega)).1, (elems[i]'(by omega)).2) from hl2) (fun v hv => hw3 v (by
              rw [hy3]
              simp only [DataW.weights, Tryd.underlying47]
              refine List.mem_cons_of_mem _ (List.mem_append_left _ (all_mem (i := i) (d := (elems[i]'(by omega)).1) ?_ v hv))
              rw [List.getElem?_map, List.getElem?_eq_getElem (by omega)]
              rfl))
            exact ⟨(x, s), fun _ => ⟨⟨v0, v1, v2, v3, g0, g1, g2, g3, ex⟩, hs⟩⟩
          · exact ⟨(.mk 0 0 ByteArray.empty [], .slice none 0 0), fun h => absurd h hi⟩
        obtain ⟨f, hf⟩ := Classical.axiomOfChoice each
        have hargs : ((List.range len).map fun i => (f i).1).length = len := by simp
        have hget : ∀ i (hi : i < ((List.range len).map fun i => (f i).1).length), ((List.range len).map fun i => (f i).1)[i] = (f i).1 := fun i hi => by simp
        refine ⟨.mk u k nm ((List.range len).map fun i => (f i).1), .slice (some a) len cap, rfl, ?_⟩
        have key : St W (.mk u k nm ((List.range len).map fun i => (f i).1)) (.slice (some a) ((List.range len).map fun i => (f i).1).length cap) := by
          refine St.intro (.mk u k nm ((List.range len).map fun i => (f i).1)) (some a) cap (fun i => (f i).2) (by show u < 256; omega) hk hnm (by show ((List.range len).map fun i => (f i).1).length ≤ _; omega) (by show ((List.range len).map fun i => (f i).1).length ≤ _; omega) ?_ (fun i hi => ?_)
          · by_cases h00 : len = 0
            · exact .inl (by show ((List.range len).map fun i => (f i).1).length = 0; omega)
            · right
              obtain ⟨b, o, sp⟩ := a
              have hspt : sp = none := by
                obtain ⟨⟨v0, _, _, _, g0, _⟩, _⟩ := hf 0 (by omega)
                simpa [Addr.add] using World.cell?_spot g0
              subst hspt
              refine ⟨b, o, rfl, fun i hi => ?_⟩
              have hi' : i < len := by have : i < ((List.range len).map fun i => (f i).1).length := hi; omega
              obtain ⟨⟨v0, v1, v2, v3, g0, g1, g2, g3, ex⟩, _⟩ := hf i hi'
              simp only [List.cons.injEq, and_true] at ex
              obtain ⟨rfl, rfl, rfl, rfl⟩ := ex
              rw [add_off, add_off] at g0 g1 g2 g3
              have e : (Ex.mk u k nm ((List.range len).map fun i => (f i).1)).args[i] = (f i).1 := hget i hi
              rw [e]
              exact ⟨g0, g1, g2, g3⟩
          · have hi' : i < len := by have : i < ((List.range len).map fun i => (f i).1).length := hi; omega
            have e : (Ex.mk u k nm ((List.range len).map fun i => (f i).1)).args[i] = (f i).1 := hget i hi
            rw [e]
            exact (hf i hi').2
        rwa [hargs] at key
theorem array4 {c : Array Value} (h : c.size = 4) : ∃ a b d e, c = #[a, b, d, e] := by
  obtain ⟨l⟩ := c
  obtain ⟨a, b, d, e, rfl⟩ := list4 (by simpa using h)
  exact ⟨a, b, d, e, rfl⟩
set_option maxRecDepth 100000 in
/-- An api.Expr that came in, opened once. -/
theorem viewE {H : Type} {enc : TypeId × Value → H} {W : World} {r : Reach} {b0 : Nat} {v : Value} {d : DataW H} {p : List MemPlace} {ts : List TypeId} {ds : List (DataW H)} {j : Nat}
    (hv : Value.okWide Tryd.prog W r b0 49 v) (h : DataW.Trod enc Tryd.prog W 0 (fun _ => true) true 49 v d p)
    (hsz : (DataW.weightsEach Tryd.prog ts ds).all (· ≤ reachBytes) = true) (ht : ts[j]? = some 49) (hj : ds[j]? = some d) : ∃ (x : Ex) (s : Value), v = exV x s ∧ St W x s := by
  obtain ⟨cs, rfl, hz⟩ := okWide_struct Tryd.underlying49 hv
  obtain ⟨c0, c1, c2, c3, rfl⟩ := array4 (by rw [hz]; exact cells25)
  obtain ⟨fuel, hf⟩ := h
  obtain ⟨x, s, e, hs⟩ := viewT fuel fuel _ d p (Nat.le_refl _) hf (fun v hv => by
    have := List.all_eq_true.1 hsz _ (DataW.weights_mem_each ht hj v hv)
    simpa using this)
  have e' : [c0, c1, c2, c3] = [.int .u8 (x.op : Int), .int .i64 x.n, .string x.name, s] := by simpa [Value.cells] using e
  simp only [List.cons.injEq, and_true] at e'
  obtain ⟨rfl, rfl, rfl, rfl⟩ := e'
  exact ⟨x, _, rfl, hs⟩
end Go.Proofs.YtgkbbdenmgienaaDoor.Lex
namespace Go.Proofs.YtgkbbdenmgienaaDoor.Lex
open Go.ChangeShapes Go.WideShapes Go.ChangeAt Go.RowKit Go.Joins
theorem cells30 : Tryd.prog.cellsOf 38 = 1 := by kernel_rfl
theorem cells44 : Tryd.prog.cellsOf 45 = 3 := by kernel_rfl
theorem cells50 : Tryd.prog.cellsOf 51 = 8 := by kernel_rfl
theorem cells26 : Tryd.prog.cellsOf 26 = 4 := by kernel_rfl
theorem cellsS22 : Tryd.prog.cellsOf 22 = 1 := by kernel_rfl
theorem cellsS23 : Tryd.prog.cellsOf 23 = 1 := by kernel_rfl
theorem cellsS24 : Tryd.prog.cellsOf 24 = 1 := by kernel_rfl
theorem bytes44 : Tryd.prog.bytesOf 45 = 32 := by kernel_rfl
theorem bytes50 : Tryd.prog.bytesOf 51 = 96 := by kernel_rfl
theorem bytes9 : Tryd.prog.bytesOf 9 = 16 := by kernel_rfl
abbrev Trd {H : Type} (enc : TypeId × Value → H) (W : World) (n : Nat) (t : TypeId) (cs : List Value) (y : DataW H × List MemPlace) : Prop := DataW.trod enc Tryd.prog W 0 (fun _ => true) true n t cs = some y
theorem view_str {H : Type} {enc : TypeId × Value → H} {W : World} {n : Nat} {c : Value} {y : DataW H × List MemPlace} (h : Trd enc W n 9 [c] y) (hw : ∀ v ∈ y.1.weights Tryd.prog 9, v ≤ reachBytes) : ∃ nm : ByteArray, c = .string nm ∧ nm.size ≤ 140737488355328 := by
  obtain ⟨nm, e, hy, _⟩ := DataW.trod_string Tryd.underlying9 h
  simp only [List.cons.injEq, and_true] at e
  subst e
  refine ⟨nm, rfl, ?_⟩
  have := hw nm.data.toList.length (by rw [hy]; simp [DataW.weights])
  rw [← Lib.size_eq] at this
  unfold reachBytes at this
  omega
theorem view_u8 {H : Type} {enc : TypeId × Value → H} {W : World} {n : Nat} {t : TypeId} {c : Value} {y : DataW H × List MemPlace} (hu : Tryd.prog.underlying t = some (.int .u8)) (h : Trd enc W n t [c] y) : ∃ u : Nat, c = .int .u8 (u : Int) ∧ u < 256 := by
  obtain ⟨k, e, _, w0⟩ := DataW.trod_int hu h
  simp only [List.cons.injEq, and_true] at e
  subst e
  have hk : 0 ≤ k ∧ k < 256 := by
    simp [Lit.wf, IntKind.min, IntKind.max, IntKind.signed, IntKind.bits] at w0
    omega
  exact ⟨k.toNat, by rw [Int.toNat_of_nonneg hk.1], by omega⟩
theorem view_i64 {H : Type} {enc : TypeId × Value → H} {W : World} {n : Nat} {t : TypeId} {c : Value} {y : DataW H × List MemPlace} (hu : Tryd.prog.underlying t = some (.int .i64)) (h : Trd enc W n t [c] y) : ∃ k : Int, c = .int .i64 k ∧ (-9223372036854775808 ≤ k ∧ k ≤ 9223372036854775807) := by
  obtain ⟨k, e, _, w0⟩ := DataW.trod_int hu h
  simp only [List.cons.injEq, and_true] at e
  subst e
  have hk : -9223372036854775808 ≤ k ∧ k ≤ 9223372036854775807 := by
    simp [Lit.wf, IntKind.min, IntKind.max, IntKind.signed, IntKind.bits] at w0
    omega
  exact ⟨k, rfl, hk⟩
theorem list3 {l : List Value} (h : l.length = 3) : ∃ a b c, l = [a, b, c] := by match l, h with | [a, b, c], _ => exact ⟨a, b, c, rfl⟩
theorem list8 {l : List Value} (h : l.length = 8) : ∃ a b c d e f g i, l = [a, b, c, d, e, f, g, i] := by match l, h with | [a, b, c, d, e, f, g, i], _ => exact ⟨a, b, c, d, e, f, g, i, rfl⟩
theorem viewHd {H : Type} {enc : TypeId × Value → H} {W : World} {n : Nat} {cs : List Value} {y : DataW H × List MemPlace} (h : Trd enc W n 45 cs y) (hw : ∀ v ∈ y.1.weights Tryd.prog 45, v ≤ reachBytes) : ∃ x : Hd, cs = [.string x.name, .int .u8 (x.ty : Int), .int .i64 x.st] ∧ x.ok := by
  obtain ⟨xs, m, hn, hx, hl, hlen, hfs⟩ := DataW.trod_struct Tryd.underlying45 h
  rw [cells44] at hl
  obtain ⟨c0, c1, c2, rfl⟩ := list3 hl
  match xs, hlen with
  | [y0, y1, y2], _ =>
    have h0 : Trd enc W m 9 [c0] y0 := by simpa [cells9] using hfs 0 _ rfl
    have h1 : Trd enc W m 38 [c1] y1 := by simpa [cells30] using hfs 1 _ rfl
    have h2 : Trd enc W m 3 [c2] y2 := by simpa [cells3] using hfs 2 _ rfl
    obtain ⟨nm, rfl, k0⟩ := view_str h0 (fun v hv => hw v (by rw [hx]; simp [DataW.weights, Tryd.underlying45, DataW.weightsEach]; left; exact hv))
    obtain ⟨u, rfl, k1⟩ := view_u8 Tryd.underlying38 h1
    obtain ⟨k, rfl, k2⟩ := view_i64 Tryd.underlying3 h2
    exact ⟨⟨nm, u, k⟩, rfl, k0, k1, k2⟩
theorem viewFl {H : Type} {enc : TypeId × Value → H} {W : World} {n : Nat} {cs : List Value} {y : DataW H × List MemPlace} (h : Trd enc W n 51 cs y) (hw : ∀ v ∈ y.1.weights Tryd.prog 51, v ≤ reachBytes) :
    ∃ (x : Fl) (s : Value), cs = [.string x.name, .int .u8 (x.ty : Int), .int .i64 x.st, .int .i64 x.df, .int .u8 (x.body.op : Int), .int .i64 x.body.n, .string x.body.name, s] ∧ x.ok ∧ St W x.body s := by
  obtain ⟨xs, m, hn, hx, hl, hlen, hfs⟩ := DataW.trod_struct Tryd.underlying51 h
  rw [cells50] at hl
  obtain ⟨c0, c1, c2, c3, c4, c5, c6, c7, rfl⟩ := list8 hl
  match xs, hlen with
  | [y0, y1, y2, y3, y4], _ =>
    have h0 : Trd enc W m 9 [c0] y0 := by simpa [cells9] using hfs 0 _ rfl
    have h1 : Trd enc W m 38 [c1] y1 := by simpa [cells30] using hfs 1 _ rfl
    have h2 : Trd enc W m 3 [c2] y2 := by simpa [cells3] using hfs 2 _ rfl
    have h3 : Trd enc W m 2 [c3] y3 := by simpa [cells2] using hfs 3 _ rfl
    have h4 : Trd enc W m 49 [c4, c5, c6, c7] y4 := by simpa [cells25] using hfs 4 _ rfl
    obtain ⟨nm, rfl, k0⟩ := view_str h0 (fun v hv => hw v (by rw [hx]; simp [DataW.weights, Tryd.underlying51, DataW.weightsEach]; left; exact hv))
    obtain ⟨u, rfl, k1⟩ := view_u8 Tryd.underlying38 h1
    obtain ⟨k, rfl, k2⟩ := view_i64 Tryd.underlying3 h2
    obtain ⟨k', rfl, k3⟩ := view_i64 Tryd.underlying2 h3
    obtain ⟨x, s, e, hs⟩ := viewT m m _ y4.1 y4.2 (Nat.le_refl _) h4 (fun v hv => hw v (by rw [hx]; simp [DataW.weights, Tryd.underlying51, DataW.weightsEach]; right; right; right; right; exact hv))
    simp only [List.cons.injEq, and_true] at e
    obtain ⟨rfl, rfl, rfl, rfl⟩ := e
    exact ⟨⟨nm, u, k, k', x⟩, _, rfl, ⟨k0, k1, k2, k3⟩, hs⟩
/-- A slice that came in: where its elements lie, and that each can be opened. -/
theorem view_row {H : Type} {enc : TypeId × Value → H} {W : World} {n : Nat} {t e : TypeId} {c : Value} {y : DataW H × List MemPlace} (hu : Tryd.prog.underlying t = some (.slice e)) (h : Trd enc W n t [c] y) (hw : ∀ v ∈ y.1.weights Tryd.prog t, v ≤ reachBytes) (hc0 : 0 < Tryd.prog.cellsOf e) :
    ∃ (ao : Option Addr) (len cap : Nat), c = .slice ao len cap ∧ len ≤ cap ∧ len * Tryd.prog.bytesOf e ≤ reachBytes ∧ (len = 0 ∨ ∃ b o, ao = some ⟨b, o, none⟩ ∧ ∀ i, i < len → ∃ l d m, (W.cells? 0 ⟨b, o + i * Tryd.prog.cellsOf e, none⟩ (Tryd.prog.cellsOf e)) = some l ∧ Trd enc W m e l d ∧ ∀ v ∈ d.1.weights Tryd.prog e, v ≤ reachBytes) := by
  rcases DataW.trod_slice hu h with ⟨hc, _⟩ | ⟨a, len, cap, elems, rest, n', hn', hc, hy3, hb, hlc, hcm, hel, helem, hsp, _⟩
  · simp only [List.cons.injEq, and_true] at hc
    exact ⟨none, 0, 0, hc, Nat.le_refl _, by simp [reachBytes], .inl rfl⟩
  · simp only [List.cons.injEq, and_true] at hc
    subst hc
    have hwl : (len + rest.length) * Tryd.prog.bytesOf e ≤ reachBytes := by
      have := hw ((elems.map (·.1)).length + (rest.map (·.1)).length |> (· * Tryd.prog.bytesOf e)) (by rw [hy3]; simp [DataW.weights, hu])
      simpa [hel] using this
    refine ⟨some a, len, cap, rfl, hlc, Nat.le_trans (Nat.mul_le_mul_right _ (by omega)) hwl, ?_⟩
    by_cases h00 : len = 0
    · exact .inl h00
    · right
      have each : ∀ i, i < len → ∃ l d m, (W.cells? 0 (a.add (i * Tryd.prog.cellsOf e)) (Tryd.prog.cellsOf e)) = some l ∧ Trd enc W m e l d ∧ ∀ v ∈ d.1.weights Tryd.prog e, v ≤ reachBytes := fun i hi => by
        have he := helem i hi
        rw [List.getElem?_eq_getElem (by omega)] at he
        obtain ⟨l, hl1, hl2⟩ := Option.bind_eq_some_iff.1 he
        refine ⟨l, _, n', hl1, hl2, fun v hv => hw v ?_⟩
        rw [hy3]
        simp only [DataW.weights, hu]
        refine List.mem_cons_of_mem _ (List.mem_append_left _ (all_mem (i := i) (d := (elems[i]'(by omega)).1) ?_ v hv))
        rw [List.getElem?_map, List.getElem?_eq_getElem (by omega)]
        rfl
      obtain ⟨b, o, sp⟩ := a
      have hspt : sp = none := by
        obtain ⟨l, d, m, hl, _⟩ := each 0 (by omega)
        unfold World.cells? at hl
        rw [if_pos (Nat.zero_le _)] at hl
        obtain ⟨v, _, hf⟩ := Lib.mapM_at hl 0 0 (by simp [hc0])
        simpa [Addr.add] using World.cell?_spot hf
      subst hspt
      exact ⟨b, o, rfl, fun i hi => by have := each i hi; rw [add_off] at this; exact this⟩
theorem cells_at {w : World} {b o c : Nat} {l : List Value} (h : w.cells? 0 ⟨b, o, none⟩ c = some l) : l.length = c ∧ ∀ j, j < c → w.cell? ⟨b, o + j, none⟩ = l[j]? := by
  unfold World.cells? at h
  rw [if_pos (Nat.zero_le _)] at h
  refine ⟨by have := Lib.mapM_length h; simpa using this, fun j hj => ?_⟩
  obtain ⟨v, hb, hf⟩ := Lib.mapM_at h j j (by simp [hj])
  rw [add_off] at hf
  rw [hf, hb]
theorem viewIns {H : Type} {enc : TypeId × Value → H} {W : World} {n : Nat} {c : Value} {y : DataW H × List MemPlace} (h : Trd enc W n 22 [c] y) (hw : ∀ v ∈ y.1.weights Tryd.prog 22, v ≤ reachBytes) : ∃ l, InsAt W l c := by
  obtain ⟨ao, len, cap, rfl, hlc, hby, hr⟩ := view_row Tryd.underlying22 h hw (by rw [cells44]; omega)
  rw [bytes44] at hby
  rw [cells44] at hr
  have each : ∀ i, ∃ x : Hd, i < len → x.ok ∧ ∃ b o, ao = some ⟨b, o, none⟩ ∧ HdCells W b (o + i * 3) x := fun i => by
    by_cases hi : i < len
    · obtain ⟨b, o, rfl, hc⟩ := hr.resolve_left (by omega)
      obtain ⟨l, d, m, hl, ht, hwt⟩ := hc i hi
      obtain ⟨x, rfl, hx⟩ := viewHd ht hwt
      obtain ⟨_, hcell⟩ := cells_at hl
      exact ⟨x, fun _ => ⟨hx, b, o, rfl, hcell 0 (by omega), hcell 1 (by omega), hcell 2 (by omega)⟩⟩
    · exact ⟨⟨ByteArray.empty, 0, 0⟩, fun h => absurd h hi⟩
  obtain ⟨f, hf⟩ := Classical.axiomOfChoice each
  refine ⟨(List.range len).map f, ao, cap, by simp, ?_, by simpa using hlc, fun x hx => ?_, ?_⟩
  · unfold reachBytes at hby
    simp
    omega
  · obtain ⟨i, hi, rfl⟩ := List.mem_map.1 hx
    exact (hf i (by simpa using hi)).1
  · by_cases h0 : len = 0
    · exact .inl (by simp [h0])
    · right
      obtain ⟨_, b, o, e, _⟩ := hf 0 (by omega)
      refine ⟨b, o, e, fun i hi => ?_⟩
      obtain ⟨_, b', o', e', hc⟩ := hf i (by simpa using hi)
      rw [e] at e'
      injection e' with e'
      injection e' with e1 e2 _
      subst e1 e2
      simpa using hc
theorem viewTexts {H : Type} {enc : TypeId × Value → H} {W : World} {n : Nat} {c : Value} {y : DataW H × List MemPlace} (h : Trd enc W n 24 [c] y) (hw : ∀ v ∈ y.1.weights Tryd.prog 24, v ≤ reachBytes) : ∃ l, TextsAt W l c := by
  obtain ⟨ao, len, cap, rfl, hlc, hby, hr⟩ := view_row Tryd.underlying24 h hw (by rw [cells9]; omega)
  rw [bytes9] at hby
  rw [cells9] at hr
  have each : ∀ i, ∃ x : ByteArray, i < len → x.size ≤ 140737488355328 ∧ ∃ b o, ao = some ⟨b, o, none⟩ ∧ W.cell? ⟨b, o + i, none⟩ = some (.string x) := fun i => by
    by_cases hi : i < len
    · obtain ⟨b, o, rfl, hc⟩ := hr.resolve_left (by omega)
      obtain ⟨l, d, m, hl, ht, hwt⟩ := hc i hi
      obtain ⟨hll, hcell⟩ := cells_at hl
      obtain ⟨c0, rfl⟩ := List.length_eq_one_iff.1 hll
      obtain ⟨x, rfl, hx⟩ := view_str ht hwt
      exact ⟨x, fun _ => ⟨hx, b, o, rfl, by simpa using hcell 0 (by omega)⟩⟩
    · exact ⟨ByteArray.empty, fun h => absurd h hi⟩
  obtain ⟨f, hf⟩ := Classical.axiomOfChoice each
  refine ⟨(List.range len).map f, ao, cap, by simp, ?_, by simpa using hlc, fun x hx => ?_, ?_⟩
  · unfold reachBytes at hby
    simp
    omega
  · obtain ⟨i, hi, rfl⟩ := List.mem_map.1 hx
    exact (hf i (by simpa using hi)).1
  · by_cases h0 : len = 0
    · exact .inl (by simp [h0])
    · right
      obtain ⟨_, b, o, e, _⟩ := hf 0 (by omega)
      refine ⟨b, o, e, fun i hi => ?_⟩
      obtain ⟨_, b', o', e', hc⟩ := hf i (by simpa using hi)
      rw [e] at e'
      injection e' with e'
      injection e' with e1 e2 _
      subst e1 e2
      simpa using hc
theorem viewFlows {H : Type} {enc : TypeId × Value → H} {W : World} {n : Nat} {c : Value} {y : DataW H × List MemPlace} (h : Trd enc W n 23 [c] y) (hw : ∀ v ∈ y.1.weights Tryd.prog 23, v ≤ reachBytes) : ∃ l, FlowsAt W l c := by
  obtain ⟨ao, len, cap, rfl, hlc, hby, hr⟩ := view_row Tryd.underlying23 h hw (by rw [cells50]; omega)
  rw [bytes50] at hby
  rw [cells50] at hr
  have each : ∀ i, ∃ x : Fl × Value, i < len → x.1.ok ∧ St W x.1.body x.2 ∧ ∃ b o, ao = some ⟨b, o, none⟩ ∧ FlCells W b (o + i * 8) x.1 x.2 := fun i => by
    by_cases hi : i < len
    · obtain ⟨b, o, rfl, hc⟩ := hr.resolve_left (by omega)
      obtain ⟨l, d, m, hl, ht, hwt⟩ := hc i hi
      obtain ⟨x, s, rfl, hx, hs⟩ := viewFl ht hwt
      obtain ⟨_, hcell⟩ := cells_at hl
      exact ⟨(x, s), fun _ => ⟨hx, hs, b, o, rfl, hcell 0 (by omega), hcell 1 (by omega), hcell 2 (by omega), hcell 3 (by omega), hcell 4 (by omega), hcell 5 (by omega), hcell 6 (by omega), hcell 7 (by omega)⟩⟩
    · exact ⟨(⟨ByteArray.empty, 0, 0, 0, ⟨0, 0, ByteArray.empty, []⟩⟩, .slice none 0 0), fun h => absurd h hi⟩
  obtain ⟨f, hf⟩ := Classical.axiomOfChoice each
  refine ⟨(List.range len).map fun i => (f i).1, ao, cap, fun i => (f i).2, by simp, ?_, by simpa using hlc, fun x hx => ?_, ?_, fun i hi => ?_⟩
  · unfold reachBytes at hby
    simp
    omega
  · obtain ⟨i, hi, rfl⟩ := List.mem_map.1 hx
    exact (hf i (by simpa using hi)).1
  · by_cases h0 : len = 0
    · exact .inl (by simp [h0])
    · right
      obtain ⟨_, _, b, o, e, _⟩ := hf 0 (by omega)
      refine ⟨b, o, e, fun i hi => ?_⟩
      obtain ⟨_, _, b', o', e', hc⟩ := hf i (by simpa using hi)
      rw [e] at e'
      injection e' with e'
      injection e' with e1 e2 _
      subst e1 e2
      simpa using hc
  · have := (hf i (by simpa using hi)).2.1
    simpa using this
set_option maxRecDepth 100000 in
/-- An api.Prog that came in, opened once. -/
theorem viewP {H : Type} {enc : TypeId × Value → H} {W : World} {r : Reach} {b0 : Nat} {v : Value} {d : DataW H} {p : List MemPlace} {ts : List TypeId} {ds : List (DataW H)} {j : Nat}
    (hv : Value.okWide Tryd.prog W r b0 26 v) (h : DataW.Trod enc Tryd.prog W 0 (fun _ => true) true 26 v d p)
    (hsz : (DataW.weightsEach Tryd.prog ts ds).all (· ≤ reachBytes) = true) (ht : ts[j]? = some 26) (hj : ds[j]? = some d) : ∃ (x : Pg) (a b c : Value), v = pgV x a b c ∧ PgAt W x a b c := by
  obtain ⟨cs, rfl, hz⟩ := okWide_struct Tryd.underlying26 hv
  obtain ⟨c0, c1, c2, c3, rfl⟩ := array4 (by rw [hz]; exact cells26)
  obtain ⟨fuel, hf⟩ := h
  have hw : ∀ v ∈ d.weights Tryd.prog 26, v ≤ reachBytes := fun v hv => by
    have := List.all_eq_true.1 hsz _ (DataW.weights_mem_each ht hj v hv)
    simpa using this
  obtain ⟨xs, m, hn, hx, hl, hlen, hfs⟩ := DataW.trod_struct Tryd.underlying26 hf
  match xs, hlen with
  | [y0, y1, y2, y3], _ =>
    have h0 : Trd enc W m 3 [c0] y0 := by simpa [cells3, Value.cells] using hfs 0 _ rfl
    have h1 : Trd enc W m 22 [c1] y1 := by simpa [cellsS22, Value.cells] using hfs 1 _ rfl
    have h2 : Trd enc W m 23 [c2] y2 := by simpa [cellsS23, Value.cells] using hfs 2 _ rfl
    have h3 : Trd enc W m 24 [c3] y3 := by simpa [cellsS24, Value.cells] using hfs 3 _ rfl
    simp only [Prod.mk.injEq] at hx
    obtain ⟨rfl, _⟩ := hx
    obtain ⟨k, rfl, k0⟩ := view_i64 Tryd.underlying3 h0
    obtain ⟨li, hi⟩ := viewIns h1 (fun v hv => hw v (by simp [DataW.weights, Tryd.underlying26, DataW.weightsEach]; right; left; exact hv))
    obtain ⟨lf, hfl⟩ := viewFlows h2 (fun v hv => hw v (by simp [DataW.weights, Tryd.underlying26, DataW.weightsEach]; right; right; left; exact hv))
    obtain ⟨lo, ho⟩ := viewTexts h3 (fun v hv => hw v (by simp [DataW.weights, Tryd.underlying26, DataW.weightsEach]; right; right; right; exact hv))
    exact ⟨⟨k, li, lf, lo⟩, c1, c2, c3, rfl, k0, hi, hfl, ho⟩
end Go.Proofs.YtgkbbdenmgienaaDoor.Lex
namespace Go.Proofs.YtgkbbdenmgienaaDoor.Lex
open Go.ChangeShapes Go.WideShapes Go.ChangeAt Go.RowKit Go.Joins
theorem ownGo : ownKnob Tryd.prog.godebug = none := by kernel_rfl
theorem gRes : Tryd.prog.globalNamed "belfry/tokens.reserved" = some 0 := by kernel_rfl
theorem tRes : (Tryd.prog.globals[0]?).map (·.type) = some 134 := by kernel_rfl
theorem gJoin : Tryd.prog.globalNamed "belfry/exprs.joins" = some 1 := by kernel_rfl
theorem tJoin : (Tryd.prog.globals[1]?).map (·.type) = some 142 := by kernel_rfl
theorem cells129 : Tryd.prog.cellsOf 134 = 17 := by kernel_rfl
theorem cells96 : Tryd.prog.cellsOf 142 = 72 := by kernel_rfl
theorem cells83 : Tryd.prog.cellsOf 139 = 6 := by kernel_rfl
/-- An array of strings that reads as a table holds the table's strings, cell for cell. -/
theorem cells_of_strs {H : Type} {enc : TypeId × Value → H} {P : Program} {w : World} {base : Nat} {sp : Nat → Bool} {held : Bool} {fuel : Nat} {t e : TypeId} {n : Nat} {cs : List Value} {zs : List (List UInt8)} {p : List MemPlace}
    (ht : P.underlying t = some (.array n e)) (he : P.underlying e = some .string) (hce : P.cellsOf e = 1) (hct : P.cellsOf t = n)
    (h : DataW.trod enc P w base sp held fuel t cs = some (.agg (zs.map fun z => .lit (.string z)), p)) : cs = zs.map fun z => Value.string ⟨z.toArray⟩ := by
  cases fuel with
  | zero => simp [DataW.trod] at h
  | succ fuel =>
    simp only [DataW.trod, ht, hce, hct, Nat.mul_one] at h
    split at h
    · rename_i hl
      obtain ⟨xs, hm, hx⟩ := Option.map_eq_some_iff.1 h
      have hxs : xs.map (·.1) = zs.map fun z => (DataW.lit (.string z) : DataW H) := by
        have := congrArg Prod.fst hx
        simpa using this
      have hxl : xs.length = n := by simpa using Lib.mapM_length hm
      have hzl : zs.length = n := by
        have := congrArg List.length hxs
        simp at this
        omega
      apply List.ext_getElem?
      intro i
      by_cases hi : i < n
      · obtain ⟨b, hb, hf⟩ := Lib.mapM_at hm i i (by simp [hi])
        obtain ⟨z, hc, rfl, _⟩ := DataW.trod_string he hf
        have h1 : cs[i]? = some (.string z) := by
          have := congrArg (·[0]?) hc
          simpa [List.getElem?_take, List.getElem?_drop] using this
        have h2 : (xs.map (·.1))[i]? = some (DataW.lit (.string z.data.toList) : DataW H) := by simp [hb]
        rw [hxs] at h2
        simp only [List.getElem?_map, Option.map_eq_some_iff, DataW.lit.injEq, Lit.string.injEq] at h2
        obtain ⟨z', hz', rfl⟩ := h2
        simp [h1, hz']
      · rw [List.getElem?_eq_none (by omega), List.getElem?_eq_none (by simp; omega)]
    · cases h
def resB : List (List UInt8) := [[115, 116, 97, 116, 105, 111, 110, 115], [105, 110], [97, 116], [102, 108, 111, 119], [100, 101, 102, 97, 117, 108, 116], [111, 117, 116], [105, 102], [116, 104, 101, 110], [101, 108, 115, 101], [112, 114, 101], [97, 110, 100], [111, 114], [110, 111, 116], [116, 114, 117, 101], [102, 97, 108, 115, 101], [105, 110, 116], [98, 111, 111, 108]]
/-- A row of the table of operators, as a datum. -/
def jD {H : Type} (r : J) : DataW H := .agg [.lit (.int .u8 (r.op : Int)), .agg [.lit (.int .u8 (r.kind : Int)), .lit (.string r.text.data.toList)], .lit (.int .i64 (r.rank : Int)), .lit (.int .i64 (r.first : Int)), .lit (.int .i64 (r.second : Int))]
theorem list6 {l : List Value} (h : l.length = 6) : ∃ a b c d e f, l = [a, b, c, d, e, f] := by match l, h with | [a, b, c, d, e, f], _ => exact ⟨a, b, c, d, e, f, rfl⟩
theorem lit_int {H : Type} {enc : TypeId × Value → H} {w : World} {base : Nat} {sp : Nat → Bool} {held : Bool} {fuel : Nat} {t : TypeId} {k : IntKind} {c : Value} {z : Int} {q : List MemPlace} (ht : Tryd.prog.underlying t = some (.int k)) (h : DataW.trod enc Tryd.prog w base sp held fuel t [c] = some (.lit (.int k z), q)) : c = .int k z := by
  obtain ⟨n, e, hx, _⟩ := DataW.trod_int ht h
  simp only [Prod.mk.injEq, DataW.lit.injEq, Lit.int.injEq, true_and] at hx
  simp only [List.cons.injEq, and_true] at e
  rw [e, hx.1]
theorem lit_str {H : Type} {enc : TypeId × Value → H} {w : World} {base : Nat} {sp : Nat → Bool} {held : Bool} {fuel : Nat} {c : Value} {z : List UInt8} {q : List MemPlace} (h : DataW.trod enc Tryd.prog w base sp held fuel 9 [c] = some (.lit (.string z), q)) : c = .string ⟨z.toArray⟩ := by
  obtain ⟨s, e, hx, _⟩ := DataW.trod_string Tryd.underlying9 h
  simp only [Prod.mk.injEq, DataW.lit.injEq, Lit.string.injEq] at hx
  simp only [List.cons.injEq, and_true] at e
  rw [e, hx.1]
set_option maxRecDepth 100000 in
/-- The cells of a row. -/
theorem row_cells {H : Type} {enc : TypeId × Value → H} {w : World} {base : Nat} {sp : Nat → Bool} {held : Bool} {fuel : Nat} {cs : List Value} {q : List MemPlace} (r : J) (h : DataW.trod enc Tryd.prog w base sp held fuel 139 cs = some (jD r, q)) : cs = (jrow r).toList := by
  obtain ⟨xs, n, _, hx, hl, hlen, hfs⟩ := DataW.trod_struct Tryd.underlying139 h
  rw [cells83] at hl
  obtain ⟨c0, c1, c2, c3, c4, c5, rfl⟩ := list6 hl
  match xs, hlen with
  | [y0, y1, y2, y3, y4], _ =>
    have h0 : DataW.trod enc Tryd.prog w base sp held n 46 [c0] = some y0 := by simpa [cells22] using hfs 0 _ rfl
    have h1 : DataW.trod enc Tryd.prog w base sp held n 137 [c1, c2] = some y1 := by simpa [cells81] using hfs 1 _ rfl
    have h2 : DataW.trod enc Tryd.prog w base sp held n 3 [c3] = some y2 := by simpa [cells3] using hfs 2 _ rfl
    have h3 : DataW.trod enc Tryd.prog w base sp held n 3 [c4] = some y3 := by simpa [cells3] using hfs 3 _ rfl
    have h4 : DataW.trod enc Tryd.prog w base sp held n 3 [c5] = some y4 := by simpa [cells3] using hfs 4 _ rfl
    simp only [jD, Prod.mk.injEq, List.map_cons, List.map_nil, DataW.agg.injEq, List.cons.injEq, and_true] at hx
    obtain ⟨⟨g0, g1, g2, g3, g4⟩, _⟩ := hx
    obtain ⟨z0, z1, m, hy, _, k0, k1⟩ := trod_struct2 Tryd.underlying137 h1
    have k0' : DataW.trod enc Tryd.prog w base sp held m 5 [c1] = some z0 := by simpa [cells5] using k0
    have k1' : DataW.trod enc Tryd.prog w base sp held m 9 [c2] = some z1 := by simpa [cells9] using k1
    rw [hy] at g1
    simp only [DataW.agg.injEq, List.cons.injEq, and_true] at g1
    have f0 : c0 = .int .u8 (r.op : Int) := lit_int Tryd.underlying46 (by rw [g0]; exact h0)
    have f1 : c1 = .int .u8 (r.kind : Int) := lit_int Tryd.underlying5 (by rw [g1.1]; exact k0')
    have f2 : c2 = .string ⟨r.text.data.toList.toArray⟩ := lit_str (by rw [g1.2]; exact k1')
    have f3 : c3 = .int .i64 (r.rank : Int) := lit_int Tryd.underlying3 (by rw [g2]; exact h2)
    have f4 : c4 = .int .i64 (r.first : Int) := lit_int Tryd.underlying3 (by rw [g3]; exact h3)
    have f5 : c5 = .int .i64 (r.second : Int) := lit_int Tryd.underlying3 (by rw [g4]; exact h4)
    rw [f0, f1, f2, f3, f4, f5]
    simp [jrow]
theorem chunk {α : Type} (m : Nat) : ∀ (n : Nat) (cs : List α), cs.length = n * m → (List.range n).flatMap (fun i => (cs.drop (i * m)).take m) = cs
  | 0, cs, h => by
    have : cs = [] := List.eq_nil_of_length_eq_zero (by omega)
    subst this
    rfl
  | n + 1, cs, h => by
    have hnm : (n + 1) * m = n * m + m := Nat.succ_mul n m
    have ih := chunk m n (cs.take (n * m)) (by rw [List.length_take]; omega)
    rw [List.range_succ, List.flatMap_append]
    have e : (List.range n).flatMap (fun i => (cs.drop (i * m)).take m) = (List.range n).flatMap (fun i => ((cs.take (n * m)).drop (i * m)).take m) := by
      have hh : ∀ (l : List Nat), (∀ i ∈ l, i < n) → l.flatMap (fun i => (cs.drop (i * m)).take m) = l.flatMap (fun i => ((cs.take (n * m)).drop (i * m)).take m) := by
        intro l
        induction l with
        | nil => intro _; rfl
        | cons i l ihl =>
          intro hl
          have hi := hl i (List.mem_cons_self ..)
          have him : i * m + m ≤ n * m := by rw [← Nat.succ_mul]; exact Nat.mul_le_mul_right m hi
          rw [List.flatMap_cons, List.flatMap_cons, ihl fun j hj => hl j (List.mem_cons_of_mem _ hj), List.drop_take, List.take_take, Nat.min_eq_left (by omega)]
      exact hh _ fun i hi => List.mem_range.1 hi
    rw [e, ih]
    simp only [List.flatMap_cons, List.flatMap_nil, List.append_nil]
    have hd : (cs.drop (n * m)).take m = cs.drop (n * m) := List.take_of_length_le (by rw [List.length_drop]; omega)
    rw [hd, List.take_append_drop]
set_option maxRecDepth 100000 in
/-- The table's cells. -/
theorem join_cells {H : Type} {enc : TypeId × Value → H} {w : World} {base : Nat} {sp : Nat → Bool} {held : Bool} {fuel : Nat} {cs : List Value} {q : List MemPlace} (h : DataW.trod enc Tryd.prog w base sp held fuel 142 cs = some (.agg (JT.map jD), q)) : cs = joinV.toList := by
  cases fuel with
  | zero => simp [DataW.trod] at h
  | succ fuel =>
    simp only [DataW.trod, Tryd.underlying142, cells83, cells96] at h
    split at h
    · rename_i hl
      obtain ⟨xs, hm, hx⟩ := Option.map_eq_some_iff.1 h
      have hxs : xs.map (·.1) = JT.map jD := by
        have := congrArg Prod.fst hx
        simpa using this
      have hxl : xs.length = 12 := by simpa using Lib.mapM_length hm
      rw [← chunk 6 12 cs (by omega)]
      have hh : ∀ i, i < 12 → (cs.drop (i * 6)).take 6 = (jrow (jR i)).toList := fun i hi => by
        obtain ⟨b, hb, hf⟩ := Lib.mapM_at hm i i (by simp [hi])
        have h1 : (xs.map (·.1))[i]? = some b.1 := by simp [hb]
        rw [hxs, List.getElem?_map] at h1
        have h2 : JT[i]? = some (jR i) := by
          unfold jR
          have : i < JT.length := hi
          rw [List.getD_eq_getElem?_getD, List.getElem?_eq_getElem this]
          rfl
        rw [h2] at h1
        simp only [Option.map_some, Option.some.injEq] at h1
        exact row_cells (jR i) (q := b.2) (by rw [hf, h1])
      have e : (List.range 12).flatMap (fun i => (cs.drop (i * 6)).take 6) = (List.range 12).flatMap (fun i => (jrow (jR i)).toList) := by
        have hh2 : ∀ (l : List Nat), (∀ i ∈ l, i < 12) → l.flatMap (fun i => (cs.drop (i * 6)).take 6) = l.flatMap (fun i => (jrow (jR i)).toList) := by
          intro l
          induction l with
          | nil => intro _; rfl
          | cons i l ihl => intro hl; rw [List.flatMap_cons, List.flatMap_cons, ihl fun j hj => hl j (List.mem_cons_of_mem _ hj), hh i (hl i (List.mem_cons_self ..))]
        exact hh2 _ fun i hi => List.mem_range.1 hi
      rw [e]
      rfl
    · cases h
theorem var_res {w : World} {x : Array Value} (h : w.var? Tryd.prog "belfry/tokens.reserved" = some x) : ∃ t fz, w.heap[0]? = some (.cells x t fz) := by
  unfold World.var? at h
  rw [gRes] at h
  simp only [Option.bind_some] at h
  split at h
  · next cs t fz he => injection h with h; subst h; exact ⟨_, _, he⟩
  · cases h
theorem var_join {w : World} {x : Array Value} (h : w.var? Tryd.prog "belfry/exprs.joins" = some x) : ∃ t fz, w.heap[1]? = some (.cells x t fz) := by
  unfold World.var? at h
  rw [gJoin] at h
  simp only [Option.bind_some] at h
  split at h
  · next cs t fz he => injection h with h; subst h; exact ⟨_, _, he⟩
  · cases h
theorem res_of {W : World} {rest : List (String × DataW Unit)} (h : laidMet Tryd.prog (("belfry/tokens.reserved", Rows.laid_belfry_tokens_reserved) :: rest) W) : TabR W := by
  obtain ⟨ps, ⟨g0, t0, cs0, f0, p0, q0, hg0, ht0, hv0, hd0, _, _⟩, _⟩ := h
  obtain rfl := Option.some.inj (gRes.symm.trans hg0)
  obtain rfl := Option.some.inj (tRes.symm.trans ht0)
  have hd : DataW.trod _ Tryd.prog W 0 _ _ f0 134 cs0.toList = some (.agg (resB.map fun z => .lit (.string z)), p0) := hd0
  have hcs := cells_of_strs Tryd.underlying134 Tryd.underlying9 cells9 cells129 hd
  obtain ⟨t, fz, hb⟩ := var_res hv0
  refine ⟨t, fz, ?_⟩
  rw [hb]
  obtain ⟨l⟩ := cs0
  simp only at hcs
  subst hcs
  rfl
theorem join_of {W : World} {rest : List (String × DataW Unit)} (h : laidMet Tryd.prog (("belfry/exprs.joins", Rows.laid_belfry_exprs_joins) :: rest) W) : TabJ W := by
  obtain ⟨ps, ⟨g0, t0, cs0, f0, p0, q0, hg0, ht0, hv0, hd0, _, _⟩, _⟩ := h
  obtain rfl := Option.some.inj (gJoin.symm.trans hg0)
  obtain rfl := Option.some.inj (tJoin.symm.trans ht0)
  have hd : DataW.trod _ Tryd.prog W 0 _ _ f0 142 cs0.toList = some (.agg (JT.map jD), p0) := hd0
  have hcs := join_cells hd
  obtain ⟨t, fz, hb⟩ := var_join hv0
  refine ⟨t, fz, ?_⟩
  rw [hb]
  obtain ⟨l⟩ := cs0
  simp only at hcs
  subst hcs
  rfl
/-- What the package-level variables hold when a call begins. -/
def laidL : List (String × DataW Unit) := [("belfry/tokens.reserved", Rows.laid_belfry_tokens_reserved), ("belfry/exprs.joins", Rows.laid_belfry_exprs_joins)]
theorem door_met (os : Os) (args : Array Value) : laidMetH Tryd.prog laidL ((World.doorLaid Tryd.prog 43 os).forCall (fun _ _ => 0) ⟨#[], args, []⟩).memory :=
  laidMetH_of_parts3 (fuel := 8) (laidMet_of_run' 8 (by kernel_rfl) (by kernel_rfl)) (by kernel_rfl) (by kernel_rfl)
theorem wid_of_laid {W : World} (h : laidMetH Tryd.prog laidL W) : TabR W ∧ TabJ W := by
  rw [MakeChecks.laidMetH_plain _ _ _ (by kernel_rfl)] at h
  exact ⟨res_of h, join_of h.tail⟩
end Go.Proofs.YtgkbbdenmgienaaDoor.Lex
