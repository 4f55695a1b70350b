/-
  What is worked out that came in, opened once.
-/
import Derived.Test.YtilpoiihoikhlaaEx
namespace Go.Proofs.Ytilpoiihoikhlaa.Lex
open Go.ChangeShapes Go.WideShapes Go.ChangeAt Go.RowKit Go.Joins
theorem cells25 : Try.prog.cellsOf 48 = 4 := by kernel_rfl
theorem cells22 : Try.prog.cellsOf 45 = 1 := by kernel_rfl
theorem cells2 : Try.prog.cellsOf 2 = 1 := by kernel_rfl
theorem cells9 : Try.prog.cellsOf 9 = 1 := by kernel_rfl
theorem cells23 : Try.prog.cellsOf 46 = 1 := by kernel_rfl
theorem bytes25 : Try.prog.bytesOf 48 = 56 := by kernel_rfl
theorem list4 {l : List Value} (h : l.length = 4) : ∃ a b c d, l = [a, b, c, d] := by match l, h with | [a, b, c, d], _ => exact ⟨a, b, c, d, rfl⟩
theorem all_mem {H : Type} {P : Program} {e : TypeId} : ∀ {l : List (DataW H)} {i : Nat} {d : DataW H}, l[i]? = some d → ∀ v ∈ d.weights P e, v ∈ DataW.weightsAll P e l
  | [], i, d, h => by simp at h
  | x :: l, 0, d, h => by simp at h; subst h; intro v hv; rw [DataW.weightsAll]; exact List.mem_append_left _ hv
  | x :: l, i + 1, d, h => by simp at h; intro v hv; rw [DataW.weightsAll]; exact List.mem_append_right _ (all_mem h v hv)
theorem add_off (b o n : Nat) : (⟨b, o, none⟩ : Addr).add n = ⟨b, o + n, none⟩ := by unfold Addr.add; split <;> simp_all
theorem cells4 {w : World} {a : Addr} {l : List Value} (h : w.cells? 0 a 4 = some l) : ∃ v0 v1 v2 v3, l = [v0, v1, v2, v3] ∧ w.cell? (a.add 0) = some v0 ∧ w.cell? (a.add 1) = some v1 ∧ w.cell? (a.add 2) = some v2 ∧ w.cell? (a.add 3) = some v3 := by
  unfold World.cells? at h
  rw [if_pos (Nat.zero_le _)] at h
  have hl : l.length = 4 := by have := Lib.mapM_length h; simpa using this
  obtain ⟨v0, v1, v2, v3, rfl⟩ := list4 hl
  have g : ∀ i, i < 4 → w.cell? (a.add i) = [v0, v1, v2, v3][i]? := fun i hi => by
    obtain ⟨b, hb, hf⟩ := Lib.mapM_at h i i (by simp [hi])
    rw [hf, hb]
  exact ⟨v0, v1, v2, v3, rfl, g 0 (by omega), g 1 (by omega), g 2 (by omega), g 3 (by omega)⟩
/-- What came in, as a tree. -/
theorem viewT {H : Type} {enc : TypeId × Value → H} {W : World} : ∀ (m fuel : Nat) (cs : List Value) (d : DataW H) (p : List MemPlace), fuel ≤ m → DataW.trod enc Try.prog W 0 (fun _ => true) true fuel 48 cs = some (d, p) → (∀ v ∈ d.weights Try.prog 48, v ≤ reachBytes) →
    ∃ (x : Ex) (s : Value), cs = [.int .u8 (x.op : Int), .int .i64 x.n, .string x.name, s] ∧ St W x s := by
  intro m
  induction m with
  | zero => intro fuel cs d p hm h; obtain rfl : fuel = 0 := by omega
            simp [DataW.trod] at h
  | succ m ih =>
    intro fuel cs d p hm h hw
    obtain ⟨xs, n, hn, hx, hl, hlen, hfs⟩ := DataW.trod_struct Try.underlying48 h
    rw [cells25] at hl
    obtain ⟨c0, c1, c2, c3, rfl⟩ := list4 hl
    match xs, hlen with
    | [y0, y1, y2, y3], _ =>
      have h0 : DataW.trod enc Try.prog W 0 (fun _ => true) true n 45 [c0] = some y0 := by simpa [cells22] using hfs 0 _ rfl
      have h1 : DataW.trod enc Try.prog W 0 (fun _ => true) true n 2 [c1] = some y1 := by simpa [cells2] using hfs 1 _ rfl
      have h2 : DataW.trod enc Try.prog W 0 (fun _ => true) true n 9 [c2] = some y2 := by simpa [cells9] using hfs 2 _ rfl
      have h3 : DataW.trod enc Try.prog W 0 (fun _ => true) true n 46 [c3] = some y3 := by simpa [cells23] using hfs 3 _ rfl
      obtain ⟨op, e0, _, w0⟩ := DataW.trod_int Try.underlying45 h0
      obtain ⟨k, e1, _, w1⟩ := DataW.trod_int Try.underlying2 h1
      obtain ⟨nm, e2, hy2, _⟩ := DataW.trod_string Try.underlying9 h2
      simp only [List.cons.injEq, and_true] at e0 e1 e2
      subst e0 e1 e2
      simp only [Prod.mk.injEq] at hx
      obtain ⟨rfl, _⟩ := hx
      have hw2 : ∀ v ∈ y2.1.weights Try.prog 9, v ≤ reachBytes := fun v hv => hw v (by simp [DataW.weights, Try.underlying48, DataW.weightsEach]; right; right; left; exact hv)
      have hw3 : ∀ v ∈ y3.1.weights Try.prog 46, v ≤ reachBytes := fun v hv => hw v (by simp [DataW.weights, Try.underlying48, DataW.weightsEach]; right; right; right; exact hv)
      have hnm : nm.size ≤ 140737488355328 := by
        have := hw2 nm.data.toList.length (by rw [hy2]; simp [DataW.weights])
        rw [← Lib.size_eq] at this
        unfold reachBytes at this
        omega
      have hop : 0 ≤ op ∧ op < 256 := by
        simp [Lit.wf, IntKind.min, IntKind.max, IntKind.signed, IntKind.bits] at w0
        omega
      have hk : -9223372036854775808 ≤ k ∧ k ≤ 9223372036854775807 := by
        simp [Lit.wf, IntKind.min, IntKind.max, IntKind.signed, IntKind.bits] at w1
        omega
      obtain ⟨u, rfl⟩ : ∃ u : Nat, op = (u : Int) := ⟨op.toNat, by omega⟩
      rcases DataW.trod_slice Try.underlying46 h3 with ⟨hc, _⟩ | ⟨a, len, cap, elems, rest, n', hn', hc, hy3, hb, hlc, hcm, hel, helem, hsp, _⟩
      · simp only [List.cons.injEq, and_true] at hc
        subst hc
        exact ⟨.mk u k nm [], .slice none 0 0, rfl, St.intro (.mk u k nm []) none 0 (fun _ => .slice none 0 0) (by show u < 256; omega) hk hnm (by show 0 ≤ _; omega) (Nat.le_refl _) (.inl rfl) (fun i hi => by cases hi)⟩
      · simp only [List.cons.injEq, and_true] at hc
        subst hc
        rw [cells25] at helem
        have hwl : (len + rest.length) * 56 ≤ reachBytes := by
          have := hw3 ((elems.map (·.1)).length + (rest.map (·.1)).length |> (· * 56)) (by rw [hy3]; simp [DataW.weights, Try.underlying46, bytes25])
          simpa [hel] using this
        have hlen2 : len ≤ 2513169434843 := by unfold reachBytes at hwl; omega
        have each : ∀ i, ∃ q : Ex × Value, i < len → (∃ v0 v1 v2 v3, W.cell? ((a.add (i * 4)).add 0) = some v0 ∧ W.cell? ((a.add (i * 4)).add 1) = some v1 ∧ W.cell? ((a.add (i * 4)).add 2) = some v2 ∧ W.cell? ((a.add (i * 4)).add 3) = some v3 ∧ [v0, v1, v2, v3] = [.int .u8 (q.1.op : Int), .int .i64 q.1.n, .string q.1.name, q.2]) ∧ St W q.1 q.2 := by
          intro i
          by_cases hi : i < len
          · have he := helem i hi
            rw [List.getElem?_eq_getElem (by omega)] at he
            obtain ⟨l, hl1, hl2⟩ := Option.bind_eq_some_iff.1 he
            obtain ⟨v0, v1, v2, v3, rfl, g0, g1, g2, g3⟩ := cells4 hl1
            obtain ⟨x, s, ex, hs⟩ := ih n' _ _ _ (by omega) (show DataW.trod enc Try.prog W 0 (fun _ => true) true n' 48 [v0, v1, v2, v3] = some ((elems[i]'(by omega)).1, (elems[i]'(by omega)).2) from hl2) (fun v hv => hw3 v (by
              rw [hy3]
              simp only [DataW.weights, Try.underlying46]
              refine List.mem_cons_of_mem _ (List.mem_append_left _ (all_mem (i := i) (d := (elems[i]'(by omega)).1) ?_ v hv))
              rw [List.getElem?_map, List.getElem?_eq_getElem (by omega)]
              rfl))
            exact ⟨(x, s), fun _ => ⟨⟨v0, v1, v2, v3, g0, g1, g2, g3, ex⟩, hs⟩⟩
          · exact ⟨(.mk 0 0 ByteArray.empty [], .slice none 0 0), fun h => absurd h hi⟩
        obtain ⟨f, hf⟩ := Classical.axiomOfChoice each
        have hargs : ((List.range len).map fun i => (f i).1).length = len := by simp
        have hget : ∀ i (hi : i < ((List.range len).map fun i => (f i).1).length), ((List.range len).map fun i => (f i).1)[i] = (f i).1 := fun i hi => by simp
        refine ⟨.mk u k nm ((List.range len).map fun i => (f i).1), .slice (some a) len cap, rfl, ?_⟩
        have key : St W (.mk u k nm ((List.range len).map fun i => (f i).1)) (.slice (some a) ((List.range len).map fun i => (f i).1).length cap) := by
          refine St.intro (.mk u k nm ((List.range len).map fun i => (f i).1)) (some a) cap (fun i => (f i).2) (by show u < 256; omega) hk hnm (by show ((List.range len).map fun i => (f i).1).length ≤ _; omega) (by show ((List.range len).map fun i => (f i).1).length ≤ _; omega) ?_ (fun i hi => ?_)
          · by_cases h00 : len = 0
            · exact .inl (by show ((List.range len).map fun i => (f i).1).length = 0; omega)
            · right
              obtain ⟨b, o, sp⟩ := a
              have hspt : sp = none := by
                obtain ⟨⟨v0, _, _, _, g0, _⟩, _⟩ := hf 0 (by omega)
                simpa [Addr.add] using World.cell?_spot g0
              subst hspt
              refine ⟨b, o, rfl, fun i hi => ?_⟩
              have hi' : i < len := by have : i < ((List.range len).map fun i => (f i).1).length := hi; omega
              obtain ⟨⟨v0, v1, v2, v3, g0, g1, g2, g3, ex⟩, _⟩ := hf i hi'
              simp only [List.cons.injEq, and_true] at ex
              obtain ⟨rfl, rfl, rfl, rfl⟩ := ex
              rw [add_off, add_off] at g0 g1 g2 g3
              have e : (Ex.mk u k nm ((List.range len).map fun i => (f i).1)).args[i] = (f i).1 := hget i hi
              rw [e]
              exact ⟨g0, g1, g2, g3⟩
          · have hi' : i < len := by have : i < ((List.range len).map fun i => (f i).1).length := hi; omega
            have e : (Ex.mk u k nm ((List.range len).map fun i => (f i).1)).args[i] = (f i).1 := hget i hi
            rw [e]
            exact (hf i hi').2
        rwa [hargs] at key
theorem array4 {c : Array Value} (h : c.size = 4) : ∃ a b d e, c = #[a, b, d, e] := by
  obtain ⟨l⟩ := c
  obtain ⟨a, b, d, e, rfl⟩ := list4 (by simpa using h)
  exact ⟨a, b, d, e, rfl⟩
set_option maxRecDepth 100000 in
/-- An api.Expr that came in, opened once. -/
theorem viewE {H : Type} {enc : TypeId × Value → H} {W : World} {r : Reach} {b0 : Nat} {v : Value} {d : DataW H} {p : List MemPlace} {ts : List TypeId} {ds : List (DataW H)} {j : Nat}
    (hv : Value.okWide Try.prog W r b0 48 v) (h : DataW.Trod enc Try.prog W 0 (fun _ => true) true 48 v d p)
    (hsz : (DataW.weightsEach Try.prog ts ds).all (· ≤ reachBytes) = true) (ht : ts[j]? = some 48) (hj : ds[j]? = some d) : ∃ (x : Ex) (s : Value), v = exV x s ∧ St W x s := by
  obtain ⟨cs, rfl, hz⟩ := okWide_struct Try.underlying48 hv
  obtain ⟨c0, c1, c2, c3, rfl⟩ := array4 (by rw [hz]; exact cells25)
  obtain ⟨fuel, hf⟩ := h
  obtain ⟨x, s, e, hs⟩ := viewT fuel fuel _ d p (Nat.le_refl _) hf (fun v hv => by
    have := List.all_eq_true.1 hsz _ (DataW.weights_mem_each ht hj v hv)
    simpa using this)
  have e' : [c0, c1, c2, c3] = [.int .u8 (x.op : Int), .int .i64 x.n, .string x.name, s] := by simpa [Value.cells] using e
  simp only [List.cons.injEq, and_true] at e'
  obtain ⟨rfl, rfl, rfl, rfl⟩ := e'
  exact ⟨x, _, rfl, hs⟩
end Go.Proofs.Ytilpoiihoikhlaa.Lex
