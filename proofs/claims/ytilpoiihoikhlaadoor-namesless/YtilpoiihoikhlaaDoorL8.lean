/-
  A program without its outs, with a flow twice, without a flow: what stands while that is made.
  Without its outs a program stays checked, and so on: the walk of the law.
-/
import Derived.Test.YtilpoiihoikhlaaDoorL7
import Derived.Deep.AppendLies
import Derived.Deep.RegionLaw
namespace Go.Proofs.YtilpoiihoikhlaaDoor.Lex
open Go.ChangeShapes Go.WideShapes Go.ChangeAt Go.RowKit Go.Shelf
theorem fz_row {W : World} {b : Nat} {c : Array Value} {t : TypeId} (h : W.heap[b]? = some (.cells c t (0, 0))) (k : Nat) : W.frozen? ⟨b, k, none⟩ = false := by
  unfold World.frozen?
  rw [h]
  simp
/-- The rows of flows, each with its body's row. -/
abbrev esF (ps : List (Fl × Value)) : List (List Value) := ps.map fun (q : Fl × Value) => flL q.1 q.2
theorem esF_each (ps : List (Fl × Value)) : ∀ e ∈ esF ps, e.length = 8 := fun e he => by
  obtain ⟨q, _, rfl⟩ := List.mem_map.1 he
  rfl
theorem own_flows {X : World} {lo : Nat} {v : Value} {ps : List (Fl × Value)} (hown : X.ownsRow lo 43 8 v ps.length (esF ps).flatten) (hlen : ps.length ≤ 1466015503658) (hok : ∀ q ∈ ps, q.1.ok) (hst : ∀ q ∈ ps, St X q.1.body q.2) : FlowsAt X (ps.map (·.1)) v := by
  have hx : ∀ k, k < ps.length * 8 → ∀ g cap, v = .slice (some ⟨g, 0, none⟩) ps.length cap → X.cell? ⟨g, k, none⟩ = (esF ps).flatten[k]? := fun k hk g cap e => by subst e; exact hown.cellAt k hk
  have hst' : ∀ i (h : i < (ps.map fun (q : Fl × Value) => q.1).length), St X (ps.map fun (q : Fl × Value) => q.1)[i].body ((ps[i]?.map (·.2)).getD (.slice none 0 0)) := fun i hi => by
    have hi' : i < ps.length := by simpa using hi
    rw [List.getElem?_eq_getElem hi']
    simpa using hst ps[i] (List.getElem_mem hi')
  have hok' : ∀ x ∈ ps.map (·.1), x.ok := fun x hx => by
    obtain ⟨q, hq, rfl⟩ := List.mem_map.1 hx
    exact hok q hq
  rcases hown.2 with ⟨h, h0⟩ | ⟨g, cap, cur, e, _, _, hcap, _⟩
  · exact ⟨none, 0, fun i => (ps[i]?.map (·.2)).getD (.slice none 0 0), by rw [h]; simp [h0], by simpa using hlen, by simp [h0], hok', .inl (by simpa using h0), hst'⟩
  · refine ⟨some ⟨g, 0, none⟩, cap, fun i => (ps[i]?.map (·.2)).getD (.slice none 0 0), by rw [e]; simp, by simpa using hlen, by simpa using hcap, hok', .inr ⟨g, 0, rfl, fun i hi => ?_⟩, hst'⟩
    have hi' : i < ps.length := by simpa using hi
    have he : (esF ps)[i]? = some (flL ps[i].1 ps[i].2) := by rw [List.getElem?_map, List.getElem?_eq_getElem hi']; rfl
    have c : ∀ j u, (flL ps[i].1 ps[i].2)[j]? = some u → X.cell? ⟨g, i * 8 + j, none⟩ = some u := fun j u hu => by
      have hj : j < 8 := (List.getElem?_eq_some_iff.1 hu).1
      rw [hx _ (by omega) g cap e]
      have := flat_at (rest := []) (esF_each ps) he hj
      rw [List.append_nil] at this
      rw [this]
      exact hu
    dsimp only
    rw [List.getElem?_eq_getElem hi']
    simp only [Nat.zero_add, List.getElem_map]
    exact ⟨c 0 _ rfl, c 1 _ rfl, c 2 _ rfl, c 3 _ rfl, c 4 _ rfl, c 5 _ rfl, c 6 _ rfl, c 7 _ rfl⟩
theorem TwFlows.own {w : World} {lo : Nat} {l : List Fl} {s : Value} (h : TwFlows w lo l s) : ∃ (ps : List (Fl × Value)) (fb cap : Nat), s = .slice (some ⟨fb, 0, none⟩) l.length cap ∧ ps.map (·.1) = l ∧ w.ownsRow lo 43 8 s l.length (esF ps).flatten ∧ ∀ q ∈ ps, Tw w (fb + 1) q.1.body q.2 := by
  obtain ⟨b, cap, sl, rfl, h1, h2, h3, h4, h5, h6, h7, cur, k1, k2, k3⟩ := h
  have hf : (List.ofFn fun (i : Fin l.length) => ((l[i], sl i) : Fl × Value)).map (·.1) = l := by
    apply List.ext_getElem
    · simp
    · intro i h1 h2; simp
  refine ⟨List.ofFn fun (i : Fin l.length) => (l[i], sl i), b, cap, rfl, hf, ⟨?_, .inr ⟨b, cap, cur, rfl, h1, k1, by omega, k3, k2, ?_⟩⟩, ?_⟩
  · rw [flat_len (esF_each _)]; simp
  · apply List.ext_getElem?
    intro k
    by_cases hk : k < l.length * 8
    · rw [List.getElem?_take_of_lt (by simpa using hk)]
      have hi : k / 8 < l.length := by omega
      have e : k = k / 8 * 8 + k % 8 := by omega
      have he : (esF (List.ofFn fun (i : Fin l.length) => ((l[i], sl i) : Fl × Value)))[k / 8]? = some (flL l[k / 8] (sl (k / 8))) := by
        rw [List.getElem?_map, List.getElem?_eq_getElem (by simpa using hi)]
        simp
      have f := flat_at (rest := []) (j := k % 8) (esF_each _) he (by omega)
      rw [List.append_nil] at f
      conv => rhs; rw [e]
      rw [f]
      have c : ∀ j, w.cell? ⟨b, k / 8 * 8 + j, none⟩ = cur[k / 8 * 8 + j]? := fun j => cell_of_row w b _ cur 43 (0, 0) k1
      obtain ⟨d0, d1, d2, d3, d4, d5, d6, d7⟩ := h5 (k / 8) hi
      have hj : k % 8 < 8 := by omega
      rw [Array.getElem?_toList]
      conv => lhs; rw [e]
      rw [← c]
      generalize k % 8 = j at hj ⊢
      match j, hj with
      | 0, _ => simpa using d0
      | 1, _ => simpa using d1
      | 2, _ => simpa using d2
      | 3, _ => simpa using d3
      | 4, _ => simpa using d4
      | 5, _ => simpa using d5
      | 6, _ => simpa using d6
      | 7, _ => simpa using d7
    · rw [List.getElem?_eq_none (by simp; omega), List.getElem?_eq_none (by rw [flat_len (esF_each _)]; simp; omega)]
  · intro q hq
    obtain ⟨i, rfl⟩ := List.mem_ofFn.1 hq
    exact h7 i i.2
/-- The twin whose outs and flows are exchanged. -/
structure QV (w9 : World) (st : Int) (a' b' c' : Value) (W : World) : Prop where
  below : Below w9.heap.size w9 W
  row : W.heap[w9.heap.size]? = some (.cells #[.int .i64 st, a', b', c'] 26 (0, 0))
theorem QV.new (w9 : World) (st : Int) (a' b' c' : Value) : QV w9 st a' b' c' (w9.alloc (.cells #[.int .i64 st, a', b', c'] 26)) := ⟨(Below.refl _ _).alloc (Nat.le_refl _) _, push_new _ _ _ rfl⟩
theorem QV.keep {w9 W W' : World} {st : Int} {a' b' c' : Value} (h : QV w9 st a' b' c' W) (hb : Below W.heap.size W W') : QV w9 st a' b' c' W' := ⟨h.below.trans (hb.mono h.below.size), keep_row h.row hb⟩
theorem QV.outs {w9 W : World} {st : Int} {a' b' c' : Value} (h : QV w9 st a' b' c' W) (u : Value) : QV w9 st a' b' u (W.setCell ⟨w9.heap.size, 3, none⟩ u) := ⟨h.below.setCell (p := ⟨w9.heap.size, 3, none⟩) (Nat.le_refl _) _, by rw [set_same h.row]; rfl⟩
theorem QV.flows {w9 W : World} {st : Int} {a' b' c' : Value} (h : QV w9 st a' b' c' W) (u : Value) : QV w9 st a' u c' (W.setCell ⟨w9.heap.size, 2, none⟩ u) := ⟨h.below.setCell (p := ⟨w9.heap.size, 2, none⟩) (Nat.le_refl _) _, by rw [set_same h.row]; rfl⟩
theorem texts_nil (W : World) : TextsAt W [] (.slice none 0 0) := ⟨none, 0, rfl, by decide, Nat.le_refl _, (fun x hx => by cases hx), .inl rfl⟩
theorem QV.pg {w9 W : World} {p : Pg} {lo : Nat} {a' b' c' u : Value} (h : QV w9 p.st a' b' u W) (hT : TwPg w9 lo p a' b' c') : PgAt W { p with outs := [] } a' b' (.slice none 0 0) :=
  ⟨hT.st, (hT.keep h.below).at.ins, (hT.keep h.below).at.flows, texts_nil W⟩
theorem QV.pg2 {w9 W : World} {p : Pg} {lo : Nat} {a' b' c' : Value} {l : List Fl} {v : Value} (h : Below w9.heap.size w9 W) (hT : TwPg w9 lo p a' b' c') (hF : FlowsAt W l v) : PgAt W { p with flows := l, outs := [] } a' v (.slice none 0 0) :=
  ⟨hT.st, (hT.keep h).at.ins, hF, texts_nil W⟩
/-- The twin with one more flow. -/
structure TV (lo : Nat) (p : Pg) (y : Fl) (s a2 v2 c2 : Value) (kt : Nat) (W : World) : Prop where
  row : W.heap[kt]? = some (.cells #[.int .i64 p.st, a2, v2, c2] 26 (0, 0))
  hi : lo ≤ kt
  st : -9223372036854775808 ≤ p.st ∧ p.st ≤ 9223372036854775807
  ins : TwIns W lo p.ins a2
  outs : TwTexts W lo p.outs c2
  flows : ∃ ps : List (Fl × Value), ps.map (·.1) = p.flows ∧ W.ownsRow lo 43 8 v2 (ps ++ [(y, s)]).length (esF (ps ++ [(y, s)])).flatten ∧ ∀ q ∈ ps, Tw W lo q.1.body q.2
theorem own_carry {w W : World} {lo t c n : Nat} {v : Value} {xs : List Value} (h : w.ownsRow lo t c v n xs) (hb : ∀ b, lo ≤ b → b < w.heap.size → W.heap[b]? = w.heap[b]?) : W.ownsRow lo t c v n xs := by
  refine ⟨h.1, h.2.imp_right ?_⟩
  rintro ⟨g, cap, cur, e, h1, h2, rest⟩
  exact ⟨g, cap, cur, e, h1, (hb g h1 (Array.getElem?_eq_some_iff.1 h2).1).trans h2, rest⟩
theorem TV.carry {lo : Nat} {p : Pg} {y : Fl} {s a2 v2 c2 : Value} {kt : Nat} {W W' : World} (h : TV lo p y s a2 v2 c2 kt W) (hb : ∀ b, lo ≤ b → b < W.heap.size → W'.heap[b]? = W.heap[b]?) : TV lo p y s a2 v2 c2 kt W' := by
  obtain ⟨ps, h1, h2, h3⟩ := h.flows
  exact ⟨(hb kt h.hi (Array.getElem?_eq_some_iff.1 h.row).1).trans h.row, h.hi, h.st, h.ins.carry hb (Nat.le_refl _), h.outs.carry hb (Nat.le_refl _), ps, h1, own_carry h2 hb, fun q hq => Tw.carryN hb (Nat.le_refl _) _ _ _ (Nat.le_refl _) (h3 q hq)⟩
theorem TV.keep {lo : Nat} {p : Pg} {y : Fl} {s a2 v2 c2 : Value} {kt : Nat} {W W' : World} (h : TV lo p y s a2 v2 c2 kt W) (hb : Below W.heap.size W W') : TV lo p y s a2 v2 c2 kt W' := h.carry (fun b _ hlt => hb.block b hlt)
theorem TV.pg {lo : Nat} {p : Pg} {y : Fl} {s a2 v2 c2 : Value} {kt : Nat} {W : World} (h : TV lo p y s a2 v2 c2 kt W) (hl : p.flows.length ≤ 128) (hok : ∀ x ∈ p.flows, x.ok) (hy : y.ok) (hS : St W y.body s) : PgAt W { p with flows := p.flows ++ [y] } a2 v2 c2 := by
  obtain ⟨ps, h1, h2, h3⟩ := h.flows
  have hlen : ps.length = p.flows.length := by rw [← h1]; simp
  have := own_flows h2 (by simp; omega) (fun q hq => by
    rcases List.mem_append.1 hq with hq | hq
    · exact hok _ (by rw [← h1]; exact List.mem_map_of_mem hq)
    · rw [List.mem_singleton.1 hq]; exact hy) (fun q hq => by
    rcases List.mem_append.1 hq with hq | hq
    · exact (h3 q hq).st
    · rw [List.mem_singleton.1 hq]; exact hS)
  rw [List.map_append, h1] at this
  exact ⟨h.st, h.ins.at, this, h.outs.at⟩
theorem HdCells.blk {w W : World} {b p : Nat} {x : Hd} (h : HdCells w b p x) (hb : W.heap[b]? = w.heap[b]?) : HdCells W b p x := by
  have k : ∀ {o v}, w.cell? ⟨b, o, none⟩ = some v → W.cell? ⟨b, o, none⟩ = some v := fun {o v} h => by
    rw [World.cell?_of_block (w := w) (a := ⟨b, o, none⟩) hb]; exact h
  exact ⟨k h.1, k h.2.1, k h.2.2⟩
theorem TwIns.apart {w W : World} {lo : Nat} {l : List Hd} {s : Value} {fb c cap : Nat} (h : TwIns w lo l s) (hf : Blk w fb 43 c cap) (hk : ∀ b, b < w.heap.size → b ≠ fb → W.heap[b]? = w.heap[b]?) : TwIns W lo l s := by
  obtain ⟨b, cp, rfl, h1, h2, h3, h4, h5, h6, h8⟩ := h
  have hne := h8.ne hf (by decide)
  have hb : W.heap[b]? = w.heap[b]? := by
    obtain ⟨cur, e, _⟩ := h8
    exact hk b (Array.getElem?_eq_some_iff.1 e).1 hne
  exact ⟨b, cp, rfl, h1, h2, h3, h4, fun i hi => (h5 i hi).blk hb, h6.blk hb, by obtain ⟨cur, e, r⟩ := h8; exact ⟨cur, hb.trans e, r⟩⟩
theorem TwTexts.apart {w W : World} {lo : Nat} {l : List ByteArray} {s : Value} {fb c cap : Nat} (h : TwTexts w lo l s) (hf : Blk w fb 43 c cap) (hk : ∀ b, b < w.heap.size → b ≠ fb → W.heap[b]? = w.heap[b]?) : TwTexts W lo l s := by
  obtain ⟨b, cp, rfl, h1, h2, h3, h4, h5, h6, h8⟩ := h
  have hne := h8.ne hf (by decide)
  have hb : W.heap[b]? = w.heap[b]? := by
    obtain ⟨cur, e, _⟩ := h8
    exact hk b (Array.getElem?_eq_some_iff.1 e).1 hne
  have k : ∀ {o v}, w.cell? ⟨b, o, none⟩ = some v → W.cell? ⟨b, o, none⟩ = some v := fun {o v} h => by
    rw [World.cell?_of_block (w := w) (a := ⟨b, o, none⟩) hb]; exact h
  exact ⟨b, cp, rfl, h1, h2, h3, h4, fun i hi => k (h5 i hi), k h6, by obtain ⟨cur, e, r⟩ := h8; exact ⟨cur, hb.trans e, r⟩⟩
theorem tv_grown {w12 w6 : World} {fb : Nat} {o : Obj} {c : Array Value} (hf : fb < w12.heap.size) (hg : ((w12.alloc (.cells c 26)).alloc o).drew.grownBy w6 (some fb)) :
    (∀ b, b < w12.heap.size → b ≠ fb → w6.heap[b]? = w12.heap[b]?) ∧ w6.heap[w12.heap.size]? = some (.cells c 26 (0, 0)) ∧ w12.heap.size < w6.heap.size ∧ w6.os = w12.os ∧ w6.tape = w12.tape ∧ w6.output = w12.output := by
  have sz : ((w12.alloc (.cells c 26)).alloc o).drew.heap.size = w12.heap.size + 2 := by simp
  have hs := hg.size
  refine ⟨fun b hb hn => ?_, ?_, by omega, hg.os, hg.tape, hg.output⟩
  · rw [hg.block b (by omega) (by intro e; injection e with e; omega)]
    exact (Below.heap_alloc _ _ _ (by simp; omega)).trans (Below.heap_alloc _ _ _ hb)
  · rw [hg.block w12.heap.size (by omega) (by intro e; injection e with e; omega)]
    exact push_old (push_new _ _ _ rfl)
theorem news12 (w12 : World) (o1 : Obj) (y : Fl) (s : Value) : ∀ j u, (flL y s)[j]? = some u → ((w12.alloc o1).alloc (.cells (flL y s).toArray 43)).drew.cell? ((⟨w12.heap.size + 1, 0, none⟩ : Addr).add j) = some u := by
  intro j u hj
  have := next_cells (w12.alloc o1) (flL y s) 43 j u hj
  have e : (w12.alloc o1).heap.size = w12.heap.size + 1 := by simp
  rw [e] at this
  exact this
theorem tv_done {w12 w6 : World} {lo n : Nat} {p : Pg} {y : Fl} {s a2 c2 : Value} {fb cap0 gg cap : Nat} {o : Obj} {ps : List (Fl × Value)} (hT : TwPg w12 lo p a2 (.slice (some ⟨fb, 0, none⟩) p.flows.length cap0) c2) (hlo : lo ≤ w12.heap.size)
    (hps : ps.map (·.1) = p.flows) (hTw : ∀ q ∈ ps, Tw w12 (fb + 1) q.1.body q.2) (hn : n = p.flows.length)
    (hown : w6.ownsRow lo 43 8 (.slice (some ⟨gg, 0, none⟩) (n + 1) cap) (n + 1) ((esF ps).flatten ++ flL y s))
    (hg : ((w12.alloc (.cells #[.int .i64 p.st, a2, .slice (some ⟨fb, 0, none⟩) p.flows.length cap0, c2] 26)).alloc o).drew.grownBy w6 (some fb)) (hat : fb = gg ∨ gg = w12.heap.size + 2) :
    TV lo p y s a2 (.slice (some ⟨gg, 0, none⟩) (n + 1) cap) c2 w12.heap.size (w6.setCell ⟨w12.heap.size, 2, none⟩ (.slice (some ⟨gg, 0, none⟩) (n + 1) cap)) ∧ Below lo w12 (w6.setCell ⟨w12.heap.size, 2, none⟩ (.slice (some ⟨gg, 0, none⟩) (n + 1) cap)) := by
  obtain ⟨b, cp, sl, e, h1, h2, h3, h4, h5, h6, h7, h8⟩ := id hT.flows
  injection e with e1 _ e3
  injection e1 with e1
  injection e1 with e1 _ _
  subst e1 e3 hn
  have hf : fb < w12.heap.size := by obtain ⟨cur, e, _⟩ := h8; exact (Array.getElem?_eq_some_iff.1 e).1
  obtain ⟨g1, g2, g3, g4, g5, g6⟩ := tv_grown hf hg
  have hgk : gg ≠ w12.heap.size := by rcases hat with h | h <;> omega
  have same : ∀ b, b < w12.heap.size → b ≠ fb → (w6.setCell ⟨w12.heap.size, 2, none⟩ (.slice (some ⟨gg, 0, none⟩) (p.flows.length + 1) cap)).heap[b]? = w12.heap[b]? := fun b hb hn => (Below.heap_setCell _ _ _ _ (by simp; omega)).trans (g1 b hb hn)
  have gX : w6.grownBy (w6.setCell ⟨w12.heap.size, 2, none⟩ (.slice (some ⟨gg, 0, none⟩) (p.flows.length + 1) cap)) (some w12.heap.size) := ⟨rfl, rfl, rfl, by simp, fun k _ h => Below.heap_setCell _ _ _ _ (fun e => h (by rw [e]))⟩
  have own6 := hown.kept gX (.inr (by simp [Value.ownBlock]; omega))
  have hl : ps.length = p.flows.length := by rw [← hps]; simp
  refine ⟨⟨by rw [set_same g2]; rfl, hlo, hT.st, hT.ins.apart h8 same, hT.outs.apart h8 same, ps, hps, ?_, fun q hq => ?_⟩, ⟨g4, g5, g6, ?_, fun k hk => same k (by omega) (by omega)⟩⟩
  · have e1 : (ps ++ [(y, s)]).length = p.flows.length + 1 := by simp [hl]
    have e2 : (esF (ps ++ [(y, s)])).flatten = (esF ps).flatten ++ flL y s := by simp
    rw [e1, e2]
    exact own6
  · exact (Tw.carryN (fun b hb hlt => same b hlt (by omega)) (Nat.le_refl _) _ _ _ (Nat.le_refl _) (hTw q hq)).low (by omega)
  · have := gX.size
    omega
/-- The row of the flows that are left, while it is made. -/
structure LV (w14 : World) (qs : List (Fl × Value)) (fl : Value) (W : World) : Prop where
  below : Below w14.heap.size w14 W
  own : W.ownsRow w14.heap.size 43 8 fl qs.length (esF qs).flatten
theorem LV.start (w14 : World) : LV w14 [] (.slice none 0 0) w14 := ⟨Below.refl _ _, rfl, .inl ⟨rfl, rfl⟩⟩
theorem LV.keep {w14 W W' : World} {qs : List (Fl × Value)} {fl : Value} (h : LV w14 qs fl W) (hb : Below W.heap.size W W') : LV w14 qs fl W' :=
  ⟨h.below.trans (hb.mono h.below.size), own_carry h.own (fun b _ hlt => hb.block b hlt)⟩
theorem LV.grow {w14 W W' : World} {qs : List (Fl × Value)} {fl fl' : Value} {y : Fl} {s : Value} (h : LV w14 qs fl W) (hown : W'.ownsRow w14.heap.size 43 8 fl' (qs.length + 1) ((esF qs).flatten ++ flL y s)) (hg : W.grownBy W' fl.ownBlock) : LV w14 (qs ++ [(y, s)]) fl' W' where
  below := h.below.grown hg h.below.size (fun j hj => by
    rcases h.own.2 with ⟨e, _⟩ | ⟨g, cap, cur, e, h1, _⟩
    · rw [e] at hj; cases hj
    · rw [e] at hj; have hj' : g = j := by injection hj
      omega)
  own := by
    have e1 : (qs ++ [(y, s)]).length = qs.length + 1 := by simp
    have e2 : (esF (qs ++ [(y, s)])).flatten = (esF qs).flatten ++ flL y s := by simp
    rw [e1, e2]
    exact hown
theorem LV.slice {w14 W : World} {qs : List (Fl × Value)} {fl : Value} (h : LV w14 qs fl W) : ∃ ao cap, fl = .slice ao qs.length cap := by
  rcases h.own.2 with ⟨e, e0⟩ | ⟨g, cap, cur, e, _⟩
  · exact ⟨none, 0, by rw [e, e0]⟩
  · exact ⟨_, cap, e⟩
/-- Is the name asked for? -/
def ak (nm : ByteArray) (l : List Fl) : Bool := !(l.all fun f => (asksOf f).all fun s => !decide (nm.data.toList = s.data.toList))
theorem ak_snoc (nm : ByteArray) (l : List Fl) (f : Fl) : ak nm (l ++ [f]) = (ak nm l || (gat 32 f.body 0 []).any fun z => decide (nm.data.toList = z.1.data.toList)) := by
  unfold ak asksOf
  simp only [List.all_append, List.all_cons, List.all_nil, Bool.and_true, Bool.not_and, List.all_map]
  congr 1
  rw [List.not_all_eq_any_not]
  simp
theorem erase_same {α : Type} (l : List α) (k : Nat) (hk : k < l.length) : (l.take (k + 1)).eraseIdx k = (l.take k).eraseIdx k := by
  have e : (l.take k).length = k := by simp; omega
  rw [List.take_succ_eq_append_getElem hk, List.eraseIdx_append_of_length_le (by omega), e, List.eraseIdx_of_length_le (l := l.take k) (by omega)]
  simp
theorem erase_more {α : Type} (l : List α) (k m : Nat) (hm : m < l.length) (hne : m ≠ k) : (l.take (m + 1)).eraseIdx k = (l.take m).eraseIdx k ++ [l[m]] := by
  rw [List.take_succ_eq_append_getElem hm]
  by_cases h : k < m
  · rw [List.eraseIdx_append_of_lt_length (by simp; omega)]
  · rw [List.eraseIdx_of_length_le (by simp; omega), List.eraseIdx_of_length_le (by simp; omega)]
theorem less_err {p : Pg} (hp : pgOk p = true) (hn : nmOk p = true) (k : Nat) (hk : k < p.flows.length) (y : Fl) (hy : p.flows[k] = y) (l : List Fl) (hl : l = (p.flows.take p.flows.length).eraseIdx k) : nmErr { p with flows := l, outs := [] } = if ak y.name l then 6 else 0 := by
  subst hl hy
  rw [List.take_length, List.eraseIdx_eq_take_drop_succ, less_flow hp hn k hk]
  unfold ak
  cases (p.flows.take k ++ p.flows.drop (k + 1)).all (fun f => (asksOf f).all fun s => !decide (p.flows[k].name.data.toList = s.data.toList)) <;> rfl
theorem twice_err {p : Pg} (hp : pgOk p = true) (k : Nat) (hk : k < p.flows.length) (y : Fl) (hy : p.flows[k] = y) : nmErr { p with flows := p.flows ++ [y] } = if p.flows.length + 1 ≤ 128 then 6 else 1 := by
  subst hy
  exact twice_flow hp k hk
theorem LV.set {w14 W : World} {qs : List (Fl × Value)} {fl u : Value} {kq : Nat} (h : LV w14 qs fl W) (hk : kq < w14.heap.size) : (W.setCell ⟨kq, 2, none⟩ u).ownsRow w14.heap.size 43 8 fl qs.length (esF qs).flatten :=
  own_carry h.own (fun b hb _ => Below.heap_setCell _ _ _ _ (by simp; omega))
end Go.Proofs.YtilpoiihoikhlaaDoor.Lex
namespace Go.Proofs.YtilpoiihoikhlaaDoor.Lex
open Go.ChangeShapes Go.WideShapes Go.ChangeAt Go.RowKit Go.Shelf
/-- What stands behind the line with the append. -/
def AftL (w w9 w12 : World) (lo : Nat) (p : Pg) (y : Fl) (s a2 c2 : Value) (k : Nat) (nm : ByteArray) (a : Act) (W : World) : Prop := ∃ gg cap, TV lo p y s a2 (.slice (some ⟨gg, 0, none⟩) (p.flows.length + 1) cap) c2 w12.heap.size W ∧ Below lo w12 W ∧ ∃ u0 u1 u3 u15 u16 u17 u18 u19 u20 u21 u22 u23 u24 u25 u26 u27 u28 u29 u30 u31 u32 u33 u34 u35 u36 u37 u38 u39 u40 u41 u42 u43 u44 u45 u46 u47 u48 u49 u50 u51 u52 u53 u54 u55 u56 u57 u58 u59 u60 u61 u62 u63 u64 u65 : Value, a = { tmps := #[u0, u1, .pointer (some ⟨w.heap.size, 0, none⟩), u3, .bool false, .pointer (some ⟨w9.heap.size, 0, none⟩), .int .i64 (k : Int), .string nm, .pointer (some ⟨w12.heap.size, 0, none⟩), undef, undef, undef, undef, undef, undef, u15, u16, u17, u18, u19, u20, u21, u22, u23, u24, u25, u26, u27, u28, u29, u30, u31, u32, u33, u34, u35, u36, u37, u38, u39, u40, u41, u42, u43, u44, u45, u46, u47, u48, u49, u50, u51, u52, u53, u54, u55, u56, u57, u58, u59, u60, u61, u62, u63, u64, u65, undef, undef, undef, undef, undef, undef, undef, undef, undef, undef, undef, undef, undef, undef, undef, undef, undef, undef, undef, undef, undef, undef, undef, undef, undef, undef, undef, undef, undef, undef, undef, undef, undef, undef, undef, undef, undef, undef, undef, undef, undef, undef, undef, undef, undef, undef, undef, undef, undef, undef, undef, undef, undef, undef, undef, undef, undef, undef, undef, undef, undef, undef, undef, undef], defers := [] }
set_option maxRecDepth 100000 in
set_option maxHeartbeats 2000000 in
theorem walk5 (p : Pg) (n : Nat) (w : World) (a b c : Value) (hP : PgAt w p a b c) (hR : TabR w) (hJ : TabJ w) (hn8 : n < 256) : Calls Tryd.prog 5 #[pgV p a b c, .int .u8 (n : Int)] w fun e w' => e = .returned (.bool true) ∧ Below w.heap.size w w' := by
  obtain ⟨a0, a1, rfl, hl1, _, _, hc1⟩ := hP.ins
  obtain ⟨b0, b1, sl, rfl, hl2, _, hok, hc2, hs2⟩ := hP.flows
  obtain ⟨c0, c1, rfl, hl3, _, _, hc3⟩ := hP.outs
  have HC2 := hid hc2
  have HS2 := hid hs2
  have HOK := hid hok
  have fv0 := hid (FV.new hP hR hJ)
  clear hP hR hJ hc1 hc2 hc3 hs2 hok
  go_enter Tryd.func5, Tryd.ntmps5
  go_wp2_with (fail)
  refine (alive _ fv0.out.R fv0.out.J).mono ?_
  rintro e w1 ⟨rfl, hb1⟩
  have fv1 := fv0.out.keep hb1
  obtain ⟨p0, p1, p2, p3⟩ := row4 fv1.row
  have F1 := hid fv1
  clear fv1 hb1 fv0
  go_wp2_with (fail)
  refine (great p _ _ _ _ F1.out.P).mono ?_
  rintro e w2 ⟨⟨g, rfl, hg⟩, hb2⟩
  have fv2 := F1.out.keep hb2
  clear p0 p1 p2 p3
  obtain ⟨p0, p1, p2, p3⟩ := row4 fv2.row
  have F2 := hid fv2
  clear fv2 hb2 F1 hg
  cases g with
  | true =>
    go_wp2_with (fail)
    refine (alive _ F2.out.R F2.out.J).mono ?_
    rintro e w3 ⟨rfl, hb3⟩
    have hB := (F2.out.keep hb3).below
    go_wp2_with (fail)
    go_ret
    exact ⟨rfl, hB⟩
  | false =>
    go_wp2_with (fail)
    refine ((callsIn_wide (n := 20)).1 (names_check p _ _ _ _ F2.out.P F2.out.R F2.out.J)).mono ?_
    rintro e w3 ⟨rfl, hb3⟩
    have fv3 := F2.out.keep hb3
    clear p0 p1 p2 p3
    have F3 := hid fv3
    obtain ⟨p0, p1, p2, p3⟩ := row4 F3.out.row
    clear fv3 hb3 F2
    by_cases he : nmErr p = 0
    · have HN := hid (nmErr_zero he)
      have hrm : p.ins.length ≤ 64 ∧ p.flows.length ≤ 128 ∧ p.outs.length ≤ p.ins.length + p.flows.length := by
        have hk := HN.out.1
        unfold pgOk roomOk at hk
        simp only [Bool.and_eq_true, decide_eq_true_eq] at hk
        exact hk.1.2
      have HCK := hid (pgOk_chk HN.out.1)
      rw [he]
      clear he
      go_wp2_with (fail)
      refine (twin_prog p _ _ _ _ F3.out.P).mono ?_
      rintro e w9 ⟨a', b', c', rfl, hT, hb9⟩
      obtain ⟨ib, ic, rfl, _⟩ := id hT.ins
      obtain ⟨fb, cap, _, rfl, _⟩ := id hT.flows
      obtain ⟨ob, oc, rfl, _⟩ := id hT.outs
      have F9 := hid (F3.out.keep hb9)
      have HT := hid hT
      clear hT hb9 p0 p1 p2 p3
      have Q0 := hid (QV.new w9 p.st (.slice (some ⟨ib, 0, none⟩) p.ins.length ic) (.slice (some ⟨fb, 0, none⟩) p.flows.length cap) (.slice none 0 0))
      have B0 := hid ((Below.refl w9.heap.size w9).alloc (Nat.le_refl _) (.cells #[.int .i64 p.st, (.slice (some ⟨ib, 0, none⟩) p.ins.length ic), (.slice (some ⟨fb, 0, none⟩) p.flows.length cap), .slice none 0 0] 26))
      go_wp2_with (fail)
      refine ((callsIn_wide (n := 20)).1 (names_check { p with outs := [] } _ _ _ _ (Q0.out.pg HT.out) ((F9.out.keep B0.out).R) ((F9.out.keep B0.out).J))).mono ?_
      rintro e w10 ⟨rfl, hb10⟩
      rw [less_outs HN.out.1 HN.out.2]
      have Q10 := hid (Q0.out.keep hb10)
      have F10 := hid ((F9.out.keep B0.out).keep hb10)
      clear hb10 Q0 B0
      obtain ⟨p0, p1, p2, p3⟩ := row4 F10.out.row
      obtain ⟨x0, x1, x2, x3⟩ := row4 Q10.out.row
      by_cases hn0 : p.flows.length = 0
      · have hn0' : ((p.flows.length : Int) == 0) = true := by rw [beq_iff_eq]; omega
        clear hn0
        go_wp2_with (fail)
        refine ((callsIn_wide (n := 20)).1 (names_check { p with outs := [] } _ _ _ _ (Q10.out.pg HT.out) F10.out.R F10.out.J)).mono ?_
        rintro e w11 ⟨rfl, hb11⟩
        rw [less_outs HN.out.1 HN.out.2]
        have hB := (F10.out.keep hb11).below
        go_wp2_with (fail)
        go_ret
        exact ⟨rfl, hB⟩
      · obtain ⟨k, hk, hkn⟩ : ∃ k : Nat, k < p.flows.length ∧ Int.tmod (n : Int) (p.flows.length : Int) = (k : Int) := ⟨n % p.flows.length, Nat.mod_lt _ (by omega), by rw [Int.ofNat_tmod]⟩
        have hn0' : ((p.flows.length : Int) == 0) = false := by rw [beq_eq_false_iff_ne]; omega
        have hk0 : (0 : Int) ≤ (k : Int) := by omega
        have hkl : (k : Int) < (p.flows.length : Int) := by omega
        obtain ⟨bb, o, rfl, hcc⟩ := HC2.out.resolve_left hn0
        have HCC := hid hcc
        obtain ⟨a3, c3, _, e3, _⟩ := (HS2.out k hk).out
        have HX : Hid (FlCells w bb (o + k * 8) p.flows[k] (.slice a3 p.flows[k].body.args.length c3)) := hid (e3 ▸ hcc k hk)
        have HSX : Hid (St w p.flows[k].body (.slice a3 p.flows[k].body.args.length c3)) := hid (e3 ▸ HS2.out k hk)
        clear hcc e3 HC2
        obtain ⟨f0, _⟩ := HX.out.keep F10.out.below
        generalize hy : p.flows[k] = y at *
        go_wp2_with (fail)
        refine (twin_prog p _ _ _ _ F10.out.P).mono ?_
        rintro e w12 ⟨a2, b2, c2, rfl, hT2, hb12⟩
        obtain ⟨ps, fb2, cap2, rfl, hps, hown2, htw2⟩ := hT2.flows.own
        obtain ⟨ib2, ic2, rfl, _⟩ := id hT2.ins
        obtain ⟨ob2, oc2, rfl, _⟩ := id hT2.outs
        have hfb2 : fb2 < w12.heap.size := by obtain ⟨b, _, _, e, _, _, _, _, _, _, _, cur, h, _⟩ := id hT2.flows; injection e with e _ _; injection e with e; injection e with e _ _; subst e; exact (Array.getElem?_eq_some_iff.1 h).1
        have hlo12 : w10.heap.size ≤ w12.heap.size := hb12.size
        have HT2 := hid hT2
        have HO2 := hid hown2
        have HTW2 := hid htw2
        have HPS := hid hps
        have HB12 := hid hb12
        have F12 := hid (F10.out.keep hb12)
        clear hT2 hown2 htw2 hps hb12 p0 p1 p2 p3 x0 x1 x2 x3 f0
        have HB13 := hid ((Below.refl w12.heap.size w12).alloc (Nat.le_refl _) (.cells #[.int .i64 p.st, .slice (some ⟨ib2, 0, none⟩) p.ins.length ic2, .slice (some ⟨fb2, 0, none⟩) p.flows.length cap2, .slice (some ⟨ob2, 0, none⟩) p.outs.length oc2] 26))
        have F13 := hid (F12.out.keep HB13.out)
        obtain ⟨p0, p1, p2, p3⟩ := row4 F13.out.row
        obtain ⟨f0, f1, f2, f3, f4, f5, f6, f7⟩ := HX.out.keep F13.out.below
        obtain ⟨i0, hi, hz0, hz1, hz2⟩ := info_parts info50'
        go_wp2_with (fail)
        have q2 := (row4 (push_new w12 (.cells #[.int .i64 p.st, .slice (some ⟨ib2, 0, none⟩) p.ins.length ic2, .slice (some ⟨fb2, 0, none⟩) p.flows.length cap2, .slice (some ⟨ob2, 0, none⟩) p.outs.length oc2] 26) _ rfl)).2.2.1
        refine wp_mono (Q := Exit.then (AftL w w9 w12 w10.heap.size p y (.slice a3 y.body.args.length c3) (.slice (some ⟨ib2, 0, none⟩) p.ins.length ic2) (.slice (some ⟨ob2, 0, none⟩) p.outs.length oc2) k y.name) (fun _ _ _ => False)) ?reg ?go
        case reg =>
          go_region_law ((refine step_append_lies _ (by rfl) _ _ _ (by rfl) w10.heap.size 43 i0 _ 8 96 Tryd.underlying23 hi hz0 hz1 hz2 rfl (by omega) (.slice (some ⟨fb2, 0, none⟩) p.flows.length cap2) p.flows.length (esF ps).flatten (by rfl) (((HO2.out.alloc _).alloc _).drew) ⟨w12.heap.size + 1, 0, none⟩ 1 1 (flL y (.slice a3 y.body.args.length c3)) (by rfl) (by rfl) (news12 _ _ _ _) (by simp [Value.oneCell']) (by omega) (by unfold maxLen; omega) (by omega) (by simp; omega) (w12.heap.size + 1 + 1) (by simp) ?_; intro gg cap w6 hown6 hgrow hat hlt6; obtain ⟨gr1, gr2, gr3, _⟩ := tv_grown hfb2 hgrow; have c6 := (row4 gr2).2.2.1; have f6 := fz_row gr2 2; have TA := hid (tv_done HT2.out hlo12 HPS.out HTW2.out rfl hown6 hgrow (hat.imp_left (fun h => by injection h))); clear gr1 gr2 gr3 hgrow hat hown6))
          all_goals exact ⟨gg, cap, TA.out.1, TA.out.2, _, _, _, _, _, _, _, _, _, _, _, _, _, _, _, _, _, _, _, _, _, _, _, _, _, _, _, _, _, _, _, _, _, _, _, _, _, _, _, _, _, _, _, _, _, _, _, _, _, _, _, _, _, _, rfl⟩
        case go =>
          rintro e a W h
          obtain rfl : e = .normal := by cases e <;> first | rfl | exact h.elim
          obtain ⟨gg, cap, TA, hBW, u0, u1, u3, u15, u16, u17, u18, u19, u20, u21, u22, u23, u24, u25, u26, u27, u28, u29, u30, u31, u32, u33, u34, u35, u36, u37, u38, u39, u40, u41, u42, u43, u44, u45, u46, u47, u48, u49, u50, u51, u52, u53, u54, u55, u56, u57, u58, u59, u60, u61, u62, u63, u64, u65, rfl⟩ := h
          have hB14 := HB12.out.trans hBW
          have TV14 := hid TA
          have F14 := hid (F10.out.keep hB14)
          have Q14 := hid (Q10.out.keep hB14)
          have hlt10 : w9.heap.size < w10.heap.size := (Array.getElem?_eq_some_iff.1 Q10.out.row).1
          have hlt14 : w9.heap.size < W.heap.size := (Array.getElem?_eq_some_iff.1 Q14.out.row).1
          have hkt : w12.heap.size < W.heap.size := (Array.getElem?_eq_some_iff.1 TA.row).1
          clear hB14 TA hBW HT2 HO2 HTW2 HPS HB12 F12 HB13 F13 p0 p1 p2 p3 f0 f1 f2 f3 f4 f5 f6 f7 q2 F10 Q10
          obtain ⟨p0, p1, p2, p3⟩ := row4 F14.out.row
          go_wp2_with (fail)
          go_loopw [9, 10, 11] (fun ask fl i wr => ∃ (m : Nat) (qs : List (Fl × Value)), m ≤ p.flows.length ∧ ask = .bool (ak y.name (qs.map (·.1))) ∧ i = .int .i64 (m : Int) ∧ Hid (LV W qs fl wr) ∧ Hid (qs.map (·.1) = (p.flows.take m).eraseIdx k) ∧ Hid (∀ q ∈ qs, q.1.ok ∧ St w q.1.body q.2)) (fun _ _ i _ => p.flows.length - (intOf i).toNat)
          case atStart => exact ⟨0, [], Nat.zero_le _, rfl, rfl, hid (LV.start W), hid (by simp), hid (fun q hq => by cases hq)⟩
          case round =>
            clear p0 p1 p2 p3
            obtain ⟨m, qs, hm, rfl, rfl, HL, HQ, HS⟩ := hrel
            have FR := hid (F14.out.keep HL.out.below)
            obtain ⟨p0, p1, p2, p3⟩ := row4 FR.out.row
            by_cases hlt : m < p.flows.length
            · have hlt' : (m : Int) < (p.flows.length : Int) := by omega
              have hm0 : (0 : Int) ≤ (m : Int) := by omega
              by_cases hmk : m = k
              · have hmk' : ((m : Int) == (k : Int)) = true := by rw [beq_iff_eq]; omega
                have hE : (p.flows.take (m + 1)).eraseIdx k = (p.flows.take m).eraseIdx k := by subst hmk; exact erase_same _ _ hlt
                have HE := hid hE
                clear hmk hE
                go_wp2_with (fail)
                go_roundw
                case rel => exact ⟨m + 1, qs, by omega, rfl, by go_num, HL, hid (by rw [HE.out]; exact HQ.out), HS⟩
                case measure => simp [intOf]; omega
              · have hmk' : ((m : Int) == (k : Int)) = false := by rw [beq_eq_false_iff_ne]; omega
                have HE := hid (erase_more p.flows k m hlt hmk)
                have hqn : qs.length ≤ 128 := by
                  have h := congrArg List.length HQ.out
                  have h2 := List.length_eraseIdx_le (p.flows.take m) k
                  simp at h h2
                  omega
                obtain ⟨a4, c4, _, e4, _⟩ := (HS2.out m hlt).out
                have HXM : Hid (FlCells w bb (o + m * 8) p.flows[m] (.slice a4 p.flows[m].body.args.length c4)) := hid (e4 ▸ HCC.out m hlt)
                have HSM : Hid (St w p.flows[m].body (.slice a4 p.flows[m].body.args.length c4)) := hid (e4 ▸ HS2.out m hlt)
                have HOM := hid (HOK.out _ (List.getElem_mem hlt))
                have HNM := hid (chk_nm (HCK.out _ (List.getElem_mem hlt)))
                have HLL : Hid ((gat 32 p.flows[m].body 0 []).length ≤ 1000000) := hid (by have h1 := gat_len 32 p.flows[m].body 0 []; have h2 := HNM.out.2; simp at h1; omega)
                clear hmk e4
                obtain ⟨f0, f1, f2, f3, f4, f5, f6, f7⟩ := HXM.out.keep FR.out.below
                generalize p.flows[m] = x at *
                have L2 := hid (HL.out.keep ((Below.refl _ _).alloc (Nat.le_refl _) (.cells #[.string x.name, .int .u8 (x.ty : Int), .int .i64 x.st, .int .i64 x.df, .int .u8 (x.body.op : Int), .int .i64 x.body.n, .string x.body.name, .slice a4 x.body.args.length c4] 43)))
                have N2 := hid (next_cells wr (flL x (.slice a4 x.body.args.length c4)) 43)
                go_wp2_with (at_builtin; refine wpList_append_own _ rfl (.tmp 76) (.tmp 82) 23 rfl W.heap.size 43 i0 _ 8 96 Tryd.underlying23 hi hz0 hz1 hz2 rfl (by decide) _ _ _ rfl L2.out.own ⟨wr.heap.size, 0, none⟩ 1 1 (flL x (.slice a4 x.body.args.length c4)) rfl rfl N2.out (by simp [Value.oneCell']) (by unfold maxLen; omega) (by omega) L2.out.below.size ?_; intro v' w' hown1 hgrow1 _; have L3 := hid (L2.out.grow hown1 hgrow1); have FR3 := hid (F14.out.keep L3.out.below); clear hown1 hgrow1 p0 p1 p2 p3 f0 f1 f2 f3 f4 f5 f6 f7; obtain ⟨p0, p1, p2, p3⟩ := row4 FR3.out.row; obtain ⟨f0, f1, f2, f3, f4, f5, f6, f7⟩ := HXM.out.keep FR3.out.below)
                refine (refs 32 x.body _ _ (HSM.out.keep FR3.out.below) HNM.out.1 (by omega) (by have := HNM.out.2; omega)).mono ?_
                rintro e w5 ⟨v, rfl, hrow, hb5⟩
                obtain ⟨ao, cap, rfl, hrf⟩ := RfAt.of_own hrow
                have L5 := hid (L3.out.keep hb5)
                have HRF := hid hrf
                have HAK := hid (ak_snoc y.name (qs.map (·.1)) x)
                have hLl := HLL.out
                generalize gat 32 x.body 0 [] = G at *
                generalize ak y.name (qs.map (·.1)) = A0 at *
                clear hrow hrf hb5 p0 p1 p2 p3 f0 f1 f2 f3 f4 f5 f6 f7
                go_wp2_with (fail)
                go_loopw [9, 13] (fun ask j wr => ∃ t : Nat, t ≤ G.length ∧ ask = .bool (A0 || (G.take t).any fun z => decide (y.name.data.toList = z.1.data.toList)) ∧ j = .int .i64 (t : Int) ∧ Hid (Below w5.heap.size w5 wr)) (fun _ j _ => G.length - (intOf j).toNat)
                case atStart => exact ⟨0, Nat.zero_le _, by simp, rfl, hid (Below.refl _ _)⟩
                case round =>
                  obtain ⟨t, ht, rfl, rfl, hB⟩ := hrel
                  by_cases htl : t < G.length
                  · have htl' : (t : Int) < (G.length : Int) := by omega
                    have ht0 : (0 : Int) ≤ (t : Int) := by omega
                    obtain ⟨gb, rfl, hcc⟩ := HRF.out.resolve_left (by omega)
                    have r0 := cell_kept (hcc t htl).1 hB.out
                    have r1 := cell_kept (hcc t htl).2 hB.out
                    have HTK := hid (List.take_succ_eq_append_getElem htl)
                    clear hcc
                    generalize G[t] = z at *
                    have HAS : Hid ((A0 || (G.take (t + 1)).any fun z => decide (y.name.data.toList = z.1.data.toList)) = ((A0 || (G.take t).any fun z => decide (y.name.data.toList = z.1.data.toList)) || decide (y.name.data.toList = z.1.data.toList))) := hid (by rw [HTK.out, List.any_append, ← Bool.or_assoc]; simp)
                    generalize (A0 || (G.take t).any fun z => decide (y.name.data.toList = z.1.data.toList)) = A1 at *
                    cases A1 with
                    | true =>
                      go_wp2_with (fail)
                      go_roundw
                      case rel => exact ⟨t + 1, by omega, by rw [HAS.out]; simp, by go_num, hB⟩
                      case measure => simp [intOf]; omega
                    | false =>
                      go_wp2_with (fail)
                      go_roundw
                      case rel => exact ⟨t + 1, by omega, by rw [HAS.out, name_eq, Bool.false_or], by go_num, hB⟩
                      case measure => simp [intOf]; omega
                  · have htl' : ¬ (t : Int) < (G.length : Int) := by omega
                    obtain rfl : t = G.length := by omega
                    have L6 := hid (L5.out.keep hB.out)
                    rw [List.take_length]
                    go_wp2_with (fail)
                    go_roundw
                    case rel => exact ⟨m + 1, qs ++ [(x, .slice a4 x.body.args.length c4)], by omega, by rw [List.map_append, List.map_cons, List.map_nil, HAK.out], by go_num, L6, hid (by rw [HE.out, List.map_append, HQ.out]; rfl), hid (fun q hq => (List.mem_append.1 hq).elim (HS.out q) (fun h => by rw [List.mem_singleton.1 h]; exact ⟨HOM.out, HSM.out⟩))⟩
                    case measure => simp [intOf]; omega
            · have hlt' : ¬ (m : Int) < (p.flows.length : Int) := by omega
              obtain rfl : m = p.flows.length := by omega
              have QR := hid (Q14.out.keep HL.out.below)
              have TR := hid (TV14.out.keep HL.out.below)
              obtain ⟨q0, q1, q2, q3⟩ := row4 QR.out.row
              have fz2 := fz_row QR.out.row 2
              obtain ⟨fo, fc, rfl⟩ := HL.out.slice
              have Q20 := hid (QR.out.flows (.slice fo qs.length fc))
              have T20 : Hid (TV w10.heap.size p y (.slice a3 y.body.args.length c3) (.slice (some ⟨ib2, 0, none⟩) p.ins.length ic2) (.slice (some ⟨gg, 0, none⟩) (p.flows.length + 1) cap) (.slice (some ⟨ob2, 0, none⟩) p.outs.length oc2) w12.heap.size (wr.setCell ⟨w9.heap.size, 2, none⟩ (.slice fo qs.length fc))) := hid (TR.out.carry (fun b hb _ => Below.heap_setCell _ _ _ _ (by simp; omega)))
              have F20 := hid (F9.out.keep Q20.out.below)
              have hqn : qs.length ≤ 128 := by
                have h := congrArg List.length HQ.out
                have h2 := List.length_eraseIdx_le (p.flows.take p.flows.length) k
                simp at h h2
                omega
              have P20 := hid (QV.pg2 Q20.out.below HT.out (own_flows (HL.out.set hlt14) (by omega) (fun q hq => (HS.out q hq).1) (fun q hq => (HS.out q hq).2.keep F20.out.below)))
              have T20p := hid (T20.out.pg hrm.2.1 HOK.out (hy ▸ HOK.out _ (List.getElem_mem hk)) (HSX.out.keep F20.out.below))
              obtain ⟨x0, x1, x2, x3⟩ := row4 T20.out.row
              obtain ⟨z0, z1, z2, z3⟩ := row4 Q20.out.row
              have HEQ := hid (less_err HN.out.1 HN.out.2 k hk y hy _ HQ.out)
              have HET := hid (twice_err HN.out.1 k hk y hy)
              go_wp2_with (fail)
              refine ((callsIn_wide (n := 20)).1 (names_check { p with flows := p.flows ++ [y] } _ _ _ _ T20p.out F20.out.R F20.out.J)).mono ?_
              rintro e w20 ⟨rfl, hb20⟩
              have Q21 := hid (Q20.out.keep hb20)
              have F21 := hid (F20.out.keep hb20)
              have P21 := hid (P20.out.keep hb20)
              have T21 := hid (T20.out.keep hb20)
              clear hb20 x0 x1 x2 x3 z0 z1 z2 z3 q0 q1 q2 q3
              obtain ⟨x0, x1, x2, x3⟩ := row4 T21.out.row
              obtain ⟨z0, z1, z2, z3⟩ := row4 Q21.out.row
              rw [HET.out]
              by_cases h128 : p.flows.length + 1 ≤ 128
              · rw [if_pos h128]
                go_wp2_with (fail)
                refine ((callsIn_wide (n := 20)).1 (names_check { p with flows := qs.map (·.1), outs := [] } _ _ _ _ P21.out F21.out.R F21.out.J)).mono ?_
                rintro e w21 ⟨rfl, hb21⟩
                rw [HEQ.out]
                have T22 := hid (T21.out.keep hb21)
                have hB := (F21.out.keep hb21).below
                clear hb21 x0 x1 x2 x3 z0 z1 z2 z3
                obtain ⟨x0, x1, x2, x3⟩ := row4 T22.out.row
                generalize ak y.name (qs.map (·.1)) = A0 at *
                cases A0 with
                | true =>
                  rw [if_pos rfl]
                  go_wp2_with (fail)
                  go_ret
                  exact ⟨rfl, hB⟩
                | false =>
                  rw [if_neg (by simp)]
                  go_wp2_with (fail)
                  go_ret
                  exact ⟨rfl, hB⟩
              · rw [if_neg h128]
                have hgt : (128 : Int) < (p.flows.length : Int) + 1 := by omega
                go_wp2_with (fail)
                refine ((callsIn_wide (n := 20)).1 (names_check { p with flows := qs.map (·.1), outs := [] } _ _ _ _ P21.out F21.out.R F21.out.J)).mono ?_
                rintro e w21 ⟨rfl, hb21⟩
                rw [HEQ.out]
                have T22 := hid (T21.out.keep hb21)
                have hB := (F21.out.keep hb21).below
                clear hb21 x0 x1 x2 x3 z0 z1 z2 z3
                obtain ⟨x0, x1, x2, x3⟩ := row4 T22.out.row
                generalize ak y.name (qs.map (·.1)) = A0 at *
                cases A0 with
                | true =>
                  rw [if_pos rfl]
                  go_wp2_with (fail)
                  go_ret
                  exact ⟨rfl, hB⟩
                | false =>
                  rw [if_neg (by simp)]
                  go_wp2_with (fail)
                  go_ret
                  exact ⟨rfl, hB⟩
    · have hne : (nmErr p == 0) = false := by simpa using he
      clear he
      generalize nmErr p = E at *
      go_wp2_with (fail)
      refine (alive _ F3.out.R F3.out.J).mono ?_
      rintro e w4 ⟨rfl, hb4⟩
      have hB := (F3.out.keep hb4).below
      go_wp2_with (fail)
      go_ret
      exact ⟨rfl, hB⟩
theorem nat_c {n : Int} (h : (Lit.int .u8 n).wf = true) : ∃ k : Nat, k < 256 ∧ n = (k : Int) := by
  simp [Lit.wf, IntKind.min, IntKind.max, IntKind.signed, IntKind.bits] at h
  exact ⟨n.toNat, by omega, by omega⟩
end Go.Proofs.YtilpoiihoikhlaaDoor.Lex
