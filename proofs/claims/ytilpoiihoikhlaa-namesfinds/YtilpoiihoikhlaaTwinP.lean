/-
  The twin of a program's rows: new memory, with a mark behind each row.
-/
import Derived.Test.YtilpoiihoikhlaaPg
import Derived.Test.YtilpoiihoikhlaaTwinAny
namespace Go.Proofs.Ytilpoiihoikhlaa.Lex
open Go.ChangeShapes Go.WideShapes Go.ChangeAt Go.RowKit Go.Joins
abbrev spareFl : Fl := ⟨spare, 0, 0, 0, ⟨0, 0, ⟨#[]⟩, []⟩⟩
/-- A twin of a row of heads, in a block from some one on. -/
def TwIns (w : World) (lo : Nat) (l : List Hd) (s : Value) : Prop :=
  ∃ (b cap : Nat), s = .slice (some ⟨b, 0, none⟩) l.length cap ∧ lo ≤ b ∧ l.length ≤ 4398046510976 ∧ l.length < cap ∧ (∀ x ∈ l, x.ok) ∧ (∀ i (h : i < l.length), HdCells w b (i * 3) l[i]) ∧ HdCells w b (l.length * 3) ⟨spare, 0, 0⟩
/-- A twin of a row of flows. -/
def TwFlows (w : World) (lo : Nat) (l : List Fl) (s : Value) : Prop :=
  ∃ (b cap : Nat) (sl : Nat → Value), s = .slice (some ⟨b, 0, none⟩) l.length cap ∧ lo ≤ b ∧ l.length ≤ 1466015503658 ∧ l.length < cap ∧ (∀ x ∈ l, x.ok) ∧ (∀ i (h : i < l.length), FlCells w b (i * 8) l[i] (sl i)) ∧ FlCells w b (l.length * 8) spareFl (.slice none 0 0) ∧ ∀ i (h : i < l.length), Tw w lo l[i].body (sl i)
/-- A twin of a row of texts. -/
def TwTexts (w : World) (lo : Nat) (l : List ByteArray) (s : Value) : Prop :=
  ∃ (b cap : Nat), s = .slice (some ⟨b, 0, none⟩) l.length cap ∧ lo ≤ b ∧ l.length ≤ 8796093021952 ∧ l.length < cap ∧ (∀ x ∈ l, x.size ≤ 140737488355328) ∧ (∀ i (h : i < l.length), w.cell? ⟨b, i, none⟩ = some (.string l[i])) ∧ w.cell? ⟨b, l.length, none⟩ = some (.string spare)
theorem cell_carry {w w' : World} {lo b o : Nat} {v : Value} (hb : ∀ b, lo ≤ b → b < w.heap.size → w'.heap[b]? = w.heap[b]?) (hlo : lo ≤ b) (h : w.cell? ⟨b, o, none⟩ = some v) : w'.cell? ⟨b, o, none⟩ = some v := by
  rw [World.cell?_of_block (w := w) (a := ⟨b, o, none⟩) (hb b hlo (World.block_lt_of_cell? w _ h))]
  exact h
theorem HdCells.carry {w w' : World} {lo b p : Nat} {x : Hd} (h : HdCells w b p x) (hb : ∀ b, lo ≤ b → b < w.heap.size → w'.heap[b]? = w.heap[b]?) (hlo : lo ≤ b) : HdCells w' b p x :=
  ⟨cell_carry hb hlo h.1, cell_carry hb hlo h.2.1, cell_carry hb hlo h.2.2⟩
theorem FlCells.carry {w w' : World} {lo b p : Nat} {x : Fl} {s : Value} (h : FlCells w b p x s) (hb : ∀ b, lo ≤ b → b < w.heap.size → w'.heap[b]? = w.heap[b]?) (hlo : lo ≤ b) : FlCells w' b p x s :=
  ⟨cell_carry hb hlo h.1, cell_carry hb hlo h.2.1, cell_carry hb hlo h.2.2.1, cell_carry hb hlo h.2.2.2.1, cell_carry hb hlo h.2.2.2.2.1, cell_carry hb hlo h.2.2.2.2.2.1, cell_carry hb hlo h.2.2.2.2.2.2.1, cell_carry hb hlo h.2.2.2.2.2.2.2⟩
theorem TwIns.carry {w w' : World} {lo lo' : Nat} {l : List Hd} {s : Value} (h : TwIns w lo l s) (hb : ∀ b, lo ≤ b → b < w.heap.size → w'.heap[b]? = w.heap[b]?) (hl : lo' ≤ lo) : TwIns w' lo' l s := by
  obtain ⟨b, cap, rfl, h1, h2, h3, h4, h5, h6⟩ := h
  exact ⟨b, cap, rfl, by omega, h2, h3, h4, fun i hi => (h5 i hi).carry hb h1, h6.carry hb h1⟩
theorem TwTexts.carry {w w' : World} {lo lo' : Nat} {l : List ByteArray} {s : Value} (h : TwTexts w lo l s) (hb : ∀ b, lo ≤ b → b < w.heap.size → w'.heap[b]? = w.heap[b]?) (hl : lo' ≤ lo) : TwTexts w' lo' l s := by
  obtain ⟨b, cap, rfl, h1, h2, h3, h4, h5, h6⟩ := h
  exact ⟨b, cap, rfl, by omega, h2, h3, h4, fun i hi => cell_carry hb h1 (h5 i hi), cell_carry hb h1 h6⟩
theorem TwFlows.carry {w w' : World} {lo lo' : Nat} {l : List Fl} {s : Value} (h : TwFlows w lo l s) (hb : ∀ b, lo ≤ b → b < w.heap.size → w'.heap[b]? = w.heap[b]?) (hl : lo' ≤ lo) : TwFlows w' lo' l s := by
  obtain ⟨b, cap, sl, rfl, h1, h2, h3, h4, h5, h6, h7⟩ := h
  exact ⟨b, cap, sl, rfl, by omega, h2, h3, h4, fun i hi => (h5 i hi).carry hb h1, h6.carry hb h1, fun i hi => Tw.carryN hb hl _ _ _ (Nat.le_refl _) (h7 i hi)⟩
theorem TwIns.at {w : World} {lo : Nat} {l : List Hd} {s : Value} (h : TwIns w lo l s) : InsAt w l s := by
  obtain ⟨b, cap, rfl, h1, h2, h3, h4, h5, h6⟩ := h
  exact ⟨_, cap, rfl, h2, by omega, h4, .inr ⟨b, 0, rfl, fun i hi => by simpa using h5 i hi⟩⟩
theorem TwTexts.at {w : World} {lo : Nat} {l : List ByteArray} {s : Value} (h : TwTexts w lo l s) : TextsAt w l s := by
  obtain ⟨b, cap, rfl, h1, h2, h3, h4, h5, h6⟩ := h
  exact ⟨_, cap, rfl, h2, by omega, h4, .inr ⟨b, 0, rfl, fun i hi => by simpa using h5 i hi⟩⟩
theorem TwFlows.at {w : World} {lo : Nat} {l : List Fl} {s : Value} (h : TwFlows w lo l s) : FlowsAt w l s := by
  obtain ⟨b, cap, sl, rfl, h1, h2, h3, h4, h5, h6, h7⟩ := h
  exact ⟨_, cap, sl, rfl, h2, by omega, h4, .inr ⟨b, 0, rfl, fun i hi => by simpa using h5 i hi⟩, fun i hi => (h7 i hi).st⟩
/-- A twin of a program. -/
structure TwPg (w : World) (lo : Nat) (p : Pg) (a b c : Value) : Prop where
  st : -9223372036854775808 ≤ p.st ∧ p.st ≤ 9223372036854775807
  ins : TwIns w lo p.ins a
  flows : TwFlows w lo p.flows b
  outs : TwTexts w lo p.outs c
theorem TwPg.carry {w w' : World} {lo lo' : Nat} {p : Pg} {a b c : Value} (h : TwPg w lo p a b c) (hb : ∀ b, lo ≤ b → b < w.heap.size → w'.heap[b]? = w.heap[b]?) (hl : lo' ≤ lo) : TwPg w' lo' p a b c :=
  ⟨h.st, h.ins.carry hb hl, h.flows.carry hb hl, h.outs.carry hb hl⟩
theorem TwPg.keep {w w' : World} {lo : Nat} {p : Pg} {a b c : Value} (h : TwPg w lo p a b c) (hb : Below w.heap.size w w') : TwPg w' lo p a b c := h.carry (fun b _ hlt => hb.block b hlt) (Nat.le_refl _)
theorem TwPg.at {w : World} {lo : Nat} {p : Pg} {a b c : Value} (h : TwPg w lo p a b c) : PgAt w p a b c := ⟨h.st, h.ins.at, h.flows.at, h.outs.at⟩
/-! ### A row that is made -/
theorem flat_at {c : Nat} : ∀ {es : List (List Value)} {i : Nat} {e : List Value} {j : Nat} {rest : List Value}, (∀ e ∈ es, e.length = c) → es[i]? = some e → j < c → (es.flatten ++ rest)[i * c + j]? = e[j]?
  | [], i, e, j, rest, _, h, _ => by simp at h
  | x :: es, 0, e, j, rest, hl, h, hj => by
    simp at h
    subst h
    have := hl x (by simp)
    rw [List.flatten_cons, List.append_assoc, List.getElem?_append_left (by omega)]
    simp
  | x :: es, i + 1, e, j, rest, hl, h, hj => by
    have hx := hl x (by simp)
    rw [List.flatten_cons, List.append_assoc, List.getElem?_append_right (by rw [hx, Nat.add_mul]; omega), hx, show (i + 1) * c + j - c = i * c + j by rw [Nat.add_mul]; omega]
    exact flat_at (fun e he => hl e (by simp [he])) (by simpa using h) hj
theorem flat_len {c : Nat} : ∀ {es : List (List Value)}, (∀ e ∈ es, e.length = c) → es.flatten.length = es.length * c
  | [], _ => by simp
  | x :: es, hl => by
    have hx := hl x (by simp)
    rw [List.flatten_cons, List.length_append, flat_len (fun e he => hl e (by simp [he])), hx, List.length_cons, Nat.add_mul]
    omega
/-- While a row is made. -/
structure MkR (w : World) (t c n : Nat) (es : List (List Value)) (W : World) : Prop where
  below : Below w.heap.size w W
  row : W.ownsRow w.heap.size t c (.slice (some ⟨w.heap.size, 0, none⟩) es.length (n + 1)) es.length es.flatten
  each : ∀ e ∈ es, e.length = c
  size : w.heap.size < W.heap.size
theorem MkR.start {w w1 : World} {t c n : Nat} (hown : w1.ownsRow w.heap.size t c (.slice (some ⟨w.heap.size, 0, none⟩) 0 (n + 1)) 0 []) (hg : w.grownBy w1 none) : MkR w t c n [] w1 where
  below := (Below.refl _ _).grown hg (Nat.le_refl _) (fun k hk => by cases hk)
  row := hown
  each := fun p hp => by cases hp
  size := by
    rcases hown.2 with ⟨h, _⟩ | ⟨g, c, cur, e, _, hh, _⟩
    · cases h
    · injection e with e1 _ _
      injection e1 with e1
      injection e1 with e1 _ _
      subst e1
      exact (Array.getElem?_eq_some_iff.1 hh).1
theorem MkR.step {w W W' : World} {t c n : Nat} {es : List (List Value)} (h : MkR w t c n es W) (hb : Below W.heap.size W W') : MkR w t c n es W' :=
  ⟨bstep h.below hb, by
    have hr := h.row
    refine ⟨hr.1, ?_⟩
    rcases hr.2 with hn | ⟨g, cap, cur, e, hg0, hg, rest⟩
    · exact .inl hn
    · exact .inr ⟨g, cap, cur, e, hg0, (hb.block g (Array.getElem?_eq_some_iff.1 hg).1).trans hg, rest⟩, h.each, Nat.lt_of_lt_of_le h.size hb.size⟩
theorem MkR.grow {w W W' : World} {t c n k : Nat} {es : List (List Value)} {e : List Value} (h : MkR w t c n es W) (hk : es.length = k) (he : e.length = c)
    (hr : W'.ownsRow w.heap.size t c (.slice (some ⟨w.heap.size, 0, none⟩) (k + 1) (n + 1)) (k + 1) (es.flatten ++ e)) (hg : W.grownBy W' (some w.heap.size)) : MkR w t c n (es ++ [e]) W' where
  below := h.below.grown hg h.below.size (fun j hj => by cases hj; exact Nat.le_refl _)
  row := by
    have e1 : (es ++ [e]).length = k + 1 := by simp [hk]
    have e2 : (es ++ [e]).flatten = es.flatten ++ e := by simp
    rw [e1, e2]; exact hr
  each := fun p hp => by
    rcases List.mem_append.1 hp with hp | hp
    · exact h.each p hp
    · rw [List.mem_singleton.1 hp]; exact he
  size := Nat.lt_of_lt_of_le h.size hg.size
/-- The cells of a row that was made, with the mark behind it. -/
theorem MkR.cells {w W' : World} {t c n k : Nat} {es : List (List Value)} {sp : List Value} (hl : ∀ e ∈ es, e.length = c) (hk : es.length = k) (hsp : sp.length = c)
    (hr : W'.ownsRow w.heap.size t c (.slice (some ⟨w.heap.size, 0, none⟩) (k + 1) (n + 1)) (k + 1) (es.flatten ++ sp)) :
    (∀ i e j v, es[i]? = some e → e[j]? = some v → W'.cell? ⟨w.heap.size, i * c + j, none⟩ = some v) ∧ ∀ j v, sp[j]? = some v → W'.cell? ⟨w.heap.size, k * c + j, none⟩ = some v := by
  have lt : ∀ {l : List Value} {j : Nat} {v : Value}, l[j]? = some v → j < l.length := fun h => (List.getElem?_eq_some_iff.1 h).1
  refine ⟨fun i e j v he hj => ?_, fun j v hj => ?_⟩
  · have hi : i < es.length := (List.getElem?_eq_some_iff.1 he).1
    have hj' := lt hj
    have hec := hl e (List.mem_of_getElem? he)
    have hb : i * c + j < (k + 1) * c := by
      have : (i + 1) * c ≤ k * c := Nat.mul_le_mul_right c (by omega)
      rw [Nat.add_mul] at this ⊢
      omega
    rw [hr.cellAt _ hb, flat_at hl he (by omega)]
    exact hj
  · have hj' := lt hj
    have hb : k * c + j < (k + 1) * c := by rw [Nat.add_mul]; omega
    rw [hr.cellAt _ hb, List.getElem?_append_right (by rw [flat_len hl, hk]; omega), flat_len hl, hk, show k * c + j - k * c = j by omega]
    exact hj
theorem next_cells (w : World) (l : List Value) (t : TypeId) : ∀ j u, l[j]? = some u → (w.alloc (.cells l.toArray t)).cell? ((⟨w.heap.size, 0, none⟩ : Addr).add j) = some u := by
  intro j u hj
  have hadd : (⟨w.heap.size, 0, none⟩ : Addr).add j = ⟨w.heap.size, j, none⟩ := by unfold Addr.add; split <;> simp_all
  rw [hadd, World.cell?_alloc_at _ _ _ _ rfl]
  simpa using hj
abbrev hdL (x : Hd) : List Value := [.string x.name, .int .u8 (x.ty : Int), .int .i64 x.st]
abbrev flL (x : Fl) (s : Value) : List Value := [.string x.name, .int .u8 (x.ty : Int), .int .i64 x.st, .int .i64 x.df, .int .u8 (x.body.op : Int), .int .i64 x.body.n, .string x.body.name, s]
end Go.Proofs.Ytilpoiihoikhlaa.Lex
