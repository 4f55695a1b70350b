/-
  The chapter's program with its flow twice: what is there behind the append.
  The twin of a program's rows: new memory, with a mark behind each row.
  The contracts of TwinFlow and TwinFlows.
  Some answers that the document fixes: the contract of alive.
  How great a program is: whatever number is told, the calls return.
-/
import Derived.Test.YtilpoiihoikhlaaDoorK5
import Derived.Deep.AppendLies
import Derived.Deep.RegionLaw
import Derived.Test.YtilpoiihoikhlaaDoorK2
import Derived.Test.YtilpoiihoikhlaaDoorK1
namespace Go.Proofs.YtilpoiihoikhlaaDoor.Lex
open Go.ChangeShapes Go.WideShapes Go.ChangeAt Go.RowKit Go.Shelf
abbrev smC (b : Nat) : Array Value := #[.int .i64 smP.st, .slice (some ⟨b + 1 + 1 + 1, 0, none⟩) 1 1, .slice (some ⟨b + 1 + 1 + 1 + 1, 0, none⟩) 1 1, .slice (some ⟨b + 1 + 1 + 1 + 1 + 1, 0, none⟩) 1 1]
theorem Sm.own {W : World} {b : Nat} (h : Sm W b) : W.ownsRow 0 43 8 (.slice (some ⟨b + 1 + 1 + 1 + 1, 0, none⟩) 1 1) 1 (flC b).toList :=
  ⟨rfl, .inr ⟨b + 1 + 1 + 1 + 1, 1, flC b, rfl, Nat.zero_le _, h.flows, Nat.le_refl _, by unfold maxLen; omega, rfl, rfl⟩⟩
theorem two_flows {X : World} {b gg cap : Nat} {S : Value} (hS : St X bodyX S) (hown : X.ownsRow 0 43 8 (.slice (some ⟨gg, 0, none⟩) (1 + 1) cap) (1 + 1) ((flC b).toList ++ (flC b).toList)) (hSe : S = .slice (some ⟨b + 1, 0, none⟩) 2 2) : FlowsAt X [flX, flX] (.slice (some ⟨gg, 0, none⟩) 2 cap) := by
  have a : ∀ k, k < 16 → X.cell? ⟨gg, k, none⟩ = ((flC b).toList ++ (flC b).toList)[k]? := fun k hk => hown.cellAt k (by omega)
  have hcap : 2 ≤ cap := by
    rcases hown.2 with ⟨h, _⟩ | ⟨g, c2, cur, e, _, _, h, _⟩
    · cases h
    · injection e with _ _ e3; omega
  refine ⟨some ⟨gg, 0, none⟩, cap, fun _ => S, rfl, by decide, hcap, ?_, .inr ⟨gg, 0, rfl, fun i hi => ?_⟩, fun i hi => ?_⟩
  · intro x hx
    have : x = flX := by simpa using hx
    subst this
    exact flX_ok
  · subst hSe
    have hi' : i < 2 := hi
    match i, hi' with
    | 0, _ => exact ⟨(a 0 (by omega)).trans rfl, (a 1 (by omega)).trans rfl, (a 2 (by omega)).trans rfl, (a 3 (by omega)).trans rfl, (a 4 (by omega)).trans rfl, (a 5 (by omega)).trans rfl, (a 6 (by omega)).trans rfl, (a 7 (by omega)).trans rfl⟩
    | 1, _ => exact ⟨(a 8 (by omega)).trans rfl, (a 9 (by omega)).trans rfl, (a 10 (by omega)).trans rfl, (a 11 (by omega)).trans rfl, (a 12 (by omega)).trans rfl, (a 13 (by omega)).trans rfl, (a 14 (by omega)).trans rfl, (a 15 (by omega)).trans rfl⟩
  · have hi' : i < 2 := hi
    match i, hi' with
    | 0, _ => exact hS
    | 1, _ => exact hS
/-- What stands behind the append and its store. -/
structure TwoA (W5 : World) (b5 k5 gg cap : Nat) (X : World) : Prop where
  pg : PgAt X twoP (.slice (some ⟨b5 + 1 + 1 + 1, 0, none⟩) 1 1) (.slice (some ⟨gg, 0, none⟩) 2 cap) (.slice (some ⟨b5 + 1 + 1 + 1 + 1 + 1, 0, none⟩) 1 1)
  row : X.heap[k5]? = some (.cells #[.int .i64 smP.st, .slice (some ⟨b5 + 1 + 1 + 1, 0, none⟩) 1 1, .slice (some ⟨gg, 0, none⟩) 2 cap, .slice (some ⟨b5 + 1 + 1 + 1 + 1 + 1, 0, none⟩) 1 1] 26 (0, 0))
  same : ∀ j, j < b5 → X.heap[j]? = W5.heap[j]?
  size : W5.heap.size ≤ X.heap.size
  os : X.os = W5.os
  tape : X.tape = W5.tape
  output : X.output = W5.output
theorem two_done {W5 w6 : World} {b5 k5 gg cap : Nat} (hs : Sm W5 b5) (hr : W5.heap[k5]? = some (.cells (smC b5) 26 (0, 0))) (hk : b5 + 5 < k5)
    (hown : w6.ownsRow 0 43 8 (.slice (some ⟨gg, 0, none⟩) (1 + 1) cap) (1 + 1) ((flC b5).toList ++ (flC b5).toList)) (hg : W5.grownBy w6 (some (b5 + 1 + 1 + 1 + 1))) (hne : gg ≠ k5) :
    TwoA W5 b5 k5 gg cap (w6.setCell ⟨k5, 2, none⟩ (.slice (some ⟨gg, 0, none⟩) 2 cap)) := by
  have lk := (Array.getElem?_eq_some_iff.1 hr).1
  have hs6 : ∀ j, j < W5.heap.size → j ≠ b5 + 1 + 1 + 1 + 1 → j ≠ k5 → (w6.setCell ⟨k5, 2, none⟩ (.slice (some ⟨gg, 0, none⟩) 2 cap)).heap[j]? = W5.heap[j]? := fun j hj h1 h2 => by
    rw [show (w6.setCell ⟨k5, 2, none⟩ (.slice (some ⟨gg, 0, none⟩) 2 cap)).heap[j]? = w6.heap[j]? from Below.heap_setCell _ _ _ _ h2]
    exact hg.block j hj (by intro e; injection e with e; omega)
  have h6 : w6.heap[k5]? = some (.cells (smC b5) 26 (0, 0)) := (hg.block k5 lk (by intro e; injection e with e; omega)).trans hr
  have gX : w6.grownBy (w6.setCell ⟨k5, 2, none⟩ (.slice (some ⟨gg, 0, none⟩) 2 cap)) (some k5) := ⟨rfl, rfl, rfl, by simp, fun k _ h => Below.heap_setCell _ _ _ _ (fun e => h (by rw [e]))⟩
  have own6 := hown.kept gX (.inr (by simp [Value.ownBlock]; omega))
  have l1 := (Array.getElem?_eq_some_iff.1 hs.outs).1
  exact ⟨⟨by decide, ins_of ((hs6 _ (by omega) (by omega) (by omega)).trans hs.ins), two_flows (body_of ((hs6 _ (by omega) (by omega) (by omega)).trans hs.args)) own6 rfl, outs_of ((hs6 _ (by omega) (by omega) (by omega)).trans hs.outs)⟩,
    by rw [set_same h6]; rfl, fun j hj => hs6 j (by omega) (by omega) (by omega), Nat.le_trans hg.size gX.size, hg.os, hg.tape, hg.output⟩
end Go.Proofs.YtilpoiihoikhlaaDoor.Lex
namespace Go.Proofs.YtilpoiihoikhlaaDoor.Lex
open Go.ChangeShapes Go.WideShapes Go.ChangeAt Go.RowKit Go.Joins
abbrev spareFl : Fl := ⟨spare, 0, 0, 0, ⟨0, 0, ⟨#[]⟩, []⟩⟩
/-- A row's block: all of it may be written. -/
def Blk (w : World) (b t c cap : Nat) : Prop := ∃ cur : Array Value, w.heap[b]? = some (.cells cur t (0, 0)) ∧ cur.size = cap * c ∧ cap ≤ maxLen
/-- A twin of a row of heads, in a block from some one on. -/
def TwIns (w : World) (lo : Nat) (l : List Hd) (s : Value) : Prop :=
  ∃ (b cap : Nat), s = .slice (some ⟨b, 0, none⟩) l.length cap ∧ lo ≤ b ∧ l.length ≤ 4398046510976 ∧ l.length < cap ∧ (∀ x ∈ l, x.ok) ∧ (∀ i (h : i < l.length), HdCells w b (i * 3) l[i]) ∧ HdCells w b (l.length * 3) ⟨spare, 0, 0⟩ ∧ Blk w b 37 3 cap
/-- A twin of a row of flows. -/
def TwFlows (w : World) (lo : Nat) (l : List Fl) (s : Value) : Prop :=
  ∃ (b cap : Nat) (sl : Nat → Value), s = .slice (some ⟨b, 0, none⟩) l.length cap ∧ lo ≤ b ∧ l.length ≤ 1466015503658 ∧ l.length < cap ∧ (∀ x ∈ l, x.ok) ∧ (∀ i (h : i < l.length), FlCells w b (i * 8) l[i] (sl i)) ∧ FlCells w b (l.length * 8) spareFl (.slice none 0 0) ∧ (∀ i (h : i < l.length), Tw w (b + 1) l[i].body (sl i)) ∧ Blk w b 43 8 cap
/-- A twin of a row of texts. -/
def TwTexts (w : World) (lo : Nat) (l : List ByteArray) (s : Value) : Prop :=
  ∃ (b cap : Nat), s = .slice (some ⟨b, 0, none⟩) l.length cap ∧ lo ≤ b ∧ l.length ≤ 8796093021952 ∧ l.length < cap ∧ (∀ x ∈ l, x.size ≤ 140737488355328) ∧ (∀ i (h : i < l.length), w.cell? ⟨b, i, none⟩ = some (.string l[i])) ∧ w.cell? ⟨b, l.length, none⟩ = some (.string spare) ∧ Blk w b 9 1 cap
theorem cell_carry {w w' : World} {lo b o : Nat} {v : Value} (hb : ∀ b, lo ≤ b → b < w.heap.size → w'.heap[b]? = w.heap[b]?) (hlo : lo ≤ b) (h : w.cell? ⟨b, o, none⟩ = some v) : w'.cell? ⟨b, o, none⟩ = some v := by
  rw [World.cell?_of_block (w := w) (a := ⟨b, o, none⟩) (hb b hlo (World.block_lt_of_cell? w _ h))]
  exact h
theorem Blk.carry {w w' : World} {lo b t c cap : Nat} (h : Blk w b t c cap) (hb : ∀ b, lo ≤ b → b < w.heap.size → w'.heap[b]? = w.heap[b]?) (hlo : lo ≤ b) : Blk w' b t c cap := by
  obtain ⟨cur, h1, h2⟩ := h
  exact ⟨cur, (hb b hlo (Array.getElem?_eq_some_iff.1 h1).1).trans h1, h2⟩
theorem HdCells.carry {w w' : World} {lo b p : Nat} {x : Hd} (h : HdCells w b p x) (hb : ∀ b, lo ≤ b → b < w.heap.size → w'.heap[b]? = w.heap[b]?) (hlo : lo ≤ b) : HdCells w' b p x :=
  ⟨cell_carry hb hlo h.1, cell_carry hb hlo h.2.1, cell_carry hb hlo h.2.2⟩
theorem FlCells.carry {w w' : World} {lo b p : Nat} {x : Fl} {s : Value} (h : FlCells w b p x s) (hb : ∀ b, lo ≤ b → b < w.heap.size → w'.heap[b]? = w.heap[b]?) (hlo : lo ≤ b) : FlCells w' b p x s :=
  ⟨cell_carry hb hlo h.1, cell_carry hb hlo h.2.1, cell_carry hb hlo h.2.2.1, cell_carry hb hlo h.2.2.2.1, cell_carry hb hlo h.2.2.2.2.1, cell_carry hb hlo h.2.2.2.2.2.1, cell_carry hb hlo h.2.2.2.2.2.2.1, cell_carry hb hlo h.2.2.2.2.2.2.2⟩
theorem TwIns.carry {w w' : World} {lo lo' : Nat} {l : List Hd} {s : Value} (h : TwIns w lo l s) (hb : ∀ b, lo ≤ b → b < w.heap.size → w'.heap[b]? = w.heap[b]?) (hl : lo' ≤ lo) : TwIns w' lo' l s := by
  obtain ⟨b, cap, rfl, h1, h2, h3, h4, h5, h6, h8⟩ := h
  exact ⟨b, cap, rfl, by omega, h2, h3, h4, fun i hi => (h5 i hi).carry hb h1, h6.carry hb h1, h8.carry hb h1⟩
theorem TwTexts.carry {w w' : World} {lo lo' : Nat} {l : List ByteArray} {s : Value} (h : TwTexts w lo l s) (hb : ∀ b, lo ≤ b → b < w.heap.size → w'.heap[b]? = w.heap[b]?) (hl : lo' ≤ lo) : TwTexts w' lo' l s := by
  obtain ⟨b, cap, rfl, h1, h2, h3, h4, h5, h6, h8⟩ := h
  exact ⟨b, cap, rfl, by omega, h2, h3, h4, fun i hi => cell_carry hb h1 (h5 i hi), cell_carry hb h1 h6, h8.carry hb h1⟩
theorem TwFlows.carry {w w' : World} {lo lo' : Nat} {l : List Fl} {s : Value} (h : TwFlows w lo l s) (hb : ∀ b, lo ≤ b → b < w.heap.size → w'.heap[b]? = w.heap[b]?) (hl : lo' ≤ lo) : TwFlows w' lo' l s := by
  obtain ⟨b, cap, sl, rfl, h1, h2, h3, h4, h5, h6, h7, h8⟩ := h
  exact ⟨b, cap, sl, rfl, by omega, h2, h3, h4, fun i hi => (h5 i hi).carry hb h1, h6.carry hb h1, fun i hi => Tw.carryN (fun b' hb' hlt => hb b' (by omega) hlt) (Nat.le_refl _) _ _ _ (Nat.le_refl _) (h7 i hi), h8.carry hb h1⟩
theorem TwIns.at {w : World} {lo : Nat} {l : List Hd} {s : Value} (h : TwIns w lo l s) : InsAt w l s := by
  obtain ⟨b, cap, rfl, h1, h2, h3, h4, h5, h6⟩ := h
  exact ⟨_, cap, rfl, h2, by omega, h4, .inr ⟨b, 0, rfl, fun i hi => by simpa using h5 i hi⟩⟩
theorem TwTexts.at {w : World} {lo : Nat} {l : List ByteArray} {s : Value} (h : TwTexts w lo l s) : TextsAt w l s := by
  obtain ⟨b, cap, rfl, h1, h2, h3, h4, h5, h6⟩ := h
  exact ⟨_, cap, rfl, h2, by omega, h4, .inr ⟨b, 0, rfl, fun i hi => by simpa using h5 i hi⟩⟩
theorem TwFlows.at {w : World} {lo : Nat} {l : List Fl} {s : Value} (h : TwFlows w lo l s) : FlowsAt w l s := by
  obtain ⟨b, cap, sl, rfl, h1, h2, h3, h4, h5, h6, h7, h8⟩ := h
  exact ⟨_, cap, sl, rfl, h2, by omega, h4, .inr ⟨b, 0, rfl, fun i hi => by simpa using h5 i hi⟩, fun i hi => (h7 i hi).st⟩
/-- A twin of a program. -/
structure TwPg (w : World) (lo : Nat) (p : Pg) (a b c : Value) : Prop where
  st : -9223372036854775808 ≤ p.st ∧ p.st ≤ 9223372036854775807
  ins : TwIns w lo p.ins a
  flows : TwFlows w lo p.flows b
  outs : TwTexts w lo p.outs c
theorem TwPg.carry {w w' : World} {lo lo' : Nat} {p : Pg} {a b c : Value} (h : TwPg w lo p a b c) (hb : ∀ b, lo ≤ b → b < w.heap.size → w'.heap[b]? = w.heap[b]?) (hl : lo' ≤ lo) : TwPg w' lo' p a b c :=
  ⟨h.st, h.ins.carry hb hl, h.flows.carry hb hl, h.outs.carry hb hl⟩
theorem TwPg.keep {w w' : World} {lo : Nat} {p : Pg} {a b c : Value} (h : TwPg w lo p a b c) (hb : Below w.heap.size w w') : TwPg w' lo p a b c := h.carry (fun b _ hlt => hb.block b hlt) (Nat.le_refl _)
theorem TwPg.at {w : World} {lo : Nat} {p : Pg} {a b c : Value} (h : TwPg w lo p a b c) : PgAt w p a b c := ⟨h.st, h.ins.at, h.flows.at, h.outs.at⟩
/-! ### A row that is made -/
theorem flat_at {c : Nat} : ∀ {es : List (List Value)} {i : Nat} {e : List Value} {j : Nat} {rest : List Value}, (∀ e ∈ es, e.length = c) → es[i]? = some e → j < c → (es.flatten ++ rest)[i * c + j]? = e[j]?
  | [], i, e, j, rest, _, h, _ => by simp at h
  | x :: es, 0, e, j, rest, hl, h, hj => by
    simp at h
    subst h
    have := hl x (by simp)
    rw [List.flatten_cons, List.append_assoc, List.getElem?_append_left (by omega)]
    simp
  | x :: es, i + 1, e, j, rest, hl, h, hj => by
    have hx := hl x (by simp)
    rw [List.flatten_cons, List.append_assoc, List.getElem?_append_right (by rw [hx, Nat.add_mul]; omega), hx, show (i + 1) * c + j - c = i * c + j by rw [Nat.add_mul]; omega]
    exact flat_at (fun e he => hl e (by simp [he])) (by simpa using h) hj
theorem flat_len {c : Nat} : ∀ {es : List (List Value)}, (∀ e ∈ es, e.length = c) → es.flatten.length = es.length * c
  | [], _ => by simp
  | x :: es, hl => by
    have hx := hl x (by simp)
    rw [List.flatten_cons, List.length_append, flat_len (fun e he => hl e (by simp [he])), hx, List.length_cons, Nat.add_mul]
    omega
/-- While a row is made. -/
structure MkR (w : World) (t c n : Nat) (es : List (List Value)) (W : World) : Prop where
  below : Below w.heap.size w W
  row : W.ownsRow w.heap.size t c (.slice (some ⟨w.heap.size, 0, none⟩) es.length (n + 1)) es.length es.flatten
  each : ∀ e ∈ es, e.length = c
  size : w.heap.size < W.heap.size
theorem MkR.start {w w1 : World} {t c n : Nat} (hown : w1.ownsRow w.heap.size t c (.slice (some ⟨w.heap.size, 0, none⟩) 0 (n + 1)) 0 []) (hg : w.grownBy w1 none) : MkR w t c n [] w1 where
  below := (Below.refl _ _).grown hg (Nat.le_refl _) (fun k hk => by cases hk)
  row := hown
  each := fun p hp => by cases hp
  size := by
    rcases hown.2 with ⟨h, _⟩ | ⟨g, c, cur, e, _, hh, _⟩
    · cases h
    · injection e with e1 _ _
      injection e1 with e1
      injection e1 with e1 _ _
      subst e1
      exact (Array.getElem?_eq_some_iff.1 hh).1
theorem MkR.step {w W W' : World} {t c n : Nat} {es : List (List Value)} (h : MkR w t c n es W) (hb : Below W.heap.size W W') : MkR w t c n es W' :=
  ⟨bstep h.below hb, by
    have hr := h.row
    refine ⟨hr.1, ?_⟩
    rcases hr.2 with hn | ⟨g, cap, cur, e, hg0, hg, rest⟩
    · exact .inl hn
    · exact .inr ⟨g, cap, cur, e, hg0, (hb.block g (Array.getElem?_eq_some_iff.1 hg).1).trans hg, rest⟩, h.each, Nat.lt_of_lt_of_le h.size hb.size⟩
theorem MkR.grow {w W W' : World} {t c n k : Nat} {es : List (List Value)} {e : List Value} (h : MkR w t c n es W) (hk : es.length = k) (he : e.length = c)
    (hr : W'.ownsRow w.heap.size t c (.slice (some ⟨w.heap.size, 0, none⟩) (k + 1) (n + 1)) (k + 1) (es.flatten ++ e)) (hg : W.grownBy W' (some w.heap.size)) : MkR w t c n (es ++ [e]) W' where
  below := h.below.grown hg h.below.size (fun j hj => by cases hj; exact Nat.le_refl _)
  row := by
    have e1 : (es ++ [e]).length = k + 1 := by simp [hk]
    have e2 : (es ++ [e]).flatten = es.flatten ++ e := by simp
    rw [e1, e2]; exact hr
  each := fun p hp => by
    rcases List.mem_append.1 hp with hp | hp
    · exact h.each p hp
    · rw [List.mem_singleton.1 hp]; exact he
  size := Nat.lt_of_lt_of_le h.size hg.size
theorem Blk.of_row {W : World} {lo t c g n cap : Nat} {xs : List Value} (h : W.ownsRow lo t c (.slice (some ⟨g, 0, none⟩) n cap) n xs) : Blk W g t c cap := by
  rcases h.2 with ⟨h, _⟩ | ⟨g', c', cur, e, _, hh, _, h1, h2, _⟩
  · cases h
  · injection e with e1 _ e3
    injection e1 with e1
    injection e1 with e1 _ _
    subst e1 e3
    exact ⟨cur, hh, h2, h1⟩
/-- The cells of a row that was made, with the mark behind it. -/
theorem MkR.cells {w W' : World} {t c n k : Nat} {es : List (List Value)} {sp : List Value} (hl : ∀ e ∈ es, e.length = c) (hk : es.length = k) (hsp : sp.length = c)
    (hr : W'.ownsRow w.heap.size t c (.slice (some ⟨w.heap.size, 0, none⟩) (k + 1) (n + 1)) (k + 1) (es.flatten ++ sp)) :
    (∀ i e j v, es[i]? = some e → e[j]? = some v → W'.cell? ⟨w.heap.size, i * c + j, none⟩ = some v) ∧ ∀ j v, sp[j]? = some v → W'.cell? ⟨w.heap.size, k * c + j, none⟩ = some v := by
  have lt : ∀ {l : List Value} {j : Nat} {v : Value}, l[j]? = some v → j < l.length := fun h => (List.getElem?_eq_some_iff.1 h).1
  refine ⟨fun i e j v he hj => ?_, fun j v hj => ?_⟩
  · have hi : i < es.length := (List.getElem?_eq_some_iff.1 he).1
    have hj' := lt hj
    have hec := hl e (List.mem_of_getElem? he)
    have hb : i * c + j < (k + 1) * c := by
      have : (i + 1) * c ≤ k * c := Nat.mul_le_mul_right c (by omega)
      rw [Nat.add_mul] at this ⊢
      omega
    rw [hr.cellAt _ hb, flat_at hl he (by omega)]
    exact hj
  · have hj' := lt hj
    have hb : k * c + j < (k + 1) * c := by rw [Nat.add_mul]; omega
    rw [hr.cellAt _ hb, List.getElem?_append_right (by rw [flat_len hl, hk]; omega), flat_len hl, hk, show k * c + j - k * c = j by omega]
    exact hj
theorem next_cells (w : World) (l : List Value) (t : TypeId) : ∀ j u, l[j]? = some u → (w.alloc (.cells l.toArray t)).cell? ((⟨w.heap.size, 0, none⟩ : Addr).add j) = some u := by
  intro j u hj
  have hadd : (⟨w.heap.size, 0, none⟩ : Addr).add j = ⟨w.heap.size, j, none⟩ := by unfold Addr.add; split <;> simp_all
  rw [hadd, World.cell?_alloc_at _ _ _ _ rfl]
  simpa using hj
abbrev hdL (x : Hd) : List Value := [.string x.name, .int .u8 (x.ty : Int), .int .i64 x.st]
abbrev flL (x : Fl) (s : Value) : List Value := [.string x.name, .int .u8 (x.ty : Int), .int .i64 x.st, .int .i64 x.df, .int .u8 (x.body.op : Int), .int .i64 x.body.n, .string x.body.name, s]
end Go.Proofs.YtilpoiihoikhlaaDoor.Lex
namespace Go.Proofs.YtilpoiihoikhlaaDoor.Lex
open Go.ChangeShapes Go.WideShapes Go.ChangeAt Go.RowKit Go.Joins
theorem info50 : (Tryd.prog.info? 43).map (·.size) = some 8 := by kernel_rfl
theorem info50' : (Tryd.prog.info? 43).map (fun i => (i.zero, i.size, i.bytes)) = some (some (.agg #[.string ByteArray.empty, .int .u8 0, .int .i64 0, .int .i64 0, .int .u8 0, .int .i64 0, .string ByteArray.empty, .slice none 0 0]), 8, 96) := by kernel_rfl
set_option maxRecDepth 100000 in
set_option maxHeartbeats 1000000 in
theorem twin_flow (x : Fl) (w : World) (s : Value) (hS : St w x.body s) :
    Calls Tryd.prog 38 #[flV x s] w fun e w' => ∃ s', e = .returned (flV x s') ∧ Tw w' w.heap.size x.body s' ∧ Below w.heap.size w w' := by
  obtain ⟨ao, cap, sl, rfl, _⟩ := hS.out
  have b1 := (Below.refl w.heap.size w).alloc (Nat.le_refl _) (.cells #[.string x.name, .int .u8 (x.ty : Int), .int .i64 x.st, .int .i64 x.df, .int .u8 (x.body.op : Int), .int .i64 x.body.n, .string x.body.name, .slice ao x.body.args.length cap] 43)
  have b2 := bstep b1 ((Below.refl _ _).alloc (Nat.le_refl _) (.cells #[.string ByteArray.empty, .int .u8 0, .int .i64 0, .int .i64 0, .int .u8 0, .int .i64 0, .string ByteArray.empty, .slice none 0 0] 43))
  have c := fun W (hb : Below w.heap.size w W) => twin_any _ x.body (Nat.le_refl _) W _ (hS.keep hb)
  have H2 := hid b2
  have B0 := box_first w #[.string x.name, .int .u8 (x.ty : Int), .int .i64 x.st, .int .i64 x.df, .int .u8 (x.body.op : Int), .int .i64 x.body.n, .string x.body.name, .slice ao x.body.args.length cap] #[.string ByteArray.empty, .int .u8 0, .int .i64 0, .int .i64 0, .int .u8 0, .int .i64 0, .string ByteArray.empty, .slice none 0 0] 43
  clear hS b1 b2
  go_enter Tryd.func38, Tryd.ntmps38
  go_wp2
  refine wp_region_held_drew (S := fun W => W.cell? ⟨w.heap.size, 0, none⟩ = some (.string x.name) ∧ W.cell? ⟨w.heap.size, 1, none⟩ = some (.int .u8 (x.ty : Int)) ∧ W.cell? ⟨w.heap.size, 2, none⟩ = some (.int .i64 x.st) ∧ W.cell? ⟨w.heap.size, 3, none⟩ = some (.int .i64 x.df) ∧ W.cell? ⟨w.heap.size, 4, none⟩ = some (.int .u8 (x.body.op : Int)) ∧ W.cell? ⟨w.heap.size, 5, none⟩ = some (.int .i64 x.body.n) ∧ W.cell? ⟨w.heap.size, 6, none⟩ = some (.string x.body.name) ∧ W.cell? ⟨w.heap.size, 7, none⟩ = some (.slice ao x.body.args.length cap)) (by kernel_rfl) ?_ (fun hHeld => ?_)
  · exact ⟨B0 0 _ rfl, B0 1 _ rfl, B0 2 _ rfl, B0 3 _ rfl, B0 4 _ rfl, B0 5 _ rfl, B0 6 _ rfl, B0 7 _ rfl⟩
  refine wpAnyH_take (i := 0) (oi := { dst := some 3, op := Go.Op.fieldAddr 43 (Go.Operand.tmp 1) 0, type := 0, pos := _, after := #[], guard := none }) (v := ?_) rfl (by kernel_rfl) (by kernel_rfl) (by kernel_rfl) (fun _ _ _ h => h) (Or.inl ⟨by rfl, ?_⟩) (by assumption) ?_
  rotate_left
  · intro w hSw; (try dsimp only at hSw); go_simp <;> first | with_reducible rfl | (rw [if_neg (by first | omega | (simp only [ByteArray.size_append] at *; omega))])
  simp only [Act.put, List.setIfInBounds_toArray, List.set_cons_zero, List.set_cons_succ]
  refine wpAnyH_take (i := 1) (oi := { dst := some 4, op := Go.Op.load 9 (Go.Operand.tmp 3), type := 9, pos := _, after := #[{ on := 0, ground := Go.Ground.data }], guard := none }) (v := ?_) rfl (by kernel_rfl) (by kernel_rfl) (by kernel_rfl) (fun _ _ _ h => h) (Or.inl ⟨by rfl, ?_⟩) (by assumption) ?_
  rotate_left
  · intro w hSw; (try dsimp only at hSw); go_simp <;> first | with_reducible rfl | (rw [if_neg (by first | omega | (simp only [ByteArray.size_append] at *; omega))])
  simp only [Act.put, List.setIfInBounds_toArray, List.set_cons_zero, List.set_cons_succ]
  refine wpAnyH_take (i := 2) (oi := { dst := some 5, op := Go.Op.fieldAddr 43 (Go.Operand.tmp 1) 1, type := 0, pos := _, after := #[], guard := none }) (v := ?_) rfl (by kernel_rfl) (by kernel_rfl) (by kernel_rfl) (fun _ _ _ h => h) (Or.inl ⟨by rfl, ?_⟩) (by assumption) ?_
  rotate_left
  · intro w hSw; (try dsimp only at hSw); go_simp <;> first | with_reducible rfl | (rw [if_neg (by first | omega | (simp only [ByteArray.size_append] at *; omega))])
  simp only [Act.put, List.setIfInBounds_toArray, List.set_cons_zero, List.set_cons_succ]
  refine wpAnyH_take (i := 3) (oi := { dst := some 6, op := Go.Op.load 33 (Go.Operand.tmp 5), type := 33, pos := _, after := #[{ on := 2, ground := Go.Ground.data }], guard := none }) (v := ?_) rfl (by kernel_rfl) (by kernel_rfl) (by kernel_rfl) (fun _ _ _ h => h) (Or.inl ⟨by rfl, ?_⟩) (by assumption) ?_
  rotate_left
  · intro w hSw; (try dsimp only at hSw); go_simp <;> first | with_reducible rfl | (rw [if_neg (by first | omega | (simp only [ByteArray.size_append] at *; omega))])
  simp only [Act.put, List.setIfInBounds_toArray, List.set_cons_zero, List.set_cons_succ]
  refine wpAnyH_take (i := 4) (oi := { dst := some 7, op := Go.Op.fieldAddr 43 (Go.Operand.tmp 1) 2, type := 0, pos := _, after := #[], guard := none }) (v := ?_) rfl (by kernel_rfl) (by kernel_rfl) (by kernel_rfl) (fun _ _ _ h => h) (Or.inl ⟨by rfl, ?_⟩) (by assumption) ?_
  rotate_left
  · intro w hSw; (try dsimp only at hSw); go_simp <;> first | with_reducible rfl | (rw [if_neg (by first | omega | (simp only [ByteArray.size_append] at *; omega))])
  simp only [Act.put, List.setIfInBounds_toArray, List.set_cons_zero, List.set_cons_succ]
  refine wpAnyH_take (i := 5) (oi := { dst := some 8, op := Go.Op.load 3 (Go.Operand.tmp 7), type := 3, pos := _, after := #[{ on := 4, ground := Go.Ground.data }], guard := none }) (v := ?_) rfl (by kernel_rfl) (by kernel_rfl) (by kernel_rfl) (fun _ _ _ h => h) (Or.inl ⟨by rfl, ?_⟩) (by assumption) ?_
  rotate_left
  · intro w hSw; (try dsimp only at hSw); go_simp <;> first | with_reducible rfl | (rw [if_neg (by first | omega | (simp only [ByteArray.size_append] at *; omega))])
  simp only [Act.put, List.setIfInBounds_toArray, List.set_cons_zero, List.set_cons_succ]
  refine wpAnyH_take (i := 6) (oi := { dst := some 9, op := Go.Op.fieldAddr 43 (Go.Operand.tmp 1) 3, type := 0, pos := _, after := #[], guard := none }) (v := ?_) rfl (by kernel_rfl) (by kernel_rfl) (by kernel_rfl) (fun _ _ _ h => h) (Or.inl ⟨by rfl, ?_⟩) (by assumption) ?_
  rotate_left
  · intro w hSw; (try dsimp only at hSw); go_simp <;> first | with_reducible rfl | (rw [if_neg (by first | omega | (simp only [ByteArray.size_append] at *; omega))])
  simp only [Act.put, List.setIfInBounds_toArray, List.set_cons_zero, List.set_cons_succ]
  refine wpAnyH_take (i := 7) (oi := { dst := some 10, op := Go.Op.load 2 (Go.Operand.tmp 9), type := 2, pos := _, after := #[{ on := 6, ground := Go.Ground.data }], guard := none }) (v := ?_) rfl (by kernel_rfl) (by kernel_rfl) (by kernel_rfl) (fun _ _ _ h => h) (Or.inl ⟨by rfl, ?_⟩) (by assumption) ?_
  rotate_left
  · intro w hSw; (try dsimp only at hSw); go_simp <;> first | with_reducible rfl | (rw [if_neg (by first | omega | (simp only [ByteArray.size_append] at *; omega))])
  simp only [Act.put, List.setIfInBounds_toArray, List.set_cons_zero, List.set_cons_succ]
  refine wpAnyH_take (i := 8) (oi := { dst := some 11, op := Go.Op.fieldAddr 43 (Go.Operand.tmp 1) 4, type := 0, pos := _, after := #[], guard := none }) (v := ?_) rfl (by kernel_rfl) (by kernel_rfl) (by kernel_rfl) (fun _ _ _ h => h) (Or.inl ⟨by rfl, ?_⟩) (by assumption) ?_
  rotate_left
  · intro w hSw; (try dsimp only at hSw); go_simp <;> first | with_reducible rfl | (rw [if_neg (by first | omega | (simp only [ByteArray.size_append] at *; omega))])
  simp only [Act.put, List.setIfInBounds_toArray, List.set_cons_zero, List.set_cons_succ]
  refine wpAnyH_take (i := 9) (oi := { dst := some 12, op := Go.Op.load 41 (Go.Operand.tmp 11), type := 41, pos := _, after := #[{ on := 8, ground := Go.Ground.data }], guard := none }) (v := ?_) rfl (by kernel_rfl) (by kernel_rfl) (by kernel_rfl) (fun _ _ _ h => h) (Or.inl ⟨by rfl, ?_⟩) (by assumption) ?_
  rotate_left
  · intro w hSw; (try dsimp only at hSw); go_simp <;> first | with_reducible rfl | (rw [if_neg (by first | omega | (simp only [ByteArray.size_append] at *; omega))])
  simp only [Act.put, List.setIfInBounds_toArray, List.set_cons_zero, List.set_cons_succ]
  refine wpAnyH_ready (rs := [10]) (by kernel_rfl) (by simp) ?_
  refine AllReadyH.cons (o := { dst := some 13, op := Go.Op.call { callee := Go.Callee.value (Go.Operand.func 54), args := #[Go.Operand.tmp 12], argTypes := #[41] }, type := 41, pos := _, after := #[{ on := 9, ground := Go.Ground.data }], guard := none }) rfl (fun K hK => ?_) AllReadyH.nil
  go_simp
  refine (c _ H2.out.drew).mono ?_
  rintro e w3 ⟨s3, rfl, ht3, hb3⟩
  obtain ⟨t3, c3, _, rfl, _⟩ := ht3.st.out
  obtain ⟨p1, p2, p3⟩ := two_boxes w w3 _ _ 43 hb3
  go_wp2_with fail
  refine hK.out _ _ ?_ (fun hHeld1 => ?_)
  · exact ⟨p1 0 _ rfl, p1 1 _ rfl, p1 2 _ rfl, p1 3 _ rfl, p1 4 _ rfl, p1 5 _ rfl, p1 6 _ rfl, p1 7 _ rfl⟩
  clear hK K
  refine wpAnyH_take (i := 11) (oi := { dst := some 14, op := Go.Op.build 43 #[(0, Go.Operand.tmp 4), (1, Go.Operand.tmp 6), (2, Go.Operand.tmp 8), (3, Go.Operand.tmp 10), (4, Go.Operand.tmp 13)], type := 43, pos := _, after := #[{ on := 1, ground := Go.Ground.data }, { on := 3, ground := Go.Ground.data }, { on := 5, ground := Go.Ground.data }, { on := 7, ground := Go.Ground.data }, { on := 10, ground := Go.Ground.data }], guard := none }) (v := ?_) rfl (by kernel_rfl) (by kernel_rfl) (by kernel_rfl) (fun _ _ _ h => h) (Or.inl ⟨by rfl, ?_⟩) (by assumption) ?_
  rotate_left
  · intro w hSw; (try dsimp only at hSw); go_simp <;> first | with_reducible rfl | (rw [if_neg (by first | omega | (simp only [ByteArray.size_append] at *; omega))])
  simp only [Act.put, List.setIfInBounds_toArray, List.set_cons_zero, List.set_cons_succ]
  refine wpAnyH_ready (rs := [12]) (by kernel_rfl) (by simp) ?_
  refine AllReadyH.cons (o := { dst := none, op := Go.Op.store 43 (Go.Operand.tmp 2) (Go.Operand.tmp 14), type := 0, pos := _, after := #[{ on := 11, ground := Go.Ground.data }, { on := 10, ground := Go.Ground.chain }, { on := 0, ground := Go.Ground.phase }, { on := 1, ground := Go.Ground.phase }, { on := 2, ground := Go.Ground.phase }, { on := 3, ground := Go.Ground.phase }, { on := 4, ground := Go.Ground.phase }, { on := 5, ground := Go.Ground.phase }, { on := 6, ground := Go.Ground.phase }, { on := 7, ground := Go.Ground.phase }, { on := 8, ground := Go.Ground.phase }, { on := 9, ground := Go.Ground.phase }, { on := 10, ground := Go.Ground.phase }, { on := 11, ground := Go.Ground.phase }], guard := none }) rfl (fun K hK => ?_) AllReadyH.nil
  refine if_take (by rfl) ?_
  refine wp_store_row 43 _ _ rfl (w.heap.size + 1) #[.string x.name, .int .u8 (x.ty : Int), .int .i64 x.st, .int .i64 x.df, .int .u8 (x.body.op : Int), .int .i64 x.body.n, .string x.body.name, .slice t3 x.body.args.length c3] rfl rfl 43 _ p3 info50 rfl (by simp [Value.oneCell']) ?_
  refine hK.out _ _ ?_ (fun _ => ?_)
  · have hne : w.heap.size ≠ w.heap.size + 1 := by omega
    have kk : ∀ j v, w3.cell? ⟨w.heap.size, j, none⟩ = some v → (w3.setRow (w.heap.size + 1) #[.string x.name, .int .u8 (x.ty : Int), .int .i64 x.st, .int .i64 x.df, .int .u8 (x.body.op : Int), .int .i64 x.body.n, .string x.body.name, .slice t3 x.body.args.length c3]).cell? ⟨w.heap.size, j, none⟩ = some v := fun j v h => by
      rw [World.cell?_of_block (w := w3) (a := ⟨w.heap.size, j, none⟩) (setRow_other w3 _ _ _ hne)]
      exact h
    exact ⟨kk _ _ (p1 0 _ rfl), kk _ _ (p1 1 _ rfl), kk _ _ (p1 2 _ rfl), kk _ _ (p1 3 _ rfl), kk _ _ (p1 4 _ rfl), kk _ _ (p1 5 _ rfl), kk _ _ (p1 6 _ rfl), kk _ _ (p1 7 _ rfl)⟩
  clear hK K
  refine wpAnyH_done (by kernel_rfl) ?_ _
  go_wp2
  refine bodyPost_ret (results_cell_row rfl _ _ (w.heap.size + 1) 43 #[.string x.name, .int .u8 (x.ty : Int), .int .i64 x.st, .int .i64 x.df, .int .u8 (x.body.op : Int), .int .i64 x.body.n, .string x.body.name, .slice t3 x.body.args.length c3] (0, 0) _ rfl (setRow_heap _ _ _ _ _ _ p3) Tryd.underlying43 rfl info50) rfl ⟨_, rfl, ?_, ?_⟩
  · have hlo : w.heap.size + 2 ≤ (((w.alloc (.cells #[.string x.name, .int .u8 (x.ty : Int), .int .i64 x.st, .int .i64 x.df, .int .u8 (x.body.op : Int), .int .i64 x.body.n, .string x.body.name, .slice ao x.body.args.length cap] 43)).alloc (.cells #[.string ByteArray.empty, .int .u8 0, .int .i64 0, .int .i64 0, .int .u8 0, .int .i64 0, .string ByteArray.empty, .slice none 0 0] 43)).drew).heap.size := by simp
    exact (ht3.carry fun b hb _ => setRow_other w3 _ _ _ (by have := hb; omega)).low (by omega)
  · exact below_row (bstep H2.out.drew hb3) (by have := (bstep H2.out.drew hb3).size; omega) (by omega) _
/-- While the flows' row is made. -/
structure MkF (w : World) (l : List Fl) (k : Nat) (ps : List (Fl × Value)) (W : World) : Prop where
  made : MkR w 43 8 l.length (ps.map fun (p : Fl × Value) => flL p.1 p.2) W
  len : ps.length = k
  fst : ps.map (·.1) = l.take k
  parts : ∀ p ∈ ps, Tw W (w.heap.size + 1) p.1.body p.2
theorem MkF.step {w W W' : World} {l : List Fl} {k : Nat} {ps : List (Fl × Value)} (h : MkF w l k ps W) (hb : Below W.heap.size W W') : MkF w l k ps W' :=
  ⟨h.made.step hb, h.len, h.fst, fun p hp => (h.parts p hp).keep hb⟩
theorem MkF.row {w W : World} {l : List Fl} {k : Nat} {ps : List (Fl × Value)} (h : MkF w l k ps W) : W.ownsRow w.heap.size 43 8 (.slice (some ⟨w.heap.size, 0, none⟩) k (l.length + 1)) k (ps.map fun (p : Fl × Value) => flL p.1 p.2).flatten := by
  have := h.made.row
  rwa [List.length_map, h.len] at this
theorem MkF.grow {w W W' : World} {l : List Fl} {k : Nat} {ps : List (Fl × Value)} {y : Fl} {s : Value} (h : MkF w l k ps W) (hk : k < l.length) (hy : l[k] = y) (hT : Tw W (w.heap.size + 1) y.body s)
    (hr : W'.ownsRow w.heap.size 43 8 (.slice (some ⟨w.heap.size, 0, none⟩) (k + 1) (l.length + 1)) (k + 1) ((ps.map fun (p : Fl × Value) => flL p.1 p.2).flatten ++ flL y s)) (hg : W.grownBy W' (some w.heap.size)) : MkF w l (k + 1) (ps ++ [(y, s)]) W' where
  made := by
    have := h.made.grow (by rw [List.length_map, h.len]) rfl hr hg
    simpa using this
  len := by simp [h.len]
  fst := by rw [List.map_append, h.fst, List.take_succ_eq_append_getElem hk, hy]; rfl
  parts := fun p hp => by
    rcases List.mem_append.1 hp with hp | hp
    · exact (h.parts p hp).grown hg (by omega)
    · rw [List.mem_singleton.1 hp]; exact hT.grown hg (by omega)
theorem MkF.done {w W W' : World} {l : List Fl} {ps : List (Fl × Value)} (h : MkF w l l.length ps W) (hlen : l.length ≤ 1466015503658) (hok : ∀ x ∈ l, x.ok)
    (hr : W'.ownsRow w.heap.size 43 8 (.slice (some ⟨w.heap.size, 0, none⟩) (l.length + 1) (l.length + 1)) (l.length + 1) ((ps.map fun (p : Fl × Value) => flL p.1 p.2).flatten ++ flL spareFl (.slice none 0 0))) (hg : W.grownBy W' (some w.heap.size)) :
    TwFlows W' w.heap.size l (.slice (some ⟨w.heap.size, 0, none⟩) l.length (l.length + 1)) := by
  have hl := h.len
  have hf : ps.map (·.1) = l := by rw [h.fst, List.take_length]
  have hfst : ∀ i (hi : i < ps.length), ps[i].1 = l[i]'(by omega) := fun i hi => by
    have : (ps.map (·.1))[i]'(by simpa using hi) = l[i]'(by omega) := by simp only [hf]
    simpa using this
  obtain ⟨C1, C2⟩ := MkR.cells h.made.each (by rw [List.length_map, hl]) rfl hr
  refine ⟨w.heap.size, l.length + 1, fun i => (ps[i]?.map (·.2)).getD (.slice none 0 0), rfl, Nat.le_refl _, hlen, by omega, hok, fun i hi => ?_, ?_, fun i hi => ?_, ?_⟩
  · have hip : i < ps.length := by omega
    have he : (ps.map fun (p : Fl × Value) => flL p.1 p.2)[i]? = some (flL l[i] ps[i].2) := by rw [List.getElem?_map, List.getElem?_eq_getElem hip, Option.map_some, hfst i hip]
    dsimp only
    rw [List.getElem?_eq_getElem hip]
    exact ⟨C1 i _ 0 _ he rfl, C1 i _ 1 _ he rfl, C1 i _ 2 _ he rfl, C1 i _ 3 _ he rfl, C1 i _ 4 _ he rfl, C1 i _ 5 _ he rfl, C1 i _ 6 _ he rfl, C1 i _ 7 _ he rfl⟩
  · exact ⟨C2 0 _ rfl, C2 1 _ rfl, C2 2 _ rfl, C2 3 _ rfl, C2 4 _ rfl, C2 5 _ rfl, C2 6 _ rfl, C2 7 _ rfl⟩
  · have hip : i < ps.length := by omega
    have := (h.parts ps[i] (List.getElem_mem hip)).grown hg (by omega)
    rw [hfst i hip] at this
    dsimp only
    rw [List.getElem?_eq_getElem hip]
    exact this
  · exact Blk.of_row hr
set_option maxRecDepth 100000 in
set_option maxHeartbeats 2000000 in
theorem twin_flows (l : List Fl) (w : World) (s : Value) (hS : FlowsAt w l s) :
    Calls Tryd.prog 20 #[s] w fun e w' => ∃ s', e = .returned s' ∧ TwFlows w' w.heap.size l s' ∧ Below w.heap.size w w' := by
  obtain ⟨ao, cap, sl, rfl, hlen, _, hok, hc, hs⟩ := hS
  have HC := hid hc
  have HO := hid hok
  have HS := hid hs
  obtain ⟨i0, hi, hi0, hi1, hi2⟩ := info_parts info50'
  clear hc hok hs
  go_enter Tryd.func20, Tryd.ntmps20
  go_wp2_with (at_make; refine wpList_make_own w rfl (.const (.int .i64 0)) (.tmp 7) 23 rfl w.heap.size 43 i0 _ 8 Tryd.underlying23 hi hi0 hi1 .i64 .i64 _ (l.length + 1) rfl rfl (by omega) (by rw [hi2]; omega) (by unfold maxLen; omega) (Nat.le_refl _) ?_; intro w1 hown1 hgrow1; have M1 := hid (MkR.start (t := 43) (c := 8) (n := l.length) hown1 hgrow1); clear hown1 hgrow1)
  go_loopw [3, 4] (fun v i wr => ∃ (k : Nat) (ps : List (Fl × Value)), k ≤ l.length ∧ v = .slice (some ⟨w.heap.size, 0, none⟩) k (l.length + 1) ∧ i = .int .i64 (k : Int) ∧ Hid (MkF w l k ps wr)) (fun _ i _ => l.length - (intOf i).toNat)
  case atStart => exact ⟨0, [], Nat.zero_le _, rfl, rfl, hid ⟨M1.out, rfl, rfl, fun p hp => by cases hp⟩⟩
  case round =>
    obtain ⟨k, ps, hk, rfl, rfl, hM⟩ := hrel
    by_cases hlt : k < l.length
    · have hlt' : (k : Int) < (l.length : Int) := by omega
      have hk0 : (0 : Int) ≤ (k : Int) := by omega
      obtain ⟨bb, o, rfl, hcc⟩ := HC.out.resolve_left (by omega)
      have F := (hcc k hlt).keep hM.out.made.below
      have c := twin_flow l[k] wr (sl k) ((HS.out k hlt).keep hM.out.made.below)
      obtain ⟨y, hy⟩ : ∃ y, l[k] = y := ⟨_, rfl⟩
      rw [hy] at F c
      obtain ⟨v0, v1, v2, v3, v4, v5, v6, v7⟩ := F
      have HY := hid hy
      clear hcc hy
      go_wp2_with (first
        | (go_at_call 38; refine c.mono ?_; rintro e w2 ⟨s2, rfl, ht2, hb2⟩; obtain ⟨b2, c2, _, rfl, _⟩ := ht2.st.out; have T2 := hid (ht2.keep ((Below.refl _ _).alloc (Nat.le_refl _) (.cells #[.string y.name, .int .u8 (y.ty : Int), .int .i64 y.st, .int .i64 y.df, .int .u8 (y.body.op : Int), .int .i64 y.body.n, .string y.body.name, .slice b2 y.body.args.length c2] 43))); have M2 := hid ((hM.out.step hb2).step ((Below.refl _ _).alloc (Nat.le_refl _) (.cells #[.string y.name, .int .u8 (y.ty : Int), .int .i64 y.st, .int .i64 y.df, .int .u8 (y.body.op : Int), .int .i64 y.body.n, .string y.body.name, .slice b2 y.body.args.length c2] 43))); have N2 := hid (next_cells w2 (flL y (.slice b2 y.body.args.length c2)) 43); have SZ := hid hM.out.made.size; clear c ht2 hb2)
        | (at_builtin; refine wpList_append_fits _ rfl (.tmp 15) (.tmp 21) 23 rfl w.heap.size 43 i0 8 Tryd.underlying23 hi hi1 w.heap.size k (l.length + 1) (ps.map fun (p : Fl × Value) => flL p.1 p.2).flatten rfl M2.out.row ⟨w2.heap.size, 0, none⟩ 1 1 (flL y (.slice b2 y.body.args.length c2)) rfl rfl N2.out (by simp [Value.oneCell']) (by omega) ?_; intro w4 hown4 hgrow4; have M4 := hid (M2.out.grow hlt HY.out (T2.out.low (by have := SZ.out; omega)) hown4 hgrow4); clear hown4 hgrow4))
      go_roundw
      case rel => exact ⟨k + 1, _, by omega, rfl, by go_num, M4⟩
      case measure => simp [intOf]; omega
    · have hlt' : ¬ (k : Int) < (l.length : Int) := by omega
      obtain rfl : k = l.length := by omega
      have M2 := hid (hM.out.step ((Below.refl _ _).alloc (Nat.le_refl _) (.cells #[.string spare, .int .u8 0, .int .i64 0, .int .i64 0, .int .u8 0, .int .i64 0, .string ⟨#[]⟩, .slice none 0 0] 43)))
      have N2 := hid (next_cells wr (flL spareFl (.slice none 0 0)) 43)
      go_wp2_with (at_builtin; refine wpList_append_fits _ rfl (.tmp 23) (.tmp 25) 23 rfl w.heap.size 43 i0 8 Tryd.underlying23 hi hi1 w.heap.size l.length (l.length + 1) (ps.map fun (p : Fl × Value) => flL p.1 p.2).flatten rfl M2.out.row ⟨wr.heap.size, 0, none⟩ 1 1 (flL spareFl (.slice none 0 0)) rfl rfl N2.out (by simp [Value.oneCell']) (by omega) ?_; intro w4 hown4 hgrow4; have T4 := hid (M2.out.done hlen HO.out hown4 hgrow4); have B4 := hid (M2.out.made.below.grown hgrow4 M2.out.made.below.size (fun j hj => by cases hj; exact Nat.le_refl _)); clear hown4 hgrow4)
      go_ret
      exact ⟨_, rfl, T4.out, B4.out⟩
end Go.Proofs.YtilpoiihoikhlaaDoor.Lex
namespace Go.Proofs.YtilpoiihoikhlaaDoor.Lex
open Go.ChangeShapes Go.WideShapes Go.ChangeAt Go.RowKit Go.Shelf
theorem foA : foV (findT (thingsL smP) ⟨#[97]⟩) = #[.int .i64 1, .int .u8 1, .int .i64 (-1), .bool true] := by
  have e : findT (thingsL smP) ⟨#[97]⟩ = _ := find_in_ok (p := smP) (by decide +kernel) 0 (by decide)
  rw [e]; rfl
theorem foX : foV (findT (thingsL smP) ⟨#[120]⟩) = #[.int .i64 2, .int .u8 2, .int .i64 0, .bool true] := by
  have e : findT (thingsL smP) ⟨#[120]⟩ = _ := find_flow_ok (p := smP) (by decide +kernel) 0 (by decide)
  rw [e]; rfl
theorem foY : foV (findT (thingsL smP) ⟨#[121]⟩) = #[.int .i64 0, .int .u8 0, .int .i64 0, .bool false] := by
  rw [findT_none (free_of_none (by decide +kernel))]; rfl
theorem row4 {W : World} {k : Nat} {st : Int} {A B C : Value} (h : W.heap[k]? = some (.cells #[.int .i64 st, A, B, C] 26 (0, 0))) : W.cell? ⟨k, 0, none⟩ = some (.int .i64 st) ∧ W.cell? ⟨k, 1, none⟩ = some A ∧ W.cell? ⟨k, 2, none⟩ = some B ∧ W.cell? ⟨k, 3, none⟩ = some C :=
  ⟨(cell_of_row _ _ _ _ 26 (0, 0) h).trans rfl, (cell_of_row _ _ _ _ 26 (0, 0) h).trans rfl, (cell_of_row _ _ _ _ 26 (0, 0) h).trans rfl, (cell_of_row _ _ _ _ 26 (0, 0) h).trans rfl⟩
theorem keep_row {W W' : World} {k : Nat} {o : Obj} (h : W.heap[k]? = some o) (hb : Below W.heap.size W W') : W'.heap[k]? = some o := (hb.block _ (Array.getElem?_eq_some_iff.1 h).1).trans h
/-- What stands behind the line with the append. -/
def Aft6 (W5 : World) (b5 k5 k1 : Nat) (a : Act) (W : World) : Prop := ∃ gg cap, TwoA W5 b5 k5 gg cap W ∧ ∃ u16 u17 u18 u19 u20 u21 u22 u23 u24 u25 u26 u27 u28 u29 u30 u31 u32 u33 u34 u35 u36 u37 u38 u39 u40 u41 u42 u43 u44 u45 u46 u47 : Value, a = { tmps := #[.bool false, .pointer (some ⟨k1, 0, none⟩), .int .i64 1, .int .u8 1, .int .i64 (-1), .bool true, .int .i64 2, .int .u8 2, .int .i64 0, .bool true, .int .i64 0, .int .u8 0, .int .i64 0, .bool false, .pointer (some ⟨k5, 0, none⟩), undef, u16, u17, u18, u19, u20, u21, u22, u23, u24, u25, u26, u27, u28, u29, u30, u31, u32, u33, u34, u35, u36, u37, u38, u39, u40, u41, u42, u43, u44, u45, u46, u47, undef, undef, undef, undef, undef, undef, undef, undef, undef, undef, undef, undef, undef, undef, undef, undef, undef, undef, undef, undef, undef, undef, undef, undef, undef, undef, undef, undef, undef, undef, undef, undef, undef, undef, undef, undef, undef, undef, undef, undef, undef, undef, undef, undef, undef, undef, undef, undef, undef, undef, undef, undef, undef, undef, undef], defers := [] }
/-- The three programs, in their variables. -/
structure AV (w : World) (k1 k5 k7 : Nat) (c1 c2 c3 : Array Value) (A1 B1 C1 A2 B2 C2 A3 B3 C3 : Value) (Z : World) : Prop where
  a : PgAt Z smP A1 B1 C1
  ra : Z.heap[k1]? = some (.cells c1 26 (0, 0))
  b : PgAt Z twoP A2 B2 C2
  rb : Z.heap[k5]? = some (.cells c2 26 (0, 0))
  c : PgAt Z outP A3 B3 C3
  rc : Z.heap[k7]? = some (.cells c3 26 (0, 0))
  R : TabR Z
  J : TabJ Z
  below : Below w.heap.size w Z
theorem AV.keep {w : World} {k1 k5 k7 : Nat} {c1 c2 c3 : Array Value} {A1 B1 C1 A2 B2 C2 A3 B3 C3 : Value} {Z Z' : World} (h : AV w k1 k5 k7 c1 c2 c3 A1 B1 C1 A2 B2 C2 A3 B3 C3 Z) (hb : Below Z.heap.size Z Z') : AV w k1 k5 k7 c1 c2 c3 A1 B1 C1 A2 B2 C2 A3 B3 C3 Z' :=
  ⟨h.a.keep hb, keep_row h.ra hb, h.b.keep hb, keep_row h.rb hb, h.c.keep hb, keep_row h.rc hb, h.R.below hb, h.J.below hb, h.below.trans (hb.mono h.below.size)⟩
theorem outY {Z : World} {k : Nat} (h : Z.heap[k]? = some (.cells #[.string ⟨#[121]⟩] 9 (0, 0))) : TextsAt Z [⟨#[121]⟩] (.slice (some ⟨k, 0, none⟩) 1 1) := by
  have a := fun i => cell_of_row Z k i _ 9 (0, 0) h
  refine ⟨some ⟨k, 0, none⟩, 1, rfl, by decide, by decide, ?_, .inr ⟨k, 0, rfl, fun i hi => ?_⟩⟩
  · intro x hx
    simp only [List.mem_singleton] at hx
    subst hx
    decide
  · have hi' : i < 1 := hi
    match i, hi' with
    | 0, _ => exact (a 0).trans rfl
theorem av_done (w W w7 : World) (b5 k5 k1 gg cap : Nat) (c1 c2 : Array Value) (h1 : Sm W w.heap.size) (h2 : W.heap[k1]? = some (.cells c1 26 (0, 0))) (h3 : Below w.heap.size w W)
    (h4 : PgAt W twoP (.slice (some ⟨b5 + 1 + 1 + 1, 0, none⟩) 1 1) (.slice (some ⟨gg, 0, none⟩) 2 cap) (.slice (some ⟨b5 + 1 + 1 + 1 + 1 + 1, 0, none⟩) 1 1)) (h5 : W.heap[k5]? = some (.cells c2 26 (0, 0))) (h6 : Sm w7 W.heap.size) (h7 : Below W.heap.size W w7) (hR : TabR w) (hJ : TabJ w) :
    AV w k1 k5 w7.heap.size c1 c2 #[.int .i64 smP.st, .slice (some ⟨W.heap.size + 1 + 1 + 1, 0, none⟩) 1 1, .slice (some ⟨W.heap.size + 1 + 1 + 1 + 1, 0, none⟩) 1 1, .slice (some ⟨w7.heap.size + 1, 0, none⟩) 1 1]
      (.slice (some ⟨w.heap.size + 1 + 1 + 1, 0, none⟩) 1 1) (.slice (some ⟨w.heap.size + 1 + 1 + 1 + 1, 0, none⟩) 1 1) (.slice (some ⟨w.heap.size + 1 + 1 + 1 + 1 + 1, 0, none⟩) 1 1)
      (.slice (some ⟨b5 + 1 + 1 + 1, 0, none⟩) 1 1) (.slice (some ⟨gg, 0, none⟩) 2 cap) (.slice (some ⟨b5 + 1 + 1 + 1 + 1 + 1, 0, none⟩) 1 1)
      (.slice (some ⟨W.heap.size + 1 + 1 + 1, 0, none⟩) 1 1) (.slice (some ⟨W.heap.size + 1 + 1 + 1 + 1, 0, none⟩) 1 1) (.slice (some ⟨w7.heap.size + 1, 0, none⟩) 1 1)
      ((w7.alloc (.cells #[.int .i64 smP.st, .slice (some ⟨W.heap.size + 1 + 1 + 1, 0, none⟩) 1 1, .slice (some ⟨W.heap.size + 1 + 1 + 1 + 1, 0, none⟩) 1 1, .slice (some ⟨w7.heap.size + 1, 0, none⟩) 1 1] 26)).alloc (.cells #[.string ⟨#[121]⟩] 9)) := by
  have hb : ∀ o1 o2, Below w7.heap.size w7 ((w7.alloc o1).alloc o2) := fun o1 o2 => ((Below.refl _ _).alloc (Nat.le_refl _) o1).alloc (by simp) o2
  have hW : ∀ o1 o2, Below W.heap.size W ((w7.alloc o1).alloc o2) := fun o1 o2 => h7.trans ((hb o1 o2).mono h7.size)
  have hw : ∀ o1 o2, Below w.heap.size w ((w7.alloc o1).alloc o2) := fun o1 o2 => h3.trans ((hW o1 o2).mono h3.size)
  have s7 := h6.keep (hb (.cells #[.int .i64 smP.st, .slice (some ⟨W.heap.size + 1 + 1 + 1, 0, none⟩) 1 1, .slice (some ⟨W.heap.size + 1 + 1 + 1 + 1, 0, none⟩) 1 1, .slice (some ⟨w7.heap.size + 1, 0, none⟩) 1 1] 26) (.cells #[.string ⟨#[121]⟩] 9))
  exact ⟨(h1.keep (hW _ _)).at, keep_row h2 (hW _ _), h4.keep (hW _ _), keep_row h5 (hW _ _), ⟨by decide, s7.insAt, s7.flowsAt, outY (push_new _ _ _ (by simp))⟩, push_old (push_new _ _ _ rfl), hR.below (hw _ _), hJ.below (hw _ _), hw _ _⟩
theorem gg_ne {b5 k5 gg n : Nat} (hk : b5 + 5 < k5) (hn : k5 < n) (hat : Value.ownBlock (.slice (some ⟨b5 + 1 + 1 + 1 + 1, 0, none⟩) 1 1) = some gg ∨ gg = n + 1) : gg ≠ k5 := by
  rcases hat with hat | hat
  · simp [Value.ownBlock] at hat; omega
  · omega
theorem two_grown {W5 w6 : World} {b5 k5 : Nat} {o : Obj} (hr : W5.heap[k5]? = some (.cells (smC b5) 26 (0, 0))) (hk : b5 + 5 < k5) (hg : (W5.alloc o).drew.grownBy w6 (Value.ownBlock (.slice (some ⟨b5 + 1 + 1 + 1 + 1, 0, none⟩) 1 1))) :
    W5.grownBy w6 (some (b5 + 1 + 1 + 1 + 1)) ∧ w6.cell? ⟨k5, 2, none⟩ = some (.slice (some ⟨b5 + 1 + 1 + 1 + 1, 0, none⟩) 1 1) ∧ w6.frozen? ⟨k5, 2, none⟩ = false := by
  have h1 : W5.grownBy w6 (some (b5 + 1 + 1 + 1 + 1)) := ⟨hg.os, hg.tape, hg.output, by have := hg.size; simp at this; omega, fun k hk h => (hg.block k (by simp; omega) h).trans (Below.heap_alloc W5 o k hk)⟩
  have h2 : w6.heap[k5]? = some (.cells (smC b5) 26 (0, 0)) := (h1.block k5 (Array.getElem?_eq_some_iff.1 hr).1 (by intro e; injection e with e; omega)).trans hr
  exact ⟨h1, (cell_of_row _ _ _ _ 26 (0, 0) h2).trans rfl, by simp [World.frozen?, h2]⟩
set_option maxRecDepth 100000 in
set_option maxHeartbeats 2000000 in
theorem alive (w : World) (hR : TabR w) (hJ : TabJ w) : Calls Tryd.prog 13 #[] w fun e w' => e = .returned (.bool true) ∧ Below w.heap.size w w' := by
  have HR := hid hR
  have HJ := hid hJ
  clear hR hJ
  go_enter Tryd.func13, Tryd.ntmps13
  go_wp2_with (fail)
  refine (small _).mono ?_
  rintro e w1 ⟨rfl, hs1, hb1⟩
  have hal1 := (Below.refl w1.heap.size w1).alloc (Nat.le_refl _) (.cells (smC w.heap.size) 26)
  have hs1' := hs1.keep hal1
  have c14 := find smP ⟨#[97]⟩ _ _ _ _ hs1'.at
  rw [foA] at c14
  have HS1 := hid hs1'
  have HB1 := hid (hb1.trans (hal1.mono hb1.size))
  have r1 := heap_alloc_new w1 (.cells (smC w.heap.size) 26)
  have HR1 := hid r1
  clear hs1 hs1' hb1 hal1 r1
  go_wp2_with (fail)
  refine c14.mono ?_
  clear c14
  rintro e w2 ⟨rfl, hb2⟩
  have hs2 := HS1.out.keep hb2
  have r2 := keep_row HR1.out hb2
  obtain ⟨p0, p1, p2, p3⟩ := row4 r2
  have c14 := find smP ⟨#[120]⟩ _ _ _ _ hs2.at
  rw [foX] at c14
  have HB2 := hid (HB1.out.trans (hb2.mono HB1.out.size))
  have HS2 := hid hs2
  have HR2 := hid r2
  clear hs2 r2 hb2 HB1 HS1 HR1
  go_wp2_with (fail)
  refine c14.mono ?_
  clear c14 p0 p1 p2 p3
  rintro e w3 ⟨rfl, hb3⟩
  have hs3 := HS2.out.keep hb3
  have r3 := keep_row HR2.out hb3
  obtain ⟨p0, p1, p2, p3⟩ := row4 r3
  have c14 := find smP ⟨#[121]⟩ _ _ _ _ hs3.at
  rw [foY] at c14
  have HB3 := hid (HB2.out.trans (hb3.mono HB2.out.size))
  have HS3 := hid hs3
  have HR3 := hid r3
  clear hs3 r3 hb3 HB2 HS2 HR2
  go_wp2_with (fail)
  refine c14.mono ?_
  clear c14 p0 p1 p2 p3
  rintro e w4 ⟨rfl, hb4⟩
  have HS4 := hid (HS3.out.keep hb4)
  have HR4 := hid (keep_row HR3.out hb4)
  have HB4 := hid (HB3.out.trans (hb4.mono HB3.out.size))
  clear hb4 HB3 HS3 HR3
  obtain ⟨k1, hk1⟩ : ∃ k1, w1.heap.size = k1 := ⟨_, rfl⟩
  rw [hk1] at HR4 ⊢
  clear hk1
  go_wp2_with (fail)
  refine (small _).mono ?_
  rintro e w5 ⟨rfl, hs5, hb5⟩
  have hal5 := (Below.refl w5.heap.size w5).alloc (Nat.le_refl _) (.cells (smC w4.heap.size) 26)
  have hs5' := hs5.keep hal5
  have r5 := heap_alloc_new w5 (.cells (smC w4.heap.size) 26)
  have hb5' := hb5.trans (hal5.mono hb5.size)
  have HA5 := hid (HS4.out.keep hb5')
  have HP5 := hid (keep_row HR4.out hb5')
  have HB5 := hid (HB4.out.trans (hb5'.mono HB4.out.size))
  have HR5 := hid r5
  have HS5 := hid hs5'
  have hs5lt : Hid (w4.heap.size + 5 < w5.heap.size) := hid (Array.getElem?_eq_some_iff.1 hs5.outs).1
  have HS40 := HS4
  have HR40 := HR4
  clear hs5 hs5' hb5 hal5 hb5' r5 HS4 HR4
  go_wp2_with (fail)
  have hlt0 : w.heap.size + 5 < w4.heap.size ∧ k1 < w4.heap.size := ⟨(Array.getElem?_eq_some_iff.1 HS40.out.outs).1, (Array.getElem?_eq_some_iff.1 HR40.out).1⟩
  have hk5 : w4.heap.size + 5 < w5.heap.size := hs5lt.out
  have hs5 := HS5.out
  have r5 := HR5.out
  obtain ⟨W5, hW5⟩ : ∃ W5, w5.alloc (.cells (smC w4.heap.size) 26) = W5 := ⟨_, rfl⟩
  have hsz5 : W5.heap.size = w5.heap.size + 1 := by rw [← hW5]; simp
  rw [hW5] at HA5 HP5 HB5 HR5 HS5 hs5 r5 ⊢
  clear hW5
  obtain ⟨b5, hb5⟩ : ∃ b5, w4.heap.size = b5 := ⟨_, rfl⟩
  obtain ⟨k5, hk5e⟩ : ∃ k5, w5.heap.size = k5 := ⟨_, rfl⟩
  rw [hb5] at HS5 hs5 HR5 r5 hlt0 hk5 ⊢
  rw [hk5e] at HR5 r5 hk5 hsz5 ⊢
  clear hb5 hk5e
  have hsw : w.heap.size ≤ b5 := by omega
  have ho5 := hs5.own
  obtain ⟨p0, p1, p2, p3⟩ := row4 r5
  have f2 : W5.frozen? ⟨k5, 2, none⟩ = false := by simp [World.frozen?, r5]
  have q2 : (W5.alloc (.cells (flC b5) 43)).cell? ⟨k5, 2, none⟩ = some (.slice (some ⟨b5 + 1 + 1 + 1 + 1, 0, none⟩) 1 1) := cells_alloc _ _ _ _ p2
  have fl := fun k => cell_of_row W5 (b5 + 1 + 1 + 1 + 1) k (flC b5) 43 (0, 0) hs5.flows
  have g0 := (fl 0).trans (show _ = some (.string ⟨#[120]⟩) from rfl)
  have g1 := (fl 1).trans (show _ = some (.int .u8 2) from rfl)
  have g2 := (fl 2).trans (show _ = some (.int .i64 2) from rfl)
  have g3 := (fl 3).trans (show _ = some (.int .i64 0) from rfl)
  have g4 := (fl 4).trans (show _ = some (.int .u8 11) from rfl)
  have g5 := (fl 5).trans (show _ = some (.int .i64 0) from rfl)
  have g6 := (fl 6).trans (show _ = some (.string ⟨#[]⟩) from rfl)
  have g7 := (fl 7).trans (show _ = some (.slice (some ⟨b5 + 1, 0, none⟩) 2 2) from rfl)
  obtain ⟨i0, hi, hz0, hz1, hz2⟩ := info_parts info50'
  have HO5 := hid ho5
  have HSZ := hid hsz5
  clear fl hs5 r5 ho5 hsz5
  refine wp_mono (Q := Exit.then (Aft6 W5 b5 k5 k1) (fun _ _ _ => False)) ?reg ?go
  case reg =>
    go_region_law ((refine step_append_lies _ (by rfl) _ _ _ (by rfl) 0 43 i0 _ 8 96 Tryd.underlying23 hi hz0 hz1 hz2 rfl (by omega) (.slice (some ⟨b5 + 1 + 1 + 1 + 1, 0, none⟩) 1 1) 1 (flC b5).toList (by rfl) ((HO5.out.alloc _).drew) ⟨W5.heap.size, 0, none⟩ 1 1 (flC b5).toList (by rfl) (by rfl) (World.news_of_block (cs := flC b5) (t := 43) (fr := (0, 0)) (heap_alloc_new W5 _)) (by simp [Value.oneCell']) (by omega) (by unfold maxLen; omega) (by omega) (Nat.zero_le _) (W5.heap.size + 1) (by simp) ?_; intro gg cap w6 hown6 hgrow hat hlt6; obtain ⟨gr6, c6, f6⟩ := two_grown HR5.out hk5 hgrow; have TA := hid (two_done HS5.out HR5.out hk5 hown6 gr6 (gg_ne hk5 (by have := HSZ.out; omega) hat)); clear gr6 hgrow hat hown6))
    all_goals exact ⟨gg, cap, TA.out, _, _, _, _, _, _, _, _, _, _, _, _, _, _, _, _, _, _, _, _, _, _, _, _, _, _, _, _, _, _, _, _, rfl⟩
  case go =>
    rintro e a W h
    obtain rfl : e = .normal := by cases e <;> first | rfl | exact h.elim
    obtain ⟨gg, cap, TA, u16, u17, u18, u19, u20, u21, u22, u23, u24, u25, u26, u27, u28, u29, u30, u31, u32, u33, u34, u35, u36, u37, u38, u39, u40, u41, u42, u43, u44, u45, u46, u47, rfl⟩ := h
    have hAW : Sm W w.heap.size := ⟨(TA.same _ (by omega)).trans HA5.out.args, (TA.same _ (by omega)).trans HA5.out.ins, (TA.same _ (by omega)).trans HA5.out.flows, (TA.same _ (by omega)).trans HA5.out.outs⟩
    have hPW := (TA.same k1 hlt0.2).trans HP5.out
    have hBW : Below w.heap.size w W := ⟨TA.os.trans HB5.out.os, TA.tape.trans HB5.out.tape, TA.output.trans HB5.out.output, Nat.le_trans HB5.out.size TA.size, fun k hk => (TA.same k (by omega)).trans (HB5.out.block k hk)⟩
    have AW := hid hAW
    have PW := hid hPW
    have BW := hid hBW
    have TW := hid TA
    clear hAW hPW hBW TA HA5 HP5 HB5 HS5 HR5 hi hz0 hz1 hz2 g0 g1 g2 g3 g4 g5 g6 g7 p0 p1 p2 p3 q2 f2 HO5
    go_wp2_with (fail)
    refine (small _).mono ?_
    rintro e w7 ⟨rfl, hs7, hb7⟩
    have av := av_done w W w7 b5 k5 k1 gg cap _ _ AW.out PW.out BW.out TW.out.pg TW.out.row hs7 hb7 HR.out HJ.out
    have hlt7 := (Array.getElem?_eq_some_iff.1 hs7.outs).1
    obtain ⟨p0, p1, p2, p3⟩ := row4 av.ra
    have c10 := (callsIn_wide (n := 20)).1 (names_check smP _ _ _ _ av.a av.R av.J)
    rw [err_sm] at c10
    have AV7 := hid av
    clear av hs7 hb7 AW PW BW TW hlt7
    go_wp2_with (fail)
    refine c10.mono ?_
    clear c10 p0 p1 p2 p3
    rintro e z1 ⟨rfl, hb⟩
    have av := AV7.out.keep hb
    obtain ⟨p0, p1, p2, p3⟩ := row4 av.rb
    have c10 := (callsIn_wide (n := 20)).1 (names_check twoP _ _ _ _ av.b av.R av.J)
    rw [err_two] at c10
    have AV8 := hid av
    clear av hb AV7
    go_wp2_with (fail)
    refine c10.mono ?_
    clear c10 p0 p1 p2 p3
    rintro e z2 ⟨rfl, hb⟩
    have av := AV8.out.keep hb
    obtain ⟨p0, p1, p2, p3⟩ := row4 av.rc
    have c10 := (callsIn_wide (n := 20)).1 (names_check outP _ _ _ _ av.c av.R av.J)
    rw [err_out] at c10
    have AV9 := hid av
    clear av hb AV8
    go_wp2_with (fail)
    refine c10.mono ?_
    clear c10 p0 p1 p2 p3
    rintro e z3 ⟨rfl, hb⟩
    have av := AV9.out.keep hb
    have c10 := (callsIn_wide (n := 20)).1 (names_check nilP _ _ _ _ (nil_at z3) av.R av.J)
    rw [err_nil] at c10
    have AV10 := hid av
    clear av hb AV9
    go_wp2_with (fail)
    refine c10.mono ?_
    clear c10
    rintro e z4 ⟨rfl, hb⟩
    have hB := (AV10.out.keep hb).below
    clear AV10 hb
    go_wp2_with (fail)
    go_ret
    exact ⟨rfl, hB⟩
end Go.Proofs.YtilpoiihoikhlaaDoor.Lex
namespace Go.Proofs.YtilpoiihoikhlaaDoor.Lex
open Go.ChangeShapes Go.WideShapes Go.ChangeAt Go.RowKit Go.Joins
set_option maxRecDepth 100000 in
set_option maxHeartbeats 1000000 in
theorem ins_size (l : List Hd) (w : World) (s : Value) (hS : InsAt w l s) :
    Calls Tryd.prog 35 #[s] w fun e w' => (∃ m : Int, e = .returned (.int .i64 m)) ∧ Below w.heap.size w w' := by
  obtain ⟨ao, cap, rfl, hlen, _, hok, hc⟩ := hS
  have HC := hid hc
  have HO := hid hok
  clear hc hok
  go_enter Tryd.func35, Tryd.ntmps35
  go_wp2
  go_loopw [3, 4] (fun n i wr => ∃ (z : Int) (k : Nat), k ≤ l.length ∧ n = .int .i64 z ∧ i = .int .i64 (k : Int) ∧ Hid (Below w.heap.size w wr)) (fun _ i _ => l.length - (intOf i).toNat)
  case atStart => exact ⟨_, 0, Nat.zero_le _, rfl, rfl, Below.refl _ _⟩
  case round =>
    obtain ⟨z, k, hk, rfl, rfl, hB⟩ := hrel
    by_cases hlt : k < l.length
    · have hlt' : (k : Int) < (l.length : Int) := by omega
      have hk0 : (0 : Int) ≤ (k : Int) := by omega
      by_cases hz : z ≤ 1048576
      · obtain ⟨b, o, rfl, hc⟩ := HC.out.resolve_left (by omega)
        obtain ⟨y0, y1, y2⟩ := (hc k hlt).keep hB.out
        clear hc
        generalize l[k] = y at *
        go_wp2
        go_roundw
        case rel => exact ⟨_, k + 1, by omega, rfl, by go_num, hB⟩
        case measure => simp [intOf]; omega
      · go_wp2
        go_ret
        exact ⟨⟨_, rfl⟩, hB.out⟩
    · have hlt' : ¬ (k : Int) < (l.length : Int) := by omega
      go_wp2
      go_ret
      exact ⟨⟨_, rfl⟩, hB.out⟩
set_option maxRecDepth 100000 in
set_option maxHeartbeats 1000000 in
theorem texts_size (l : List ByteArray) (w : World) (s : Value) (hS : TextsAt w l s) :
    Calls Tryd.prog 37 #[s] w fun e w' => (∃ m : Int, e = .returned (.int .i64 m)) ∧ Below w.heap.size w w' := by
  obtain ⟨ao, cap, rfl, hlen, _, hok, hc⟩ := hS
  have HC := hid hc
  have HO := hid hok
  clear hc hok
  go_enter Tryd.func37, Tryd.ntmps37
  go_wp2
  go_loopw [3, 4] (fun n i wr => ∃ (z : Int) (k : Nat), k ≤ l.length ∧ n = .int .i64 z ∧ i = .int .i64 (k : Int) ∧ Hid (Below w.heap.size w wr)) (fun _ i _ => l.length - (intOf i).toNat)
  case atStart => exact ⟨_, 0, Nat.zero_le _, rfl, rfl, Below.refl _ _⟩
  case round =>
    obtain ⟨z, k, hk, rfl, rfl, hB⟩ := hrel
    by_cases hlt : k < l.length
    · have hlt' : (k : Int) < (l.length : Int) := by omega
      have hk0 : (0 : Int) ≤ (k : Int) := by omega
      by_cases hz : z ≤ 1048576
      · obtain ⟨b, o, rfl, hc⟩ := HC.out.resolve_left (by omega)
        have y0 := cell_kept (hc k hlt) hB.out
        clear hc
        generalize l[k] = y at *
        go_wp2
        go_roundw
        case rel => exact ⟨_, k + 1, by omega, rfl, by go_num, hB⟩
        case measure => simp [intOf]; omega
      · go_wp2
        go_ret
        exact ⟨⟨_, rfl⟩, hB.out⟩
    · have hlt' : ¬ (k : Int) < (l.length : Int) := by omega
      go_wp2
      go_ret
      exact ⟨⟨_, rfl⟩, hB.out⟩
set_option maxRecDepth 100000 in
theorem flow_size (x : Fl) (w : World) (s : Value) (hok : x.ok) (hS : St w x.body s) :
    Calls Tryd.prog 53 #[flV x s] w fun e w' => (∃ m : Int, e = .returned (.int .i64 m)) ∧ Below w.heap.size w w' := by
  obtain ⟨ao, cap, sl, rfl, _⟩ := hS.out
  obtain ⟨hnm, _, _, _⟩ := hok
  have HS := hid hS
  clear hS
  by_cases hle : (1 : Int) + (x.name.size : Int) ≤ 1048576
  · go_enter Tryd.func53, Tryd.ntmps53
    go_wp2_with (go_at_call 61; refine (size_any _ x.body (Nat.le_refl _) _ _ (HS.out.keep ((Below.refl _ _).alloc (Nat.le_refl _) _))).mono ?_; rintro e w2 ⟨⟨m, rfl⟩, hb2⟩)
    go_ret
    exact ⟨⟨_, rfl⟩, bstep ((Below.refl _ _).alloc (Nat.le_refl _) _) hb2⟩
  · go_enter Tryd.func53, Tryd.ntmps53
    go_wp2
    go_ret
    exact ⟨⟨_, rfl⟩, (Below.refl _ _).alloc (Nat.le_refl _) _⟩
set_option maxRecDepth 100000 in
set_option maxHeartbeats 1000000 in
theorem flows_size (l : List Fl) (w : World) (s : Value) (hS : FlowsAt w l s) :
    Calls Tryd.prog 36 #[s] w fun e w' => (∃ m : Int, e = .returned (.int .i64 m)) ∧ Below w.heap.size w w' := by
  obtain ⟨ao, cap, sl, rfl, hlen, _, hok, hc, hs⟩ := hS
  have HC := hid hc
  have HO := hid hok
  have HS := hid hs
  clear hc hok hs
  go_enter Tryd.func36, Tryd.ntmps36
  go_wp2
  go_loopw [3, 4] (fun n i wr => ∃ (z : Int) (k : Nat), k ≤ l.length ∧ n = .int .i64 z ∧ i = .int .i64 (k : Int) ∧ Hid (Below w.heap.size w wr)) (fun _ i _ => l.length - (intOf i).toNat)
  case atStart => exact ⟨_, 0, Nat.zero_le _, rfl, rfl, Below.refl _ _⟩
  case round =>
    obtain ⟨z, k, hk, rfl, rfl, hB⟩ := hrel
    by_cases hlt : k < l.length
    · have hlt' : (k : Int) < (l.length : Int) := by omega
      have hk0 : (0 : Int) ≤ (k : Int) := by omega
      by_cases hz : z ≤ 1048576
      · obtain ⟨b, o, rfl, hc⟩ := HC.out.resolve_left (by omega)
        obtain ⟨y0, y1, y2, y3, y4, y5, y6, y7⟩ := (hc k hlt).keep hB.out
        have c := flow_size l[k] wr (sl k) (HO.out _ (List.getElem_mem hlt)) ((HS.out k hlt).keep hB.out)
        clear hc
        generalize l[k] = y at *
        go_wp2_with (go_at_call 53; refine c.mono ?_; rintro e w2 ⟨⟨m, rfl⟩, hb2⟩)
        go_roundw
        case rel => exact ⟨_, k + 1, by omega, rfl, by go_num, bstep hB.out hb2⟩
        case measure => simp [intOf]; omega
      · go_wp2
        go_ret
        exact ⟨⟨_, rfl⟩, hB.out⟩
    · have hlt' : ¬ (k : Int) < (l.length : Int) := by omega
      go_wp2
      go_ret
      exact ⟨⟨_, rfl⟩, hB.out⟩
set_option maxRecDepth 100000 in
set_option maxHeartbeats 1000000 in
theorem prog_size (p : Pg) (w : World) (a b c : Value) (hP : PgAt w p a b c) :
    Calls Tryd.prog 18 #[pgV p a b c] w fun e w' => (∃ m : Int, e = .returned (.int .i64 m)) ∧ Below w.heap.size w w' := by
  obtain ⟨a0, a1, rfl, _⟩ := hP.ins
  obtain ⟨b0, b1, _, rfl, _⟩ := hP.flows
  obtain ⟨c0, c1, rfl, _⟩ := hP.outs
  have B0 := hid ((Below.refl w.heap.size w).alloc (Nat.le_refl _) (.cells (pgC p (.slice a0 p.ins.length a1) (.slice b0 p.flows.length b1) (.slice c0 p.outs.length c1)) 26))
  have P0 := hid (hP.keep B0.out)
  have bx := fun j v => box_at w (pgC p (.slice a0 p.ins.length a1) (.slice b0 p.flows.length b1) (.slice c0 p.outs.length c1)) 26 j v
  have x1 := bx 1 _ rfl
  have x2 := bx 2 _ rfl
  have x3 := bx 3 _ rfl
  clear hP bx
  go_enter Tryd.func18, Tryd.ntmps18
  go_wp2_with (first
    | (go_at_call 35; refine (ins_size _ _ _ P0.out.ins).mono ?_; rintro e w1 ⟨⟨m1, rfl⟩, hb1⟩; have y2 := cell_kept x2 hb1; have y3 := cell_kept x3 hb1; have P1 := hid (P0.out.keep hb1); have B1 := hid (bstep B0.out hb1); clear x1 x2 x3 P0 hb1)
    | (go_at_call 36; refine (flows_size _ _ _ P1.out.flows).mono ?_; rintro e w2 ⟨⟨m2, rfl⟩, hb2⟩; have z3 := cell_kept y3 hb2; have P2 := hid (P1.out.keep hb2); have B2 := hid (bstep B1.out hb2); clear y2 y3 P1 hb2)
    | (go_at_call 37; refine (texts_size _ _ _ P2.out.outs).mono ?_; rintro e w3 ⟨⟨m3, rfl⟩, hb3⟩; have B3 := hid (bstep B2.out hb3); clear z3 P2 hb3))
  all_goals (go_ret; first | exact ⟨⟨_, rfl⟩, B3.out⟩ | exact ⟨⟨_, rfl⟩, B2.out⟩ | exact ⟨⟨_, rfl⟩, B1.out⟩)
/-- great returns yes or no; where it says no, the rows are short. -/
def GreatP (p : Pg) (e : Ending) : Prop := ∃ g : Bool, e = .returned (.bool g) ∧ (g = false → p.ins.length ≤ 300 ∧ p.flows.length ≤ 300 ∧ p.outs.length ≤ 1000)
set_option maxRecDepth 100000 in
set_option maxHeartbeats 1000000 in
theorem great (p : Pg) (w : World) (a b c : Value) (hP : PgAt w p a b c) :
    Calls Tryd.prog 8 #[pgV p a b c] w fun e w' => GreatP p e ∧ Below w.heap.size w w' := by
  obtain ⟨a0, a1, rfl, _⟩ := hP.ins
  obtain ⟨b0, b1, _, rfl, _⟩ := hP.flows
  obtain ⟨c0, c1, rfl, _⟩ := hP.outs
  have B0 := hid ((Below.refl w.heap.size w).alloc (Nat.le_refl _) (.cells (pgC p (.slice a0 p.ins.length a1) (.slice b0 p.flows.length b1) (.slice c0 p.outs.length c1)) 26))
  have P0 := hid (hP.keep B0.out)
  have bx := fun j v => box_at w (pgC p (.slice a0 p.ins.length a1) (.slice b0 p.flows.length b1) (.slice c0 p.outs.length c1)) 26 j v
  have x0 := bx 0 _ rfl
  have x1 := bx 1 _ rfl
  have x2 := bx 2 _ rfl
  have x3 := bx 3 _ rfl
  clear hP bx
  go_enter Tryd.func8, Tryd.ntmps8
  go_wp2_with (go_at_call 18; refine (prog_size _ _ _ _ _ P0.out).mono ?_; rintro e w1 ⟨⟨m1, rfl⟩, hb1⟩; have B1 := hid (bstep B0.out hb1); clear P0 hb1)
  all_goals (go_ret; first | exact ⟨⟨_, rfl, fun h => by simp at *; try omega⟩, B1.out⟩ | exact ⟨⟨_, rfl, fun h => by simp at *; try omega⟩, B0.out⟩)
end Go.Proofs.YtilpoiihoikhlaaDoor.Lex
