/-
  The twin of a program's rows: new memory, with a mark behind each row.
  From when on what is worked out has a value: the contract of startOf.
  The things of a program, one by one, where a round may turn what lies behind the program's rows: the contract of the function that names.things hands back.
  How often each name is there: the contract of names.counted.
  The reader of tokens in memory; the contract of peek.
  The operator of two that a token is: the contract of joinAt.
  The reader goes on by a token: the contracts of yes, no, name, number, pass.
  What is worked out, in blocks of which something is known: it stays where others are written.
  What a reader's step answers; the contracts of yes, no, name, number.
  What a reader's step answers: the contracts of no, pass, name, number.
  An operator of one, read: the contract of one, over that of part.
  The three signs of one, and brackets: the contracts over those of one, part, pass.
  A choice, read: the contract of choice, over those of part and pass.
  The law of the keys of atoms.
  A mark as a key.
  The map of the atoms, as its eight entries are laid in any order.
  The contract of atoms: eight entries, laid in any order.
  What has been asked for, counted in a map.
  One more is counted.
  What holds while Read goes through a text.
  How far Read has come in a text.
  Read: the tokens of a text.
  What is asked for, as it is come to: plain mathematics, and what holds while it is gathered.
-/
import Derived.Test.YtejacmgppnafcabDoorU2
import Derived.Test.YtejacmgppnafcabDoorU1
import Derived.Test.YtejacmgppnafcabDoorU3
import Derived.BigQuiet
import Derived.WalkSmall
import Derived.WalkMore
import Derived.Great.BuildSlice
import Derived.DeepKeys4
import Derived.Maps.Keyed
import Derived.Deep.RegionHeld3
import Derived.Maps.AppendAt
import Derived.Laws.OwnMore
namespace Go.Proofs.YtejacmgppnafcabDoor.Lex
open Go.ChangeShapes Go.WideShapes Go.ChangeAt Go.RowKit Go.Joins
abbrev spareFl : Fl := ⟨spare, 0, 0, 0, ⟨0, 0, ⟨#[]⟩, []⟩⟩
/-- A row's block: all of it may be written. -/
def Blk (w : World) (b t c cap : Nat) : Prop := ∃ cur : Array Value, w.heap[b]? = some (.cells cur t (0, 0)) ∧ cur.size = cap * c ∧ cap ≤ maxLen
/-- A twin of a row of heads, in a block from some one on. -/
def TwIns (w : World) (lo : Nat) (l : List Hd) (s : Value) : Prop :=
  ∃ (b cap : Nat), s = .slice (some ⟨b, 0, none⟩) l.length cap ∧ lo ≤ b ∧ l.length ≤ 4398046510976 ∧ l.length < cap ∧ (∀ x ∈ l, x.ok) ∧ (∀ i (h : i < l.length), HdCells w b (i * 3) l[i]) ∧ HdCells w b (l.length * 3) ⟨spare, 0, 0⟩ ∧ Blk w b 63 3 cap
/-- A twin of a row of flows. -/
def TwFlows (w : World) (lo : Nat) (l : List Fl) (s : Value) : Prop :=
  ∃ (b cap : Nat) (sl : Nat → Value), s = .slice (some ⟨b, 0, none⟩) l.length cap ∧ lo ≤ b ∧ l.length ≤ 1466015503658 ∧ l.length < cap ∧ (∀ x ∈ l, x.ok) ∧ (∀ i (h : i < l.length), FlCells w b (i * 8) l[i] (sl i)) ∧ FlCells w b (l.length * 8) spareFl (.slice none 0 0) ∧ (∀ i (h : i < l.length), Tw w (b + 1) l[i].body (sl i)) ∧ Blk w b 40 8 cap
/-- A twin of a row of texts. -/
def TwTexts (w : World) (lo : Nat) (l : List ByteArray) (s : Value) : Prop :=
  ∃ (b cap : Nat), s = .slice (some ⟨b, 0, none⟩) l.length cap ∧ lo ≤ b ∧ l.length ≤ 8796093021952 ∧ l.length < cap ∧ (∀ x ∈ l, x.size ≤ 140737488355328) ∧ (∀ i (h : i < l.length), w.cell? ⟨b, i, none⟩ = some (.string l[i])) ∧ w.cell? ⟨b, l.length, none⟩ = some (.string spare) ∧ Blk w b 9 1 cap
theorem cell_carry {w w' : World} {lo b o : Nat} {v : Value} (hb : ∀ b, lo ≤ b → b < w.heap.size → w'.heap[b]? = w.heap[b]?) (hlo : lo ≤ b) (h : w.cell? ⟨b, o, none⟩ = some v) : w'.cell? ⟨b, o, none⟩ = some v := by
  rw [World.cell?_of_block (w := w) (a := ⟨b, o, none⟩) (hb b hlo (World.block_lt_of_cell? w _ h))]
  exact h
theorem Blk.carry {w w' : World} {lo b t c cap : Nat} (h : Blk w b t c cap) (hb : ∀ b, lo ≤ b → b < w.heap.size → w'.heap[b]? = w.heap[b]?) (hlo : lo ≤ b) : Blk w' b t c cap := by
  obtain ⟨cur, h1, h2⟩ := h
  exact ⟨cur, (hb b hlo (Array.getElem?_eq_some_iff.1 h1).1).trans h1, h2⟩
theorem HdCells.carry {w w' : World} {lo b p : Nat} {x : Hd} (h : HdCells w b p x) (hb : ∀ b, lo ≤ b → b < w.heap.size → w'.heap[b]? = w.heap[b]?) (hlo : lo ≤ b) : HdCells w' b p x :=
  ⟨cell_carry hb hlo h.1, cell_carry hb hlo h.2.1, cell_carry hb hlo h.2.2⟩
theorem FlCells.carry {w w' : World} {lo b p : Nat} {x : Fl} {s : Value} (h : FlCells w b p x s) (hb : ∀ b, lo ≤ b → b < w.heap.size → w'.heap[b]? = w.heap[b]?) (hlo : lo ≤ b) : FlCells w' b p x s :=
  ⟨cell_carry hb hlo h.1, cell_carry hb hlo h.2.1, cell_carry hb hlo h.2.2.1, cell_carry hb hlo h.2.2.2.1, cell_carry hb hlo h.2.2.2.2.1, cell_carry hb hlo h.2.2.2.2.2.1, cell_carry hb hlo h.2.2.2.2.2.2.1, cell_carry hb hlo h.2.2.2.2.2.2.2⟩
theorem TwIns.carry {w w' : World} {lo lo' : Nat} {l : List Hd} {s : Value} (h : TwIns w lo l s) (hb : ∀ b, lo ≤ b → b < w.heap.size → w'.heap[b]? = w.heap[b]?) (hl : lo' ≤ lo) : TwIns w' lo' l s := by
  obtain ⟨b, cap, rfl, h1, h2, h3, h4, h5, h6, h8⟩ := h
  exact ⟨b, cap, rfl, by omega, h2, h3, h4, fun i hi => (h5 i hi).carry hb h1, h6.carry hb h1, h8.carry hb h1⟩
theorem TwTexts.carry {w w' : World} {lo lo' : Nat} {l : List ByteArray} {s : Value} (h : TwTexts w lo l s) (hb : ∀ b, lo ≤ b → b < w.heap.size → w'.heap[b]? = w.heap[b]?) (hl : lo' ≤ lo) : TwTexts w' lo' l s := by
  obtain ⟨b, cap, rfl, h1, h2, h3, h4, h5, h6, h8⟩ := h
  exact ⟨b, cap, rfl, by omega, h2, h3, h4, fun i hi => cell_carry hb h1 (h5 i hi), cell_carry hb h1 h6, h8.carry hb h1⟩
theorem TwFlows.carry {w w' : World} {lo lo' : Nat} {l : List Fl} {s : Value} (h : TwFlows w lo l s) (hb : ∀ b, lo ≤ b → b < w.heap.size → w'.heap[b]? = w.heap[b]?) (hl : lo' ≤ lo) : TwFlows w' lo' l s := by
  obtain ⟨b, cap, sl, rfl, h1, h2, h3, h4, h5, h6, h7, h8⟩ := h
  exact ⟨b, cap, sl, rfl, by omega, h2, h3, h4, fun i hi => (h5 i hi).carry hb h1, h6.carry hb h1, fun i hi => Tw.carryN (fun b' hb' hlt => hb b' (by omega) hlt) (Nat.le_refl _) _ _ _ (Nat.le_refl _) (h7 i hi), h8.carry hb h1⟩
theorem TwIns.at {w : World} {lo : Nat} {l : List Hd} {s : Value} (h : TwIns w lo l s) : InsAt w l s := by
  obtain ⟨b, cap, rfl, h1, h2, h3, h4, h5, h6⟩ := h
  exact ⟨_, cap, rfl, h2, by omega, h4, .inr ⟨b, 0, rfl, fun i hi => by simpa using h5 i hi⟩⟩
theorem TwTexts.at {w : World} {lo : Nat} {l : List ByteArray} {s : Value} (h : TwTexts w lo l s) : TextsAt w l s := by
  obtain ⟨b, cap, rfl, h1, h2, h3, h4, h5, h6⟩ := h
  exact ⟨_, cap, rfl, h2, by omega, h4, .inr ⟨b, 0, rfl, fun i hi => by simpa using h5 i hi⟩⟩
theorem TwFlows.at {w : World} {lo : Nat} {l : List Fl} {s : Value} (h : TwFlows w lo l s) : FlowsAt w l s := by
  obtain ⟨b, cap, sl, rfl, h1, h2, h3, h4, h5, h6, h7, h8⟩ := h
  exact ⟨_, cap, sl, rfl, h2, by omega, h4, .inr ⟨b, 0, rfl, fun i hi => by simpa using h5 i hi⟩, fun i hi => (h7 i hi).st⟩
/-- A twin of a program. -/
structure TwPg (w : World) (lo : Nat) (p : Pg) (a b c : Value) : Prop where
  st : -9223372036854775808 ≤ p.st ∧ p.st ≤ 9223372036854775807
  ins : TwIns w lo p.ins a
  flows : TwFlows w lo p.flows b
  outs : TwTexts w lo p.outs c
theorem TwPg.carry {w w' : World} {lo lo' : Nat} {p : Pg} {a b c : Value} (h : TwPg w lo p a b c) (hb : ∀ b, lo ≤ b → b < w.heap.size → w'.heap[b]? = w.heap[b]?) (hl : lo' ≤ lo) : TwPg w' lo' p a b c :=
  ⟨h.st, h.ins.carry hb hl, h.flows.carry hb hl, h.outs.carry hb hl⟩
theorem TwPg.keep {w w' : World} {lo : Nat} {p : Pg} {a b c : Value} (h : TwPg w lo p a b c) (hb : Below w.heap.size w w') : TwPg w' lo p a b c := h.carry (fun b _ hlt => hb.block b hlt) (Nat.le_refl _)
theorem TwPg.at {w : World} {lo : Nat} {p : Pg} {a b c : Value} (h : TwPg w lo p a b c) : PgAt w p a b c := ⟨h.st, h.ins.at, h.flows.at, h.outs.at⟩
/-! ### A row that is made -/
theorem flat_at {c : Nat} : ∀ {es : List (List Value)} {i : Nat} {e : List Value} {j : Nat} {rest : List Value}, (∀ e ∈ es, e.length = c) → es[i]? = some e → j < c → (es.flatten ++ rest)[i * c + j]? = e[j]?
  | [], i, e, j, rest, _, h, _ => by simp at h
  | x :: es, 0, e, j, rest, hl, h, hj => by
    simp at h
    subst h
    have := hl x (by simp)
    rw [List.flatten_cons, List.append_assoc, List.getElem?_append_left (by omega)]
    simp
  | x :: es, i + 1, e, j, rest, hl, h, hj => by
    have hx := hl x (by simp)
    rw [List.flatten_cons, List.append_assoc, List.getElem?_append_right (by rw [hx, Nat.add_mul]; omega), hx, show (i + 1) * c + j - c = i * c + j by rw [Nat.add_mul]; omega]
    exact flat_at (fun e he => hl e (by simp [he])) (by simpa using h) hj
theorem flat_len {c : Nat} : ∀ {es : List (List Value)}, (∀ e ∈ es, e.length = c) → es.flatten.length = es.length * c
  | [], _ => by simp
  | x :: es, hl => by
    have hx := hl x (by simp)
    rw [List.flatten_cons, List.length_append, flat_len (fun e he => hl e (by simp [he])), hx, List.length_cons, Nat.add_mul]
    omega
/-- While a row is made. -/
structure MkR (w : World) (t c n : Nat) (es : List (List Value)) (W : World) : Prop where
  below : Below w.heap.size w W
  row : W.ownsRow w.heap.size t c (.slice (some ⟨w.heap.size, 0, none⟩) es.length (n + 1)) es.length es.flatten
  each : ∀ e ∈ es, e.length = c
  size : w.heap.size < W.heap.size
theorem MkR.start {w w1 : World} {t c n : Nat} (hown : w1.ownsRow w.heap.size t c (.slice (some ⟨w.heap.size, 0, none⟩) 0 (n + 1)) 0 []) (hg : w.grownBy w1 none) : MkR w t c n [] w1 where
  below := (Below.refl _ _).grown hg (Nat.le_refl _) (fun k hk => by cases hk)
  row := hown
  each := fun p hp => by cases hp
  size := by
    rcases hown.2 with ⟨h, _⟩ | ⟨g, c, cur, e, _, hh, _⟩
    · cases h
    · injection e with e1 _ _
      injection e1 with e1
      injection e1 with e1 _ _
      subst e1
      exact (Array.getElem?_eq_some_iff.1 hh).1
theorem MkR.step {w W W' : World} {t c n : Nat} {es : List (List Value)} (h : MkR w t c n es W) (hb : Below W.heap.size W W') : MkR w t c n es W' :=
  ⟨bstep h.below hb, by
    have hr := h.row
    refine ⟨hr.1, ?_⟩
    rcases hr.2 with hn | ⟨g, cap, cur, e, hg0, hg, rest⟩
    · exact .inl hn
    · exact .inr ⟨g, cap, cur, e, hg0, (hb.block g (Array.getElem?_eq_some_iff.1 hg).1).trans hg, rest⟩, h.each, Nat.lt_of_lt_of_le h.size hb.size⟩
theorem MkR.grow {w W W' : World} {t c n k : Nat} {es : List (List Value)} {e : List Value} (h : MkR w t c n es W) (hk : es.length = k) (he : e.length = c)
    (hr : W'.ownsRow w.heap.size t c (.slice (some ⟨w.heap.size, 0, none⟩) (k + 1) (n + 1)) (k + 1) (es.flatten ++ e)) (hg : W.grownBy W' (some w.heap.size)) : MkR w t c n (es ++ [e]) W' where
  below := h.below.grown hg h.below.size (fun j hj => by cases hj; exact Nat.le_refl _)
  row := by
    have e1 : (es ++ [e]).length = k + 1 := by simp [hk]
    have e2 : (es ++ [e]).flatten = es.flatten ++ e := by simp
    rw [e1, e2]; exact hr
  each := fun p hp => by
    rcases List.mem_append.1 hp with hp | hp
    · exact h.each p hp
    · rw [List.mem_singleton.1 hp]; exact he
  size := Nat.lt_of_lt_of_le h.size hg.size
theorem Blk.of_row {W : World} {lo t c g n cap : Nat} {xs : List Value} (h : W.ownsRow lo t c (.slice (some ⟨g, 0, none⟩) n cap) n xs) : Blk W g t c cap := by
  rcases h.2 with ⟨h, _⟩ | ⟨g', c', cur, e, _, hh, _, h1, h2, _⟩
  · cases h
  · injection e with e1 _ e3
    injection e1 with e1
    injection e1 with e1 _ _
    subst e1 e3
    exact ⟨cur, hh, h2, h1⟩
/-- The cells of a row that was made, with the mark behind it. -/
theorem MkR.cells {w W' : World} {t c n k : Nat} {es : List (List Value)} {sp : List Value} (hl : ∀ e ∈ es, e.length = c) (hk : es.length = k) (hsp : sp.length = c)
    (hr : W'.ownsRow w.heap.size t c (.slice (some ⟨w.heap.size, 0, none⟩) (k + 1) (n + 1)) (k + 1) (es.flatten ++ sp)) :
    (∀ i e j v, es[i]? = some e → e[j]? = some v → W'.cell? ⟨w.heap.size, i * c + j, none⟩ = some v) ∧ ∀ j v, sp[j]? = some v → W'.cell? ⟨w.heap.size, k * c + j, none⟩ = some v := by
  have lt : ∀ {l : List Value} {j : Nat} {v : Value}, l[j]? = some v → j < l.length := fun h => (List.getElem?_eq_some_iff.1 h).1
  refine ⟨fun i e j v he hj => ?_, fun j v hj => ?_⟩
  · have hi : i < es.length := (List.getElem?_eq_some_iff.1 he).1
    have hj' := lt hj
    have hec := hl e (List.mem_of_getElem? he)
    have hb : i * c + j < (k + 1) * c := by
      have : (i + 1) * c ≤ k * c := Nat.mul_le_mul_right c (by omega)
      rw [Nat.add_mul] at this ⊢
      omega
    rw [hr.cellAt _ hb, flat_at hl he (by omega)]
    exact hj
  · have hj' := lt hj
    have hb : k * c + j < (k + 1) * c := by rw [Nat.add_mul]; omega
    rw [hr.cellAt _ hb, List.getElem?_append_right (by rw [flat_len hl, hk]; omega), flat_len hl, hk, show k * c + j - k * c = j by omega]
    exact hj
theorem next_cells (w : World) (l : List Value) (t : TypeId) : ∀ j u, l[j]? = some u → (w.alloc (.cells l.toArray t)).cell? ((⟨w.heap.size, 0, none⟩ : Addr).add j) = some u := by
  intro j u hj
  have hadd : (⟨w.heap.size, 0, none⟩ : Addr).add j = ⟨w.heap.size, j, none⟩ := by unfold Addr.add; split <;> simp_all
  rw [hadd, World.cell?_alloc_at _ _ _ _ rfl]
  simpa using hj
abbrev hdL (x : Hd) : List Value := [.string x.name, .int .u8 (x.ty : Int), .int .i64 x.st]
abbrev flL (x : Fl) (s : Value) : List Value := [.string x.name, .int .u8 (x.ty : Int), .int .i64 x.st, .int .i64 x.df, .int .u8 (x.body.op : Int), .int .i64 x.body.n, .string x.body.name, s]
end Go.Proofs.YtejacmgppnafcabDoor.Lex
namespace Go.Proofs.YtejacmgppnafcabDoor.Lex
open Go.ChangeShapes Go.WideShapes Go.ChangeAt Go.RowKit Go.Joins
/-- By the rule of its operator. -/
def ruleS (op : Nat) (ts : List Nat) : Nat := if op = 18 then beg (ts.headD 0) ((ts.drop 1).headD 0) else if op = 19 then lat ts + 1 else lat ts
/-- The instant of what may be. -/
def stE : Ex → Nat
  | ⟨op, _, _, args⟩ => if args.length = 0 then 0 else ruleS op (args.map stE)
theorem stE_eq (x : Ex) : stE x = if x.args.length = 0 then 0 else ruleS x.op (x.args.map stE) := by
  obtain ⟨op, n, nm, args⟩ := x
  rw [stE]
/-- Each part has its fields. -/
def okD : Nat → Ex → Prop
  | 0, _ => False
  | d + 1, x => fieldsOk x.op x.n x.name x.args.length = true ∧ ∀ y ∈ x.args, okD d y
theorem sz_ok : ∀ (d m : Nat) (x : Ex) (k : Nat), sz d m x = some k → okD d x
  | 0, m, x, k, h => by simp [sz] at h
  | d + 1, m, x, k, h => by
    unfold sz at h
    by_cases hm : m = 0 ∨ fieldsOk x.op x.n x.name x.args.length = false
    · rw [if_pos hm] at h; cases h
    · rw [if_neg hm] at h
      refine ⟨by cases e : fieldsOk x.op x.n x.name x.args.length with | true => rfl | false => exact (hm (.inr e)).elim, ?_⟩
      have key : ∀ (l : List Ex) (n k : Nat), szL (sz d) m n l = some k → ∀ y ∈ l, okD d y := by
        intro l
        induction l with
        | nil => intro n k _ y hy; cases hy
        | cons a l ih =>
          intro n k h y hy
          simp only [szL] at h
          cases hz : sz d (m - n) a with
          | none => rw [hz] at h; cases h
          | some j =>
            rw [hz] at h
            rcases List.mem_cons.1 hy with rfl | hy
            · exact sz_ok d _ _ j hz
            · exact ih _ _ h y hy
      exact key x.args 1 k h
theorem chk_ok {x : Ex} (h : chk x = true) : okD 32 x := by
  unfold chk at h
  obtain ⟨k, hk⟩ := Option.isSome_iff_exists.1 h
  exact sz_ok 32 200 x k hk
theorem jOf_le {op : Nat} (h : (jOf op).isSome = true) : 4 ≤ op ∧ op ≤ 19 ∧ op ≠ 17 ∧ op ≠ 4 ∧ op ≠ 5 ∧ op ≠ 19 := by
  unfold jOf at h
  rw [List.find?_isSome] at h
  obtain ⟨r, hr, he⟩ := h
  have key : ∀ r ∈ JT, 4 ≤ r.op ∧ r.op ≤ 19 ∧ r.op ≠ 17 ∧ r.op ≠ 4 ∧ r.op ≠ 5 ∧ r.op ≠ 19 := by decide
  rw [beq_iff_eq] at he
  rw [← he]
  exact key r hr
theorem ok_parts {x : Ex} (h : fieldsOk x.op x.n x.name x.args.length = true) (h1 : x.op ≠ 1) (h2 : x.op ≠ 2) (h3 : x.op ≠ 3) : 4 ≤ x.op ∧ x.op ≤ 19 ∧ 0 < x.args.length ∧ x.args.length ≤ 3 ∧ (x.op = 17 → x.args.length = 3) := by
  unfold fieldsOk at h
  rw [if_neg h1, if_neg h2, if_neg h3] at h
  simp only [Bool.and_eq_true, decide_eq_true_eq] at h
  obtain ⟨hp, _, _, hl⟩ := h
  unfold parts at hp hl
  by_cases ha : x.op = 4 ∨ x.op = 5 ∨ x.op = 19
  · rw [if_pos ha] at hl; omega
  · rw [if_neg ha] at hp hl
    by_cases hb : x.op = 17
    · rw [if_pos hb] at hl; omega
    · rw [if_neg hb] at hp hl
      by_cases hc : (jOf x.op).isSome = true
      · rw [if_pos hc] at hl
        have := jOf_le hc
        omega
      · rw [if_neg hc] at hp; omega
theorem ok_then {x : Ex} (h : fieldsOk x.op x.n x.name x.args.length = true) (h1 : x.op = 18) : x.args.length = 2 := by
  unfold fieldsOk at h
  rw [if_neg (by omega), if_neg (by omega), if_neg (by omega)] at h
  simp only [Bool.and_eq_true, decide_eq_true_eq] at h
  obtain ⟨hp, _, _, hl⟩ := h
  unfold parts at hp hl
  rw [h1] at hl
  have e : (jOf 18).isSome = true := by decide +kernel
  rw [if_neg (by omega), if_neg (by omega), if_pos e] at hl
  omega
theorem ok_none {x : Ex} (h : fieldsOk x.op x.n x.name x.args.length = true) (h0 : 0 < x.args.length) : 4 ≤ x.op ∧ x.op ≤ 19 ∧ x.args.length ≤ 3 := by
  by_cases h1 : x.op = 1
  · unfold fieldsOk at h; rw [if_pos h1] at h; simp only [Bool.and_eq_true, decide_eq_true_eq] at h; omega
  by_cases h2 : x.op = 2
  · unfold fieldsOk at h; rw [if_neg h1, if_pos h2] at h; simp only [Bool.and_eq_true, decide_eq_true_eq] at h; omega
  by_cases h3 : x.op = 3
  · unfold fieldsOk at h; rw [if_neg h1, if_neg h2, if_pos h3] at h; simp only [Bool.and_eq_true, decide_eq_true_eq] at h; omega
  have := ok_parts h h1 h2 h3
  omega
theorem lat_le {ts : List Nat} {m : Nat} (h : ∀ t ∈ ts, t ≤ m) : lat ts ≤ m := by
  have key : ∀ (l : List Nat) (a : Nat), a ≤ m → (∀ t ∈ l, t ≤ m) → l.foldl max a ≤ m := by
    intro l
    induction l with
    | nil => intro a ha _; exact ha
    | cons t l ih => intro a ha hl; exact ih _ (by have := hl t (by simp); omega) (fun u hu => hl u (by simp [hu]))
  exact key ts 0 (by omega) h
theorem stE_le : ∀ (d : Nat) (x : Ex), okD d x → stE x ≤ d
  | 0, _, h => h.elim
  | d + 1, x, h => by
    rw [stE_eq]
    by_cases h0 : x.args.length = 0
    · rw [if_pos h0]; omega
    · rw [if_neg h0]
      have hl : ∀ t ∈ x.args.map stE, t ≤ d := fun t ht => by
        obtain ⟨y, hy, rfl⟩ := List.mem_map.1 ht
        exact stE_le d y (h.2 y hy)
      unfold ruleS
      by_cases h1 : x.op = 18
      · rw [if_pos h1]
        have e := ok_then h.1 h1
        obtain ⟨a, b, hab⟩ : ∃ a b, x.args.map stE = [a, b] := by
          have e2 : (x.args.map stE).length = 2 := by simpa using e
          match hq : x.args.map stE, e2 with
          | [a, b], _ => exact ⟨a, b, rfl⟩
        rw [hab] at hl ⊢
        have hb := hl b (by simp)
        simp only [beg, List.headD_cons, List.drop_succ_cons, List.drop_zero]
        split <;> omega
      · rw [if_neg h1]
        have := lat_le hl
        by_cases h2 : x.op = 19
        · rw [if_pos h2]; omega
        · rw [if_neg h2]; omega
/-- The row of the parts' instants, while it is made. -/
structure YL (w1 : World) (l : List Nat) (v : Value) (W : World) : Prop where
  below : Below w1.heap.size w1 W
  own : W.ownsRow w1.heap.size 3 1 v l.length (l.map fun (t : Nat) => Value.int .i64 (t : Int))
theorem own_carry8 {w W : World} {lo t c n : Nat} {v : Value} {xs : List Value} (h : w.ownsRow lo t c v n xs) (hb : ∀ b, lo ≤ b → b < w.heap.size → W.heap[b]? = w.heap[b]?) : W.ownsRow lo t c v n xs := by
  refine ⟨h.1, h.2.imp_right ?_⟩
  rintro ⟨g, cap, cur, e, h1, h2, rest⟩
  exact ⟨g, cap, cur, e, h1, (hb g h1 (Array.getElem?_eq_some_iff.1 h2).1).trans h2, rest⟩
theorem YL.start (w1 : World) : YL w1 [] (.slice none 0 0) w1 := ⟨Below.refl _ _, rfl, .inl ⟨rfl, rfl⟩⟩
theorem YL.keep {w1 W W' : World} {l : List Nat} {v : Value} (h : YL w1 l v W) (hb : Below W.heap.size W W') : YL w1 l v W' := ⟨h.below.trans (hb.mono h.below.size), own_carry8 h.own (fun b _ hlt => hb.block b hlt)⟩
theorem YL.grow {w1 W W' : World} {l : List Nat} {v v' : Value} {t : Nat} (h : YL w1 l v W) (hown : W'.ownsRow w1.heap.size 3 1 v' (l.length + 1) ((l.map fun (t : Nat) => Value.int .i64 (t : Int)) ++ [.int .i64 (t : Int)])) (hg : W.grownBy W' v.ownBlock) : YL w1 (l ++ [t]) v' W' where
  below := h.below.grown hg h.below.size (fun j hj => by
    rcases h.own.2 with ⟨e, _⟩ | ⟨g, cap, cur, e, h1, _⟩
    · rw [e] at hj; cases hj
    · rw [e] at hj; have hj' : g = j := by injection hj
      omega)
  own := by
    have e1 : (l ++ [t]).length = l.length + 1 := by simp
    rw [e1, List.map_append]
    exact hown
theorem YL.at {w1 W : World} {l : List Nat} {v : Value} (h : YL w1 l v W) (h0 : 0 < l.length) : ∃ g cap, v = .slice (some ⟨g, 0, none⟩) l.length cap ∧ l.length ≤ cap ∧ SAt W g 0 l := by
  have hown := h.own
  rcases hown.2 with ⟨e, e0⟩ | ⟨g, cap, cur, e, _, _, hc, _⟩
  · omega
  · refine ⟨g, cap, e, hc, fun i hi => ?_⟩
    subst e
    rw [Nat.zero_add, hown.cellAt i (by omega), List.getElem?_map, List.getElem?_eq_getElem hi]
    rfl
theorem inf3 : (Tryd.prog.info? 3).map (fun i => (i.zero, i.size, i.bytes)) = some (some (.int .i64 0), 1, 8) := by kernel_rfl
def StC (x : Ex) : Prop := ∀ (w : World) (s : Value) (b : Nat), Asks w b → St w x s → Calls Tryd.prog 22 #[.map (some b), exV x s] w fun e w' => e = .returned (.int .i64 (stE x : Int)) ∧ Below w.heap.size w w'
set_option maxRecDepth 100000 in
set_option maxHeartbeats 4000000 in
theorem start_of_ (d : Nat) (hd : d ≤ 1000) (ih : ∀ x, okD d x → StC x) (x : Ex) (hx : okD (d + 1) x) : StC x := by
  intro w s b hA hS
  obtain ⟨ao, cap, sl, rfl, hop, hn, hnm, hlen, _, hc, hs⟩ := hS.out
  have HS := hid hs
  have HC := hid hc
  have HI := hid (fun i (hi : i < x.args.length) => ih x.args[i] (hx.2 _ (List.getElem_mem hi)))
  have HF := hid hx.1
  have HLE : Hid (∀ t ∈ x.args.map stE, t ≤ d) := hid (fun t ht => by
    obtain ⟨y, hy, rfl⟩ := List.mem_map.1 ht
    exact stE_le d y (hx.2 y hy))
  have B2 := hid ((Below.refl w.heap.size w).alloc (Nat.le_refl _) (.cells #[.int .u8 (x.op : Int), .int .i64 x.n, .string x.name, .slice ao x.args.length cap] 30))
  have HW := hid hA
  have RX := hid (heap_alloc_new w (.cells #[.int .u8 (x.op : Int), .int .i64 x.n, .string x.name, .slice ao x.args.length cap] 30))
  obtain ⟨i0, hi, hz0, hz1, hz2⟩ := info_parts inf3
  clear hs hc ih hx hS hA
  by_cases h0 : x.args.length = 0
  · have e1 : ((x.args.length : Int) == 0) = true := by rw [beq_iff_eq]; omega
    have HV : Hid (stE x = 0) := hid (by rw [stE_eq, if_pos h0])
    clear h0
    go_enter Tryd.func22, Tryd.ntmps22
    go_wp2_with (fail)
    go_ret
    exact ⟨by rw [HV.out]; rfl, B2.out⟩
  have e1 : ((x.args.length : Int) == 0) = false := by rw [beq_eq_false_iff_ne]; omega
  have HOK := hid (ok_none HF.out (by omega))
  go_enter Tryd.func22, Tryd.ntmps22
  go_wp2_with (fail)
  generalize w.alloc (.cells #[.int .u8 (x.op : Int), .int .i64 x.n, .string x.name, .slice ao x.args.length cap] 30) = W2 at *
  go_loopw [5, 15] (fun v i wr => ∃ k : Nat, k ≤ x.args.length ∧ i = .int .i64 (k : Int) ∧ Hid (YL W2 ((x.args.take k).map stE) v wr)) (fun _ i _ => x.args.length - (intOf i).toNat)
  case atStart => exact ⟨0, Nat.zero_le _, rfl, hid (by simpa using YL.start W2)⟩
  case round =>
    obtain ⟨k, hk, rfl, HY⟩ := hrel
    have HBW := hid (bstep B2.out HY.out.below)
    have RXk := hid ((HY.out.below.block _ (Array.getElem?_eq_some_iff.1 RX.out).1).trans RX.out)
    have q0 := (cell_of_row wr w.heap.size 0 _ 30 (0, 0) RXk.out).trans (show _ = some (.int .u8 (x.op : Int)) from rfl)
    have q3 := (cell_of_row wr w.heap.size 3 _ 30 (0, 0) RXk.out).trans (show _ = some (.slice ao x.args.length cap) from rfl)
    by_cases hlt : k < x.args.length
    · have hlt' : (k : Int) < (x.args.length : Int) := by omega
      have hk0 : (0 : Int) ≤ (k : Int) := by omega
      obtain ⟨bb, o, rfl, hc⟩ := HC.out.resolve_left (by omega)
      obtain ⟨g0, g1, g2, g3⟩ := hc k hlt
      have y0 := cell_kept g0 HBW.out
      have y1 := cell_kept g1 HBW.out
      have y2 := cell_kept g2 HBW.out
      have y3 := cell_kept g3 HBW.out
      obtain ⟨a4, c4, _, e4, _⟩ := (HS.out k hlt).out
      rw [e4] at y3
      have HT : Hid ((x.args.take (k + 1)).map stE = (x.args.take k).map stE ++ [stE x.args[k]]) := hid (by rw [List.take_succ_eq_append_getElem hlt, List.map_append]; rfl)
      have hll : ((x.args.take k).map stE).length ≤ 3 := by have := HOK.out; simp; omega
      have HST := hid (e4 ▸ HS.out k hlt)
      have HIK := hid (HI.out k hlt)
      clear g0 g1 g2 g3 hc e4
      generalize x.args[k] = y at *
      have BA := hid ((Below.refl wr.heap.size wr).alloc (Nat.le_refl _) (.cells #[.int .u8 (y.op : Int), .int .i64 y.n, .string y.name, .slice a4 y.args.length c4] 30))
      have HBA := hid (bstep HBW.out BA.out)
      have c35 := HIK.out _ _ b (HW.out.keep HBA.out) (HST.out.keep HBA.out)
      generalize stE y = ty at *
      go_wp2_with (fail)
      refine c35.mono ?_
      rintro e w3 ⟨rfl, hb3⟩
      have Y3 := hid (HY.out.keep (bstep BA.out hb3))
      generalize (x.args.take k).map stE = ll at *
      have N2 := hid (Y3.out.keep ((Below.refl _ _).alloc (Nat.le_refl _) (.cells #[.int .i64 (ty : Int)] 3)))
      have W5 := hid (next_cells w3 [.int .i64 (ty : Int)] 3)
      have hmx : ll.length + 1 ≤ maxLen := by unfold maxLen; omega
      go_wp2_with (at_builtin; refine wpList_append_own _ rfl (.tmp 19) (.tmp 23) 73 rfl W2.heap.size 3 i0 _ 1 8 Tryd.underlying73 hi hz0 hz1 hz2 rfl (by decide) _ _ _ rfl N2.out.own ⟨w3.heap.size, 0, none⟩ 1 1 [.int .i64 (ty : Int)] rfl rfl W5.out (by simp [Value.oneCell']) hmx (by omega) N2.out.below.size ?_; intro v' w' hown1 hgrow1 _; have N3 := hid (N2.out.grow hown1 hgrow1); clear hown1 hgrow1)
      go_roundw
      case rel => exact ⟨k + 1, by omega, by go_num, hid (by rw [HT.out]; exact N3.out)⟩
      case measure => simp [intOf]; omega
    · have hlt' : ¬ (k : Int) < (x.args.length : Int) := by omega
      obtain rfl : k = x.args.length := by omega
      have HTS : Hid (x.args.map stE = (x.args.take x.args.length).map stE) := hid (by rw [List.take_length])
      have HTL : Hid (((x.args.take x.args.length).map stE).length = x.args.length) := hid (by simp)
      have HL0 : Hid (0 < ((x.args.take x.args.length).map stE).length) := hid (by rw [HTL.out]; omega)
      have HL3 : Hid (((x.args.take x.args.length).map stE).length ≤ 3) := hid (by have := HOK.out; rw [HTL.out]; omega)
      obtain ⟨g, gc, rfl, hgc, hty⟩ := HY.out.at HL0.out
      have HTY := hid hty
      obtain ⟨mm, hmap⟩ := HW.out.keep HBW.out
      obtain ⟨fv, fps, hrun, hfr⟩ := hmap.look hop
      clear hmap hty hgc HY hk hlt
      have HLE2 := hid (HTS.out ▸ HLE.out)
      generalize (x.args.take x.args.length).map stE = ts at *
      have HV0 : Hid (stE x = ruleS x.op ts) := hid (by rw [stE_eq, if_neg h0, HTS.out])
      by_cases hk0 : x.op = 18
      · have HT8 : TS x.op = fyD 32 := by unfold TS; rw [if_pos hk0]
        have hl2 := ok_then HF.out hk0
        rw [HT8] at hfr
        obtain rfl := fR_invy hfr
        obtain ⟨a1, b1, rfl⟩ : ∃ a b, ts = [a, b] := by
          have e2 : ts.length = 2 := by rw [HTL.out]; exact hl2
          match ts, e2 with
          | [a, b], _ => exact ⟨a, b, rfl⟩
        have HV : Hid (stE x = beg a1 b1) := hid (by rw [HV0.out]; unfold ruleS; rw [if_pos hk0]; rfl)
        have c := begun a1 b1 g 0 gc _ HTY.out
        rw [show ([a1, b1] : List Nat).length = 2 from rfl]
        generalize beg a1 b1 = tv at c HV
        clear hfr HT8 hk0 h0 hl2 HV0 HLE2 HLE HTS HTL HL0 HL3 HTY
        go_wp2_with (fail)
        refine c.mono ?_
        rintro e w3 ⟨rfl, hb3⟩
        have hB := bstep HBW.out hb3
        go_wp2_with (fail)
        go_ret
        exact ⟨by rw [HV.out]; rfl, hB⟩
      by_cases hk1 : x.op = 19
      · have HT8 : TS x.op = fyD 33 := by unfold TS; rw [if_neg hk0, if_pos hk1]
        have HV : Hid (stE x = lat ts + 1) := hid (by rw [HV0.out]; unfold ruleS; rw [if_neg hk0, if_pos hk1])
        rw [HT8] at hfr
        obtain rfl := fR_invy hfr
        have c := later ts g 0 gc _ HTY.out (by have := HL3.out; omega) (by have := lat_le HLE2.out; omega)
        generalize lat ts + 1 = tv at c HV
        clear hfr HT8 hk1 hk0 h0 HV0
        go_wp2_with (fail)
        refine c.mono ?_
        rintro e w3 ⟨rfl, rfl⟩
        have hB := HBW.out
        go_wp2_with (fail)
        go_ret
        exact ⟨by rw [HV.out]; rfl, hB⟩
      have HT8 : TS x.op = fyD 31 := by unfold TS; rw [if_neg hk0, if_neg hk1, if_pos (by have := HOK.out; omega)]
      have HV : Hid (stE x = lat ts) := hid (by rw [HV0.out]; unfold ruleS; rw [if_neg hk0, if_neg hk1])
      rw [HT8] at hfr
      obtain rfl := fR_invy hfr
      have c := latest ts g 0 gc _ HTY.out (by have := HL3.out; omega)
      generalize lat ts = tv at c HV
      clear hfr HT8 hk1 hk0 h0 HV0
      go_wp2_with (fail)
      refine c.mono ?_
      rintro e w3 ⟨rfl, rfl⟩
      have hB := HBW.out
      go_wp2_with (fail)
      go_ret
      exact ⟨by rw [HV.out]; rfl, hB⟩
theorem start_any : ∀ (d : Nat) (x : Ex), d ≤ 1000 → okD d x → StC x
  | 0, _, _, h => h.elim
  | d + 1, x, hd, h => start_of_ d (by omega) (fun y hy => start_any d y (by omega) hy) x h
/-- startOf of what may be. -/
theorem start_of (x : Ex) (h : chk x = true) : StC x := start_any 32 x (by omega) (chk_ok h)
end Go.Proofs.YtejacmgppnafcabDoor.Lex
namespace Go.Proofs.YtejacmgppnafcabDoor.Lex
open Go.ChangeShapes Go.WideShapes Go.ChangeAt Go.RowKit Go.Shelf
attribute [local go_sem] Oper.semAt_some
/-- What a round keeps: all below some block, and one block. -/
def KpT (n₀ Bn : Nat) (W W' : World) : Prop := Below n₀ W W' ∧ W'.heap[Bn]? = W.heap[Bn]?
theorem KpT.trans {n₀ Bn : Nat} {A B C : World} (h : KpT n₀ Bn A B) (k : KpT n₀ Bn B C) : KpT n₀ Bn A C := ⟨h.1.trans k.1, k.2.trans h.2⟩
set_option maxRecDepth 100000 in
set_option maxHeartbeats 2000000 in
theorem things2 (F : Fence) (n : Nat) (h22 : F.fn 30) (hro : F.round = none) (hn : 1 ≤ n) (l Bn n₀ : Nat) (p : Pg) (a b c : Value) (J Jx : List (Int × Hd) → World → Prop) (W0 W : World) (hW0 : n₀ = W0.heap.size) (hW : Below n₀ W0 W) (hP : PgAt W0 p a b c)
    (hA : AbidesFrom W.heap.size J)
    (hY : ∀ pre x W, J pre W → pre ++ [x] <+: thingsL p → YieldAt F (n - 1) Tryd.prog l #[.int .i64 x.1, hdV x.2] W fun e W' =>
      (e = .returned (.bool true) ∧ J (pre ++ [x]) W' ∧ KpT n₀ Bn W W') ∨ (e = .returned (.bool false) ∧ Jx (pre ++ [x]) W'))
    (hBx : W.heap[Bn]? = some (.cells (pgC p a b c) 26 (0, 0))) (h0 : J [] W) :
    CallsIn F n Tryd.prog 30 #[.func (.yield l) #[] #[], .pointer (some ⟨Bn, 0, none⟩)] W fun e W' => (∃ v, e = .returned v) ∧
      ((∃ ys, ys = thingsL p ∧ J ys W') ∨ (∃ pre, pre <+: thingsL p ∧ Jx pre W')) := by
  subst hW0
  obtain ⟨ao, cap, rfl, hlen, _, _, hc⟩ := hP.ins
  obtain ⟨bo, cbp, sl, rfl, hlen2, _, _, hc2, hs2⟩ := hP.flows
  have HS2 := hid hs2
  have HC := hid hc
  have HC2 := hid hc2
  clear hc hc2 hs2 hP
  have x1 : W.cell? ⟨Bn, 1, none⟩ = some (.slice ao p.ins.length cap) := by rw [cell_of_row _ _ _ _ 26 (0, 0) hBx]; rfl
  have HBX := hid hBx
  have AL : ∀ (s : List (Int × Hd)) (V : World) (o : Obj), J s V → J s (V.alloc o) := fun s V o h => hA s V _ none h (World.grownBy_alloc V o none) (fun r e => by cases e)
  clear hBx hA
  refine callsIn_of_wp Tryd.func30 rfl h22 ?_ hro
  simp only [Tryd.ntmps30, List.size_toArray, List.length_cons, List.length_nil, Nat.reduceAdd, Nat.reduceSub, Array.replicate_succ, Array.replicate_zero, List.push_toArray, List.append_toArray, List.nil_append, List.cons_append]
  gi_wp2
  gi_loopw [10] (fun i wr => ∃ k : Nat, k ≤ p.ins.length ∧ i = .int .i64 (k : Int) ∧ Hid (J ((insL p).take k) wr) ∧ Hid (Below W0.heap.size W0 wr) ∧ Hid (wr.heap[Bn]? = some (.cells (pgC p (.slice ao p.ins.length cap) (.slice bo p.flows.length cbp) c) 26 (0, 0)))) (fun i wr => p.ins.length - (intOf i).toNat)
  case atStart => exact ⟨0, Nat.zero_le _, rfl, hid h0, hid hW, HBX⟩
  case round =>
    obtain ⟨k, hk, rfl, hJ, hB, hBX⟩ := hrel
    by_cases hlt : k < p.ins.length
    · have hlt' : (k : Int) < (p.ins.length : Int) := by omega
      have hk0 : (0 : Int) ≤ (k : Int) := by omega
      obtain ⟨bb, o, rfl, hcc⟩ := HC.out.resolve_left (by omega)
      obtain ⟨v0, v1, v2⟩ := (hcc k hlt).keep hB.out
      have HS := hid (insL_succ p k hlt)
      obtain ⟨fn, tmps, assign, body, hy, hR⟩ := hY ((insL p).take k) (-1, p.ins[k]) (wr.alloc (.cells #[.string p.ins[k].name, .int .u8 (p.ins[k].ty : Int), .int .i64 p.ins[k].st] 63)) (AL _ _ _ hJ.out) (by rw [← insL_succ p k hlt]; exact (List.take_prefix _ _).trans (List.prefix_append _ _))
      dsimp only at hy
      clear hcc
      generalize p.ins[k] = y at *
      gi_wp2
      refine hR.mono ?_
      rintro e W3 (⟨rfl, hJ3, hk3⟩ | ⟨rfl, hJx3⟩)
      · gi_wp2
        go_roundw
        case rel => exact ⟨k + 1, by omega, by go_num, hid (by rw [HS.out]; exact hJ3), hid ((hB.out.alloc hB.out.size _).trans hk3.1), hid (hk3.2.trans ((Below.heap_alloc _ _ _ (Array.getElem?_eq_some_iff.1 hBX.out).1).trans hBX.out))⟩
        case measure => simp [intOf]; omega
      · gi_wp2
        refine bodyPost_ret (results_none rfl _ _ _) rfl ?_
        exact ⟨⟨_, rfl⟩, .inr ⟨_, by rw [← HS.out]; exact (List.take_prefix _ _).trans (List.prefix_append _ _), hJx3⟩⟩
    · have hlt' : ¬ (k : Int) < (p.ins.length : Int) := by omega
      have hJ' : Hid (J (insL p) wr) := by rw [List.take_of_length_le (by rw [insL_len]; omega)] at hJ; exact hJ
      have x2 : wr.cell? ⟨Bn, 2, none⟩ = some (.slice bo p.flows.length cbp) := by rw [cell_of_row _ _ _ _ 26 (0, 0) hBX.out]; rfl
      clear hJ
      gi_wp2
      gi_loopw [22] (fun i wr => ∃ k : Nat, k ≤ p.flows.length ∧ i = .int .i64 (k : Int) ∧ Hid (J (insL p ++ (flowsL p).take k) wr) ∧ Hid (Below W0.heap.size W0 wr)) (fun i wr => p.flows.length - (intOf i).toNat)
      case atStart => exact ⟨0, Nat.zero_le _, rfl, hid (by simpa using hJ'.out), hB⟩
      case round =>
        obtain ⟨j, hj, rfl, hJ2, hB'⟩ := hrel
        by_cases hjl : j < p.flows.length
        · have hjl' : (j : Int) < (p.flows.length : Int) := by omega
          have hj0 : (0 : Int) ≤ (j : Int) := by omega
          obtain ⟨b2, o2, rfl, hcc⟩ := HC2.out.resolve_left (by omega)
          have X := (hcc j hjl).keep hB'.out
          obtain ⟨a3, c3, _, e3, _⟩ := (HS2.out j hjl).out
          rw [e3] at X
          have HS := hid (flowsL_succ p j hjl)
          obtain ⟨fn, tmps, assign, body, hy, hR⟩ := hY (insL p ++ (flowsL p).take j) ((j : Int), p.flows[j].hd) (wr.alloc (.cells #[.string p.flows[j].name, .int .u8 (p.flows[j].ty : Int), .int .i64 p.flows[j].st, .int .i64 p.flows[j].df, .int .u8 (p.flows[j].body.op : Int), .int .i64 p.flows[j].body.n, .string p.flows[j].body.name, .slice a3 p.flows[j].body.args.length c3] 40)) (AL _ _ _ hJ2.out) (by rw [List.append_assoc, ← flowsL_succ p j hjl]; exact (List.prefix_append_right_inj _).2 (List.take_prefix _ _))
          dsimp only [Fl.hd] at hy
          clear hcc e3
          obtain ⟨v0, v1, v2, v3, v4, v5, v6, v7⟩ := X
          generalize p.flows[j] = y at *
          gi_wp2
          refine hR.mono ?_
          rintro e W3 (⟨rfl, hJ3, hk3⟩ | ⟨rfl, hJx3⟩)
          · gi_wp2
            go_roundw
            case rel => exact ⟨j + 1, by omega, by go_num, hid (by rw [HS.out, ← List.append_assoc]; exact hJ3), hid ((hB'.out.alloc hB'.out.size _).trans hk3.1)⟩
            case measure => simp [intOf]; omega
          · gi_wp2
            refine bodyPost_ret (results_none rfl _ _ _) rfl ?_
            exact ⟨⟨_, rfl⟩, .inr ⟨_, by rw [List.append_assoc, ← HS.out]; exact (List.prefix_append_right_inj _).2 (List.take_prefix _ _), hJx3⟩⟩
        · have hjl' : ¬ (j : Int) < (p.flows.length : Int) := by omega
          gi_wp2
          go_end0
          exact ⟨⟨_, rfl⟩, .inl (by have := hJ2.out; rw [List.take_of_length_le (by rw [flowsL_len]; omega)] at this; exact this)⟩
/-- A thing whose name is a string. -/
abbrev Tg := { x : Int × Hd // x.2.name.size ≤ 140737488355328 }
theorem things_size {w : World} {p : Pg} {a b c : Value} (hP : PgAt w p a b c) : ∀ x ∈ thingsL p, x.2.name.size ≤ 140737488355328 := fun x hx => by
  obtain ⟨_, _, _, _, _, ho1, _⟩ := hP.ins
  obtain ⟨_, _, _, _, _, _, ho2, _⟩ := hP.flows
  rcases List.mem_append.1 hx with hx | hx
  · obtain ⟨y, hy, rfl⟩ := List.mem_map.1 hx
    exact (ho1 y hy).1
  · obtain ⟨i, hi, rfl⟩ := List.mem_map.1 hx
    have hi' : i < p.flows.length := by simpa using hi
    simp only [List.getElem?_eq_getElem hi', Option.map_some, Option.getD_some]
    exact (ho2 _ (List.getElem_mem hi')).1
/-- What it hands back goes through the things. -/
theorem things_stops2 (F : Fence) (n : Nat) (h45 : F.fn 30) (hro : F.round = none) (hn : 1 ≤ n) (Bn : Nat) (p : Pg) (a b c : Value) (w0 w : World) (hP : PgAt w0 p a b c) (hb : Below w0.heap.size w0 w) (hBx : w.heap[Bn]? = some (.cells (pgC p a b c) 26 (0, 0))) :
    SeqStopsK F n Tryd.prog 30 #[.pointer (some ⟨Bn, 0, none⟩)] (fun x : Tg => #[.int .i64 x.1.1, hdV x.1.2]) (KpT w0.heap.size Bn) (fun ys => ys.map (·.1) = thingsL p) (fun pre => pre.map (·.1) <+: thingsL p) (thingsL p).length w := fun l J Jx W hW hA _ hY h0 => by
  have hsz := things_size hP
  refine (things2 F n h45 hro hn l Bn w0.heap.size p a b c (fun pre V => ∃ q : List Tg, q.map (·.1) = pre ∧ J q V) (fun pre V => ∃ q : List Tg, q.map (·.1) = pre ∧ Jx q V) w0 W rfl (hb.trans (hW.mono hb.size)) hP ?_ ?_ ((hW.block Bn (Array.getElem?_eq_some_iff.1 hBx).1).trans hBx) ⟨[], rfl, h0⟩).mono ?_
  · rintro s V V' row ⟨q, e, hJ⟩ hg hr
    exact ⟨q, e, hA q V V' row hJ hg hr⟩
  · rintro pre x V ⟨q, rfl, hJ⟩ hpre
    have hx : x ∈ thingsL p := hpre.subset (by simp)
    have hlen : q.length < (thingsL p).length := by have := hpre.length_le; simp at this; omega
    refine (hY q ⟨x, hsz x hx⟩ V hJ hlen).mono ?_
    rintro e V' (⟨rfl, h1, h2⟩ | ⟨rfl, h1⟩)
    · exact .inl ⟨rfl, ⟨q ++ [⟨x, hsz x hx⟩], by simp, h1⟩, h2⟩
    · exact .inr ⟨rfl, ⟨q ++ [⟨x, hsz x hx⟩], by simp, h1⟩⟩
  · rintro e V' ⟨hv, ⟨ys, rfl, q, e1, hJ⟩ | ⟨pre, hp, q, rfl, hJ⟩⟩
    · exact ⟨hv, .inl ⟨q, e1, hJ⟩⟩
    · exact ⟨hv, .inr ⟨q, hp, hJ⟩⟩
end Go.Proofs.YtejacmgppnafcabDoor.Lex
namespace Go.Proofs.YtejacmgppnafcabDoor.Lex
open Go.ChangeShapes Go.WideShapes Go.ChangeAt Go.RowKit Go.Shelf
attribute [local go_sem] Oper.semAt_some
/-- A look-up, by its run. -/
theorem wpListIn_look {F : Fence} {nF : Nat} {P : Program} {w : World} {ops : Array Oper} {rest : List Oper} {o : Oper} {a : Act} {Q : Exit → Act → World → Prop} (hg : o.guard = none) (m x : Operand) (t : TypeId) (hop : o.op = Op.lookup t m x false) (v : Value)
    (hrun : (Instr.lookup t (a.eval m) (a.eval x) false).run P w = .ok v w) (hK : wpListIn F nF P ops Q rest (a.put o.dst v) w) : wpListIn F nF P ops Q (o :: rest) a w := by
  refine wpListIn_plain hg fun K' hK' => ?_
  unfold Oper.wpIn
  refine ⟨by simp [Oper.about, hop], ?_⟩
  rw [Oper.semAt_plain F _ _ (by rw [hop]; intro c hc'; cases hc')]
  simp [execOp, hop, hrun, Result.andThen]
  exact hK' _ _ hK
/-- A store into a map, by its run. -/
theorem wpListIn_mapPut {F : Fence} {nF : Nat} {P : Program} {w w' : World} {ops : Array Oper} {rest : List Oper} {o : Oper} {a : Act} {Q : Exit → Act → World → Prop} (hg : o.guard = none) (m x v : Operand) (t : TypeId) (hop : o.op = Op.mapUpdate t m x v)
    (hrun : (Instr.mapUpdate t (a.eval m) (a.eval x) (a.eval v)).run P w = .ok () w') (hK : wpListIn F nF P ops Q rest (a.put o.dst undef) w') : wpListIn F nF P ops Q (o :: rest) a w := by
  refine wpListIn_plain hg fun K' hK' => ?_
  unfold Oper.wpIn
  refine ⟨by simp [Oper.about, hop], ?_⟩
  rw [Oper.semAt_plain F _ _ (by rw [hop]; intro c hc'; cases hc')]
  simp [execOp, hop, hrun, Result.andThen]
  exact hK' _ _ hK
/-- How many of them have the name. -/
def cntT (l : List (Int × Hd)) (u : List UInt8) : Nat := (l.filter fun x => decide (u = x.2.name.data.toList)).length
def cntO (l : List ByteArray) (u : List UInt8) : Nat := (l.filter fun x => decide (u = x.data.toList)).length
/-- The tallies. -/
def tly (l : List (Int × Hd)) (o : List ByteArray) (u : List UInt8) : Int × Int := ((cntT l u : Int), (cntO o u : Int))
theorem cntT_le (l : List (Int × Hd)) (u : List UInt8) : cntT l u ≤ l.length := List.length_filter_le _ _
theorem cntO_le (l : List ByteArray) (u : List UInt8) : cntO l u ≤ l.length := List.length_filter_le _ _
theorem tly_snoc (l : List (Int × Hd)) (x : Int × Hd) (o : List ByteArray) : (fun u => if u = x.2.name.data.toList then ((cntT l x.2.name.data.toList : Int) + 1, (cntO o x.2.name.data.toList : Int)) else tly l o u) = tly (l ++ [x]) o := by
  funext u
  unfold tly cntT
  by_cases e : u = x.2.name.data.toList
  · subst e
    simp
  · simp [e]
theorem tly_out (l : List (Int × Hd)) (y : ByteArray) (o : List ByteArray) : (fun u => if u = y.data.toList then ((cntT l y.data.toList : Int), (cntO o y.data.toList : Int) + 1) else tly l o u) = tly l (o ++ [y]) := by
  funext u
  unfold tly cntO
  by_cases e : u = y.data.toList
  · subst e
    simp
  · simp [e]
theorem cells_turn {X Y : World} {row : Option Nat} {B : Nat} {c : Array Value} {t : TypeId} {f : Nat × Nat} (hg : X.grownBy Y row) (hr : ∀ r, row = some r → ∃ o : Obj, X.heap[r]? = some o ∧ o.isCells = false) (h : X.heap[B]? = some (.cells c t f)) : Y.heap[B]? = some (.cells c t f) := by
  refine (hg.block B (Array.getElem?_eq_some_iff.1 h).1 ?_).trans h
  intro e
  obtain ⟨o, ho, hc⟩ := hr B e.symm
  rw [h] at ho
  cases ho
  cases hc
/-- Between two rounds of counted. -/
structure CI (w W0 : World) (pre : List Tg) (W : World) : Prop where
  map : TMap W (w.heap.size + 1) pre.length (tly (pre.map (·.1)) [])
  var : W.heap[w.heap.size + 1 + 1]? = some (.cells #[.map (some (w.heap.size + 1))] 76 (0, 0))
  prog : W.heap[w.heap.size]? = W0.heap[w.heap.size]?
  below : Below w.heap.size w W
  size : W0.heap.size ≤ W.heap.size
theorem CI.own {w W0 : World} (hsz : w.heap.size + 4 ≤ W0.heap.size) (hp : ∃ c t f, W0.heap[w.heap.size]? = some (.cells c t f)) : OwnFrom W0.heap.size (CI w W0) := fun pre X Y row hs hg hr =>
  ⟨hs.map.kept hg (fun e => by have := (hr _ e.symm).1; omega), cells_turn hg (fun r e => (hr r e).2) hs.var, by
    obtain ⟨c, t, f, e⟩ := hp
    rw [cells_turn hg (fun r e => (hr r e).2) (hs.prog.trans e), e], (ownFrom_below (w₀ := w) (Nat.le_refl _) (by omega) : OwnFrom W0.heap.size (fun (_ : Unit) W => Below w.heap.size w W)) () X Y row hs.below hg hr, Nat.le_trans hs.size hg.size⟩
theorem CI.alloc {w W0 W : World} {pre : List Tg} (h : CI w W0 pre W) (o : Obj) : CI w W0 pre (W.alloc o) :=
  ⟨h.map.kept (World.grownBy_alloc W o none) (by simp), by rw [Below.heap_alloc _ _ _ (Array.getElem?_eq_some_iff.1 h.var).1]; exact h.var, by rw [Below.heap_alloc _ _ _ (by have := (Array.getElem?_eq_some_iff.1 h.var).1; omega)]; exact h.prog, h.below.alloc h.below.size _, by simp; have := h.size; omega⟩
set_option maxRecDepth 100000 in
set_option maxHeartbeats 2000000 in
theorem counted_in (F : Fence) (n : Nat) (h23 : F.fn 36) (h24 : F.fn 21) (h45 : F.fn 30) (hro : F.round = none) (hn : 6 ≤ n) (p : Pg) (w : World) (a b c : Value) (hP : PgAt w p a b c) :
    CallsIn F n Tryd.prog 36 #[pgV p a b c] w fun e W' => e = .returned (.map (some (w.heap.size + 1))) ∧ TMap W' (w.heap.size + 1) (p.ins.length + p.flows.length + p.outs.length) (tly (thingsL p) p.outs) ∧ Below w.heap.size w W' := by
  have h1 : 1 ≤ n := by omega
  obtain ⟨a0, a1, rfl, hl1, _, ho1, _⟩ := hP.ins
  obtain ⟨b0, b1, _, rfl, hl2, _, ho2, _⟩ := hP.flows
  obtain ⟨c0, c1, rfl, hl3, _, ho3, hc3⟩ := hP.outs
  have HP := hid hP
  have HC3 := hid hc3
  have HO3 := hid ho3
  have HTL : Hid ((thingsL p).length = p.ins.length + p.flows.length) := hid (by simp [thingsL, insL_len, flowsL_len])
  clear hP hc3 ho1 ho2 ho3
  have hmm := @run_makeMap Tryd.prog
  refine callsIn_of_wp_marks Tryd.func36 rfl h23 ?_ hro
  simp only [Tryd.ntmps36, List.size_toArray, List.length_cons, List.length_nil, Nat.reduceAdd, Nat.reduceSub, Array.replicate_succ, Array.replicate_zero, List.push_toArray, List.append_toArray, List.nil_append, List.cons_append]
  gi_wp2_with (gi_at_call 21; refine (things F (n - 1) h24 hro p _ _ _ _).mono ?_; rintro e w' ⟨rfl, rfl⟩)
  have hB0 : Below w.heap.size w ((((w.alloc (.cells (pgC p (.slice a0 p.ins.length a1) (.slice b0 p.flows.length b1) (.slice c0 p.outs.length c1)) 26)).alloc (.map #[] 0)).alloc (.cells #[.map (some (w.heap.size + 1))] 76)).alloc (.cells (pgC p (.slice a0 p.ins.length a1) (.slice b0 p.flows.length b1) (.slice c0 p.outs.length c1)) 26)) := (((((Below.refl w.heap.size w).alloc (by simp; try omega) (.cells (pgC p (.slice a0 p.ins.length a1) (.slice b0 p.flows.length b1) (.slice c0 p.outs.length c1)) 26)).alloc (by simp; try omega) (.map #[] 0)).alloc (by simp; try omega) (.cells #[.map (some (w.heap.size + 1))] 76)).alloc (by simp; try omega) (.cells (pgC p (.slice a0 p.ins.length a1) (.slice b0 p.flows.length b1) (.slice c0 p.outs.length c1)) 26))
  have hsz : ((((w.alloc (.cells (pgC p (.slice a0 p.ins.length a1) (.slice b0 p.flows.length b1) (.slice c0 p.outs.length c1)) 26)).alloc (.map #[] 0)).alloc (.cells #[.map (some (w.heap.size + 1))] 76)).alloc (.cells (pgC p (.slice a0 p.ins.length a1) (.slice b0 p.flows.length b1) (.slice c0 p.outs.length c1)) 26)).heap.size = w.heap.size + 4 := by simp
  have m0 : TMap ((((w.alloc (.cells (pgC p (.slice a0 p.ins.length a1) (.slice b0 p.flows.length b1) (.slice c0 p.outs.length c1)) 26)).alloc (.map #[] 0)).alloc (.cells #[.map (some (w.heap.size + 1))] 76)).alloc (.cells (pgC p (.slice a0 p.ins.length a1) (.slice b0 p.flows.length b1) (.slice c0 p.outs.length c1)) 26)) (w.heap.size + 1) 0 (fun _ => (0, 0)) := by
    have m1 := TMap.new (w.alloc (.cells (pgC p (.slice a0 p.ins.length a1) (.slice b0 p.flows.length b1) (.slice c0 p.outs.length c1)) 26))
    rw [World.size_alloc] at m1
    exact (m1.kept (World.grownBy_alloc _ (.cells #[.map (some (w.heap.size + 1))] 76) none) (by simp)).kept (World.grownBy_alloc _ (.cells (pgC p (.slice a0 p.ins.length a1) (.slice b0 p.flows.length b1) (.slice c0 p.outs.length c1)) 26) none) (by simp)
  have v0 : ((((w.alloc (.cells (pgC p (.slice a0 p.ins.length a1) (.slice b0 p.flows.length b1) (.slice c0 p.outs.length c1)) 26)).alloc (.map #[] 0)).alloc (.cells #[.map (some (w.heap.size + 1))] 76)).alloc (.cells (pgC p (.slice a0 p.ins.length a1) (.slice b0 p.flows.length b1) (.slice c0 p.outs.length c1)) 26)).heap[w.heap.size + 1 + 1]? = some (.cells #[.map (some (w.heap.size + 1))] 76 (0, 0)) := by
    rw [Below.heap_alloc _ _ _ (by simp)]
    have := heap_alloc_new ((w.alloc (.cells (pgC p (.slice a0 p.ins.length a1) (.slice b0 p.flows.length b1) (.slice c0 p.outs.length c1)) 26)).alloc (.map #[] 0)) (.cells #[.map (some (w.heap.size + 1))] 76)
    simpa using this
  have p0 : ((((w.alloc (.cells (pgC p (.slice a0 p.ins.length a1) (.slice b0 p.flows.length b1) (.slice c0 p.outs.length c1)) 26)).alloc (.map #[] 0)).alloc (.cells #[.map (some (w.heap.size + 1))] 76)).alloc (.cells (pgC p (.slice a0 p.ins.length a1) (.slice b0 p.flows.length b1) (.slice c0 p.outs.length c1)) 26)).heap[w.heap.size]? = some (.cells (pgC p (.slice a0 p.ins.length a1) (.slice b0 p.flows.length b1) (.slice c0 p.outs.length c1)) 26 (0, 0)) := by
    rw [Below.heap_alloc _ _ _ (by simp <;> omega), Below.heap_alloc _ _ _ (by simp <;> omega), Below.heap_alloc _ _ _ (by simp <;> omega)]
    exact heap_alloc_new w _
  have q0 : ((((w.alloc (.cells (pgC p (.slice a0 p.ins.length a1) (.slice b0 p.flows.length b1) (.slice c0 p.outs.length c1)) 26)).alloc (.map #[] 0)).alloc (.cells #[.map (some (w.heap.size + 1))] 76)).alloc (.cells (pgC p (.slice a0 p.ins.length a1) (.slice b0 p.flows.length b1) (.slice c0 p.outs.length c1)) 26)).heap[w.heap.size + 1 + 1 + 1]? = some (.cells (pgC p (.slice a0 p.ins.length a1) (.slice b0 p.flows.length b1) (.slice c0 p.outs.length c1)) 26 (0, 0)) := by
    have := heap_alloc_new (((w.alloc (.cells (pgC p (.slice a0 p.ins.length a1) (.slice b0 p.flows.length b1) (.slice c0 p.outs.length c1)) 26)).alloc (.map #[] 0)).alloc (.cells #[.map (some (w.heap.size + 1))] 76)) (.cells (pgC p (.slice a0 p.ins.length a1) (.slice b0 p.flows.length b1) (.slice c0 p.outs.length c1)) 26)
    simpa using this
  obtain ⟨W0, hW0⟩ : ∃ W0, ((((w.alloc (.cells (pgC p (.slice a0 p.ins.length a1) (.slice b0 p.flows.length b1) (.slice c0 p.outs.length c1)) 26)).alloc (.map #[] 0)).alloc (.cells #[.map (some (w.heap.size + 1))] 76)).alloc (.cells (pgC p (.slice a0 p.ins.length a1) (.slice b0 p.flows.length b1) (.slice c0 p.outs.length c1)) 26)) = W0 := ⟨_, rfl⟩
  rw [hW0] at hB0 hsz m0 v0 p0 q0 ⊢
  clear hW0
  have ci0 : CI w W0 [] W0 := ⟨by have e : tly [] [] = fun _ => (0, 0) := rfl
                                  rw [show (List.map (·.1) ([] : List Tg)) = [] from rfl, e]; exact m0, v0, rfl, hB0, Nat.le_refl _⟩
  refine wpIn_rangeFunc_ownH hro h1 (gf := 30) (lb := #[.pointer (some ⟨w.heap.size + 1 + 1 + 1, 0, none⟩)]) rfl h45 (enters_of Tryd.func30 (by kernel_rfl) rfl)
    (things_stops2 F (n - 1) h45 hro (by omega) (w.heap.size + 1 + 1 + 1) p _ _ _ w W0 HP.out hB0 q0) KpT.trans (fun W l o o' hl ho hc hw => ⟨belowK_b (w := W0) (by omega) W l o o' hl ho hc hw, (grownBy_putObj' W l o').block _ (by have := (Array.getElem?_eq_some_iff.1 ho).1; omega) (by intro e; injection e with e; omega)⟩) (Below.refl _ _) (fun _ => rfl)
    (CI w W0) (fun _ _ _ => False) (CI.own (by omega) ⟨_, _, _, p0⟩) (fun _ _ _ _ _ hs _ _ => hs) ci0
    (fun x a' W => ∃ Bx, W0.heap.size ≤ Bx ∧ W.heap[Bx]? = some (.cells #[.string x.1.2.name, .int .u8 (x.1.2.ty : Int), .int .i64 x.1.2.st] 63 (0, 0)) ∧ a' = { tmps := #[pgV p (.slice a0 p.ins.length a1) (.slice b0 p.flows.length b1) (.slice c0 p.outs.length c1), .pointer (some ⟨w.heap.size, 0, none⟩), .map none, .pointer (some ⟨w.heap.size + 1 + 1, 0, none⟩), undef, .pointer (some ⟨Bx, 0, none⟩), undef, undef, undef, undef, .map (some (w.heap.size + 1)), pgV p (.slice a0 p.ins.length a1) (.slice b0 p.flows.length b1) (.slice c0 p.outs.length c1), .func (.func 30) #[] #[.pointer (some ⟨w.heap.size + 1 + 1 + 1, 0, none⟩)], .int .i64 x.1.1, hdV x.1.2, undef, undef, undef, undef, undef, undef, undef, undef, undef, undef, undef, undef, undef, undef, undef, undef, undef, undef, undef, undef, undef, undef, undef, undef, undef, undef, undef, undef, undef, undef, undef], defers := [] })
    (fun x a' _ X Y row hs hg hr => by obtain ⟨Bx, e1, e2, e3⟩ := hs; exact ⟨Bx, e1, cells_turn hg (fun r e => (hr r e).2) e2, e3⟩)
    ?assign ?body ?done ?stop
  case assign =>
    rintro l pre x W K ci hK
    gi_wp2
    exact hK _ _ ((KeepsOthers.alloc _ _).from _) ⟨(Below.refl _ W).alloc (by have := ci.size; omega) _, Below.heap_alloc _ _ _ (by have := ci.size; omega)⟩ (ci.alloc _) ⟨W.heap.size, ci.size, World.alloc_heap_new W _, rfl⟩
  case body =>
    rintro l pre x a' W hl _ ci ⟨Bx, hBx, hRow, rfl⟩ hlt
    have cV : W.cell? ⟨w.heap.size + 1 + 1, 0, none⟩ = some (.map (some (w.heap.size + 1))) := by rw [cell_of_row _ _ _ _ 76 (0, 0) ci.var]; rfl
    have cN : W.cell? ⟨Bx, 0, none⟩ = some (.string x.1.2.name) := by rw [cell_of_row _ _ _ _ 63 (0, 0) hRow]; rfl
    have hlk := ci.map.look x.2
    have hle := cntT_le (pre.map (·.1)) x.1.2.name.data.toList
    rw [List.length_map] at hle
    have hct : ((cntT (pre.map (·.1)) x.1.2.name.data.toList : Nat) : Int) < 13194139533312 := by have := HTL.out; omega
    have htl : tly (pre.map (·.1)) [] x.1.2.name.data.toList = ((cntT (pre.map (·.1)) x.1.2.name.data.toList : Int), 0) := rfl
    rw [htl] at hlk
    have ci1 := ci.alloc (.cells #[.int .i64 ((cntT (pre.map (·.1)) x.1.2.name.data.toList : Int) + 1), .int .i64 0] 79)
    obtain ⟨W2, hrun, hm2, hg2⟩ := ci1.map.update (by have := HTL.out; unfold maxLen; omega) x.2 ((cntT (pre.map (·.1)) x.1.2.name.data.toList : Int) + 1, 0)
    have FIN := hid (And.intro hm2 (And.intro hg2 ci1))
    have htn := hid (tly_snoc (pre.map (·.1)) x.1 [])
    clear hle htl hm2 hg2 ci1
    generalize cntT (pre.map (·.1)) x.1.2.name.data.toList = N at *
    have cV2 : (W.alloc (.cells #[.int .i64 ((N : Int) + 1), .int .i64 0] 79)).cell? ⟨w.heap.size + 1 + 1, 0, none⟩ = some (.map (some (w.heap.size + 1))) := by rw [cell_of_row _ _ _ _ 76 (0, 0) FIN.out.2.2.var]; rfl
    have cN2 : (W.alloc (.cells #[.int .i64 ((N : Int) + 1), .int .i64 0] 79)).cell? ⟨Bx, 0, none⟩ = some (.string x.1.2.name) := by rw [cell_of_row _ _ _ _ 63 (0, 0) ((Below.heap_alloc _ _ _ (Array.getElem?_eq_some_iff.1 hRow).1).trans hRow)]; rfl
    have CI0 := hid ci
    clear ci hRow
    dsimp only [tlV] at hlk hrun
    gi_wp2_with (first
      | (gi_at_lookup; refine wpListIn_look rfl (.tmp 15) (.tmp 17) 76 rfl _ hlk ?_)
      | (gi_at_mapUpdate; refine wpListIn_mapPut rfl (.tmp 23) (.tmp 25) (.tmp 26) 76 rfl hrun ?_))
    obtain ⟨hm2, hg2, ci1⟩ := FIN.out
    have hs0 := CI0.out.size
    have e : (fun u => if u = x.1.2.name.data.toList then ((N : Int) + 1, 0) else tly (pre.map (·.1)) [] u) = tly (pre.map (·.1) ++ [x.1]) [] := htn.out
    rw [e] at hm2
    refine ⟨((KeepsOthers.alloc _ _).from _).trans (KeepsFrom.of_grownBy hg2 (by rintro j e; injection e with e; omega)), ⟨((Below.refl _ W).alloc (by omega) _).grown hg2 (by simp; omega) (by rintro j e; injection e with e; omega),
      (hg2.block _ (by simp; omega) (by intro e; injection e with e; omega)).trans (Below.heap_alloc _ _ _ (by omega))⟩, ?_⟩
    exact ⟨by rw [List.length_append, List.map_append]; exact hm2, (hg2.block _ (by simp; omega) (by intro e; injection e with e; omega)).trans ci1.var, (hg2.block _ (by simp; omega) (by intro e; injection e with e; omega)).trans ci1.prog,
      ci1.below.grown hg2 ci1.below.size (by rintro j e; injection e with e; omega), Nat.le_trans ci1.size hg2.size⟩
  case done =>
    rintro D ys W hD hys ci hK
    have cP : W.cell? ⟨w.heap.size, 3, none⟩ = some (.slice c0 p.outs.length c1) := by rw [cell_of_row _ _ _ _ 26 (0, 0) (ci.prog.trans p0)]; rfl
    have hyl : ys.length = p.ins.length + p.flows.length := by rw [← HTL.out, ← hys, List.length_map]
    have hM := ci.map
    rw [hys, hyl] at hM
    have HM := hid hM
    have HV := hid ci.var
    have HB := hid ci.below
    have HK := hid hK
    have HYL := hid hyl
    clear hM ci hK hys hyl m0 v0 p0 q0 ci0 hB0
    have hD' : w.heap.size + 4 ≤ D := by omega
    gi_wp2
    gi_loopw [30] (fun i wr => ∃ k : Nat, k ≤ p.outs.length ∧ i = .int .i64 (k : Int) ∧ Hid (TMap wr (w.heap.size + 1) (p.ins.length + p.flows.length + k) (tly (thingsL p) (p.outs.take k))) ∧ Hid (wr.heap[w.heap.size + 1 + 1]? = some (.cells #[.map (some (w.heap.size + 1))] 76 (0, 0))) ∧ Hid (Below w.heap.size w wr) ∧ Hid (wr.heap[D]? = some (.deferred (some [])))) (fun i wr => p.outs.length - (intOf i).toNat)
    case atStart => exact ⟨0, Nat.zero_le _, rfl, HM, HV, HB, HK⟩
    case round =>
      obtain ⟨k, hk, rfl, hM, hV, hB, hD2⟩ := hrel
      by_cases hlt : k < p.outs.length
      · have hlt' : (k : Int) < (p.outs.length : Int) := by omega
        have hk0 : (0 : Int) ≤ (k : Int) := by omega
        obtain ⟨bb, o, rfl, hcc⟩ := HC3.out.resolve_left (by omega)
        have v0 := cell_kept (hcc k hlt) hB.out
        have hy := HO3.out p.outs[k] (List.getElem_mem hlt)
        have HT := hid (tly_out (thingsL p) p.outs[k] (p.outs.take k))
        have hle := cntO_le (p.outs.take k) p.outs[k].data.toList
        rw [List.length_take] at hle
        have hlk := hM.out.look hy
        have htl : tly (thingsL p) (p.outs.take k) p.outs[k].data.toList = ((cntT (thingsL p) p.outs[k].data.toList : Int), (cntO (p.outs.take k) p.outs[k].data.toList : Int)) := rfl
        rw [htl] at hlk
        have hct : ((cntO (p.outs.take k) p.outs[k].data.toList : Nat) : Int) < 13194139533312 := by omega
        have HTK : Hid (p.outs.take (k + 1) = p.outs.take k ++ [p.outs[k]]) := hid (by rw [List.take_succ_eq_append_getElem hlt])
        clear hcc hle htl
        generalize p.outs[k] = y at *
        generalize cntO (p.outs.take k) y.data.toList = N at *
        generalize cntT (thingsL p) y.data.toList = M at *
        have hV1 := (Below.heap_alloc wr (.cells #[.int .i64 (M : Int), .int .i64 ((N : Int) + 1)] 79) _ (Array.getElem?_eq_some_iff.1 hV.out).1).trans hV.out
        have cV : wr.cell? ⟨w.heap.size + 1 + 1, 0, none⟩ = some (.map (some (w.heap.size + 1))) := by rw [cell_of_row _ _ _ _ 76 (0, 0) hV.out]; rfl
        have cV2 : (wr.alloc (.cells #[.int .i64 (M : Int), .int .i64 ((N : Int) + 1)] 79)).cell? ⟨w.heap.size + 1 + 1, 0, none⟩ = some (.map (some (w.heap.size + 1))) := by rw [cell_of_row _ _ _ _ 76 (0, 0) hV1]; rfl
        have HV1 := hid hV1
        clear hV1
        obtain ⟨W2, hrun, hm2, hg2⟩ := (hM.out.kept (World.grownBy_alloc wr (.cells #[.int .i64 (M : Int), .int .i64 ((N : Int) + 1)] 79) none) (by simp)).update (by unfold maxLen; omega) hy ((M : Int), (N : Int) + 1)
        have FIN := hid (And.intro hm2 hg2)
        clear hm2 hg2 hy
        dsimp only [tlV] at hlk hrun
        gi_wp2_with (first
          | (gi_at_lookup; refine wpListIn_look rfl (.tmp 34) (.tmp 35) 76 rfl _ hlk ?_)
          | (gi_at_mapUpdate; refine wpListIn_mapPut rfl (.tmp 41) (.tmp 42) (.tmp 43) 76 rfl hrun ?_))
        go_roundw
        case rel =>
          obtain ⟨hm2, hg2⟩ := FIN.out
          rw [HT.out] at hm2
          have hDl := (Array.getElem?_eq_some_iff.1 hD2.out).1
          exact ⟨k + 1, by omega, by go_num, hid (by rw [HTK.out]; exact hm2), hid ((hg2.block _ (by simp; omega) (by intro e; injection e with e; omega)).trans HV1.out), hid ((hB.out.alloc hB.out.size _).grown hg2 (by have := hB.out.size; simp; omega) (by rintro j e; injection e with e; omega)), hid ((hg2.block _ (by simp; omega) (by intro e; injection e with e; omega)).trans ((Below.heap_alloc _ _ _ hDl).trans hD2.out))⟩
        case measure => simp [intOf]; omega
      · have hlt' : ¬ (k : Int) < (p.outs.length : Int) := by omega
        obtain rfl : k = p.outs.length := by omega
        have cV : wr.cell? ⟨w.heap.size + 1 + 1, 0, none⟩ = some (.map (some (w.heap.size + 1))) := by rw [cell_of_row _ _ _ _ 76 (0, 0) hV.out]; rfl
        rw [List.take_length] at hM
        gi_wp2
        refine ⟨by simp, .inl ⟨_, _, rfl, run_takeDeferred hD2.out, ?_⟩⟩
        refine ⟨.map (some (w.heap.size + 1)), by simp [results, Tryd.f36, go_sem], rfl, hM.out.kept (grownBy_putObj' _ D (.deferred none)) (by intro e; injection e with e; omega), hB.out.trans (belowK_b (w := w) (Nat.le_refl _) _ D _ _ (by omega) hD2.out rfl rfl)⟩
  case stop =>
    rintro D c pre W _ _ h _
    exact h.elim
end Go.Proofs.YtejacmgppnafcabDoor.Lex
namespace Go.Proofs.YtejacmgppnafcabDoor.Lex
open Go.ChangeShapes Go.WideShapes Go.ChangeAt Go.RowKit Go.Joins
/-- What a token counts by. -/
structure Mark where
  kind : Nat
  text : ByteArray
/-- The mark of the next token; behind the last one there is one of no kind. -/
def markAt (ts : List Mark) (p : Nat) : Mark := ts.getD p ⟨0, ByteArray.empty⟩
abbrev mkV (m : Mark) : Value := .agg #[.int .u8 (m.kind : Int), .string m.text]
/-- Tokens in memory, from any place of a row on. -/
def MarksAt (w : World) (v : Value) (ts : List Mark) : Prop :=
  ∃ a cap, v = .slice a ts.length cap ∧ (ts.length = 0 ∨ ∃ g o, a = some ⟨g, o, none⟩ ∧ ∀ i (h : i < ts.length), w.cell? ⟨g, o + i * 3, none⟩ = some (.int .u8 (ts[i].kind : Int)) ∧ w.cell? ⟨g, o + i * 3 + 1, none⟩ = some (.string ts[i].text) ∧ ∃ at_ : Int, w.cell? ⟨g, o + i * 3 + 2, none⟩ = some (.int .i64 at_))
theorem heap_drew {w : World} {b : Nat} {o : Obj} (h : w.heap[b]? = some o) (n : Nat) : (w.drewN n).heap[b]? = some o := h
theorem below_drewN {B : Nat} {a w : World} (h : Below B a w) (n : Nat) : Below B a (w.drewN n) := h.trans ⟨rfl, rfl, rfl, Nat.le_refl _, fun _ _ => rfl⟩
theorem info81 : (Tryd.prog.info? 93).map (·.size) = some 2 := by kernel_rfl
end Go.Proofs.YtejacmgppnafcabDoor.Lex
namespace Go.Proofs.YtejacmgppnafcabDoor.Lex
open Go.ChangeShapes Go.WideShapes Go.ChangeAt Go.RowKit Go.Joins
/-- Are a row's token and a mark the same? -/
def jIs (r : J) (m : Mark) : Bool := r.kind == m.kind && r.text.toList == m.text.toList
def jAt (m : Mark) : Option J := JT.find? fun r => jIs r m
theorem jAt_some {m : Mark} (k : Nat) (hk : k < 12) (h : ∀ j, j < k → jIs (jR j) m = false) (he : jIs (jR k) m = true) : jAt m = some (jR k) := by
  unfold jAt
  rw [List.find?_eq_some_iff_getElem]
  have hget : ∀ j (hj : j < JT.length), JT[j]'hj = jR j := fun j hj => by unfold jR; rw [List.getD_eq_getElem?_getD, List.getElem?_eq_getElem hj]; rfl
  have hk' : k < JT.length := hk
  refine ⟨he, k, hk', hget k hk', fun j hj => ?_⟩
  have e := hget j (by omega)
  have hn := h j hj
  rw [← e] at hn
  rw [hn]
  rfl
theorem jAt_none {m : Mark} (h : ∀ j, j < 12 → jIs (jR j) m = false) : jAt m = none := by
  unfold jAt
  rw [List.find?_eq_none]
  intro r hr
  obtain ⟨j, hj, e⟩ := List.getElem_of_mem hr
  have := h j hj
  unfold jR at this
  rw [List.getD_eq_getElem?_getD, List.getElem?_eq_getElem hj, e] at this
  simp only [Option.getD_some] at this
  rw [this]
  simp
def jAtOut (m : Mark) : Array Value := jrow ((jAt m).getD j0)
end Go.Proofs.YtejacmgppnafcabDoor.Lex
namespace Go.Proofs.YtejacmgppnafcabDoor.Lex
open Go.ChangeShapes Go.WideShapes Go.ChangeAt Go.RowKit Go.Joins
theorem MarksAt.carry {w w' : World} {v : Value} {ts : List Mark} (h : MarksAt w v ts) (hb : ∀ a n c, v = .slice (some a) n c → a.block < w.heap.size → w'.heap[a.block]? = w.heap[a.block]?) : MarksAt w' v ts := by
  obtain ⟨a, cap, rfl, hc⟩ := h
  refine ⟨a, cap, rfl, ?_⟩
  rcases hc with h0 | ⟨g, o, rfl, hc⟩
  · exact .inl h0
  · refine .inr ⟨g, o, rfl, fun i hi => ?_⟩
    obtain ⟨m0, m1, at_, m2⟩ := hc i hi
    have hlt : g < w.heap.size := World.block_lt_of_cell? w ⟨g, o + i * 3, none⟩ m0
    have hk : ∀ {q x}, w.cell? ⟨g, q, none⟩ = some x → w'.cell? ⟨g, q, none⟩ = some x := fun {q x} hx => by
      rw [World.cell?_of_block (w := w) (a := ⟨g, q, none⟩) (hb ⟨g, o, none⟩ _ _ rfl hlt)]
      exact hx
    exact ⟨hk m0, hk m1, at_, hk m2⟩
theorem set_same' {w : World} {b : Nat} {c : Array Value} {t : TypeId} {f : Nat × Nat} (h : w.heap[b]? = some (.cells c t f)) (i : Nat) (u : Value) : (w.setCell ⟨b, i, none⟩ u).heap[b]? = some (.cells (c.setIfInBounds i u) t f) := by
  obtain ⟨hlt, hk⟩ := Array.getElem?_eq_some_iff.1 h
  show (w.heap.modify b _)[b]? = _
  rw [Array.getElem?_eq_getElem (by rw [Array.size_modify]; exact hlt), Array.getElem_modify_self, hk]
  rfl
end Go.Proofs.YtejacmgppnafcabDoor.Lex
namespace Go.Proofs.YtejacmgppnafcabDoor.Lex
open Go.ChangeShapes Go.WideShapes Go.ChangeAt Go.RowKit Go.Joins
/-- It stands in memory, in blocks that are so, looked at so deep. -/
def StPN (ok : Nat → Prop) (w : World) : Nat → Ex → Value → Prop
  | 0, _, _ => False
  | k + 1, x, s => ∃ (ao : Option Addr) (cap : Nat) (sl : Nat → Value), s = .slice ao x.args.length cap ∧ x.op < 256 ∧ (-9223372036854775808 ≤ x.n ∧ x.n ≤ 9223372036854775807) ∧ x.name.size ≤ 140737488355328 ∧ x.args.length ≤ 2513169434843 ∧ x.args.length ≤ cap ∧
    (x.args.length = 0 ∨ ∃ b o, ao = some ⟨b, o, none⟩ ∧ ok b ∧ ∀ i (h : i < x.args.length), w.cell? ⟨b, o + i * 4, none⟩ = some (.int .u8 (x.args[i].op : Int)) ∧ w.cell? ⟨b, o + i * 4 + 1, none⟩ = some (.int .i64 x.args[i].n) ∧
        w.cell? ⟨b, o + i * 4 + 2, none⟩ = some (.string x.args[i].name) ∧ w.cell? ⟨b, o + i * 4 + 3, none⟩ = some (sl i)) ∧ ∀ i (h : i < x.args.length), StPN ok w k x.args[i] (sl i)
theorem StPN.up {ok : Nat → Prop} {w : World} : ∀ (k' k : Nat) (x : Ex) (s : Value), StPN ok w k x s → SizeOf.sizeOf x ≤ k' → StPN ok w k' x s
  | 0, k, x, s, _, hs => by have := x.pos; omega
  | k' + 1, 0, x, s, h, _ => h.elim
  | k' + 1, k + 1, x, s, h, hs => by
    obtain ⟨ao, cap, sl, h1, h2, h3, h4, h5, h6, h7, h8⟩ := h
    exact ⟨ao, cap, sl, h1, h2, h3, h4, h5, h6, h7, fun i hi => StPN.up k' k _ _ (h8 i hi) (by have := x.part_lt i hi; omega)⟩
/-- It stands in memory, in blocks that are so. -/
def StP (ok : Nat → Prop) (w : World) (x : Ex) (s : Value) : Prop := StPN ok w (SizeOf.sizeOf x) x s
theorem StP.intro {ok : Nat → Prop} {w : World} (x : Ex) (ao : Option Addr) (cap : Nat) (sl : Nat → Value) (hop : x.op < 256) (hn : -9223372036854775808 ≤ x.n ∧ x.n ≤ 9223372036854775807) (hnm : x.name.size ≤ 140737488355328) (hlen : x.args.length ≤ 2513169434843) (hcap : x.args.length ≤ cap)
      (hc : x.args.length = 0 ∨ ∃ b o, ao = some ⟨b, o, none⟩ ∧ ok b ∧ ∀ i (h : i < x.args.length), w.cell? ⟨b, o + i * 4, none⟩ = some (.int .u8 (x.args[i].op : Int)) ∧ w.cell? ⟨b, o + i * 4 + 1, none⟩ = some (.int .i64 x.args[i].n) ∧
        w.cell? ⟨b, o + i * 4 + 2, none⟩ = some (.string x.args[i].name) ∧ w.cell? ⟨b, o + i * 4 + 3, none⟩ = some (sl i))
      (hs : ∀ i (h : i < x.args.length), StP ok w x.args[i] (sl i)) : StP ok w x (.slice ao x.args.length cap) := by
  unfold StP
  obtain ⟨m, hm⟩ : ∃ m, SizeOf.sizeOf x = m + 1 := ⟨SizeOf.sizeOf x - 1, by have := x.pos; omega⟩
  rw [hm]
  exact ⟨ao, cap, sl, rfl, hop, hn, hnm, hlen, hcap, hc, fun i hi => StPN.up m _ _ _ (hs i hi) (by have := x.part_lt i hi; omega)⟩
theorem StP.out {ok : Nat → Prop} {w : World} {x : Ex} {s : Value} (h : StP ok w x s) : ∃ (ao : Option Addr) (cap : Nat) (sl : Nat → Value), s = .slice ao x.args.length cap ∧ x.op < 256 ∧ (-9223372036854775808 ≤ x.n ∧ x.n ≤ 9223372036854775807) ∧ x.name.size ≤ 140737488355328 ∧ x.args.length ≤ 2513169434843 ∧ x.args.length ≤ cap ∧
    (x.args.length = 0 ∨ ∃ b o, ao = some ⟨b, o, none⟩ ∧ ok b ∧ ∀ i (h : i < x.args.length), w.cell? ⟨b, o + i * 4, none⟩ = some (.int .u8 (x.args[i].op : Int)) ∧ w.cell? ⟨b, o + i * 4 + 1, none⟩ = some (.int .i64 x.args[i].n) ∧
        w.cell? ⟨b, o + i * 4 + 2, none⟩ = some (.string x.args[i].name) ∧ w.cell? ⟨b, o + i * 4 + 3, none⟩ = some (sl i)) ∧ ∀ i (h : i < x.args.length), StP ok w x.args[i] (sl i) := by
  unfold StP at h
  obtain ⟨m, hm⟩ : ∃ m, SizeOf.sizeOf x = m + 1 := ⟨SizeOf.sizeOf x - 1, by have := x.pos; omega⟩
  rw [hm] at h
  obtain ⟨ao, cap, sl, h1, h2, h3, h4, h5, h6, h7, h8⟩ := h
  exact ⟨ao, cap, sl, h1, h2, h3, h4, h5, h6, h7, fun i hi => StPN.up _ m _ _ (h8 i hi) (Nat.le_refl _)⟩
theorem StP.carryN {ok ok' : Nat → Prop} {w w' : World} (hb : ∀ b, ok b → b < w.heap.size → w'.heap[b]? = w.heap[b]?) (ho : ∀ b, b < w.heap.size → ok b → ok' b) : ∀ (m : Nat) (x : Ex) (s : Value), SizeOf.sizeOf x ≤ m → StP ok w x s → StP ok' w' x s
  | 0, x, s, hm, _ => by have := x.pos; omega
  | m + 1, x, s, hm, h => by
    obtain ⟨ao, cap, sl, rfl, hop, hn, hnm, hlen, hcap, hc, hs⟩ := h.out
    refine StP.intro x ao cap sl hop hn hnm hlen hcap ?_ (fun i hi => StP.carryN hb ho m _ _ (by have := x.part_lt i hi; omega) (hs i hi))
    by_cases h00 : x.args.length = 0
    · exact .inl h00
    · obtain ⟨b, o, ha, hok, hc⟩ := hc.resolve_left h00
      have hlt : b < w.heap.size := World.block_lt_of_cell? w ⟨b, o + 0 * 4, none⟩ (hc 0 (by omega)).1
      have hk : ∀ {q v}, w.cell? ⟨b, q, none⟩ = some v → w'.cell? ⟨b, q, none⟩ = some v := fun {q v} h => by
        rw [World.cell?_of_block (w := w) (a := ⟨b, q, none⟩) (hb b hok hlt)]
        exact h
      refine .inr ⟨b, o, ha, ho b hlt hok, fun i hi => ?_⟩
      obtain ⟨h0, h1, h2, h3⟩ := hc i hi
      exact ⟨hk h0, hk h1, hk h2, hk h3⟩
theorem StP.carry {ok : Nat → Prop} {w w' : World} {x : Ex} {s : Value} (h : StP ok w x s) (hb : ∀ b, ok b → b < w.heap.size → w'.heap[b]? = w.heap[b]?) : StP ok w' x s := StP.carryN hb (fun _ _ h => h) _ x s (Nat.le_refl _) h
theorem StP.stN {ok : Nat → Prop} {w : World} : ∀ (m : Nat) (x : Ex) (s : Value), SizeOf.sizeOf x ≤ m → StP ok w x s → St w x s
  | 0, x, s, hm, _ => by have := x.pos; omega
  | m + 1, x, s, hm, h => by
    obtain ⟨ao, cap, sl, rfl, hop, hn, hnm, hlen, hcap, hc, hs⟩ := h.out
    refine St.intro x ao cap sl hop hn hnm hlen hcap ?_ (fun i hi => StP.stN m _ _ (by have := x.part_lt i hi; omega) (hs i hi))
    rcases hc with h0 | ⟨b, o, ha, _, hc⟩
    · exact .inl h0
    · exact .inr ⟨b, o, ha, hc⟩
theorem StP.st {ok : Nat → Prop} {w : World} {x : Ex} {s : Value} (h : StP ok w x s) : St w x s := StP.stN _ x s (Nat.le_refl _) h
/-- What has no parts stands anywhere. -/
theorem StP.leaf {ok : Nat → Prop} {w : World} (op : Nat) (n : Int) (nm : ByteArray) (hop : op < 256) (hn : -9223372036854775808 ≤ n ∧ n ≤ 9223372036854775807) (hnm : nm.size ≤ 140737488355328) : StP ok w ⟨op, n, nm, []⟩ (.slice none 0 0) :=
  StP.intro ⟨op, n, nm, []⟩ none 0 (fun _ => .slice none 0 0) hop hn hnm (Nat.zero_le _) (Nat.le_refl _) (.inl rfl) (fun i hi => by cases hi)
end Go.Proofs.YtejacmgppnafcabDoor.Lex
namespace Go.Proofs.YtejacmgppnafcabDoor.Lex
open Go.ChangeShapes Go.WideShapes Go.ChangeAt Go.RowKit Go.Joins
/-- What reading answers: it, and the place behind it; or an error, and its place. -/
abbrev Res := Except (Nat × Nat) (Ex × Nat)
/-- A panic with an error of the language. -/
abbrev panicE (e : Nat) : Ending := .panicked [{ v := .iface 43 (.int .i64 (e : Int)), recovered := false }]
end Go.Proofs.YtejacmgppnafcabDoor.Lex
namespace Go.Proofs.YtejacmgppnafcabDoor.Lex
open Go.ChangeShapes Go.WideShapes Go.ChangeAt Go.RowKit Go.Joins
/-- Is a mark this kind and text? -/
def isMk (m : Mark) (kind : Nat) (text : ByteArray) : Bool := m.kind == kind && m.text.toList == text.toList
theorem isMk_no {m : Mark} {kind : Nat} {text : ByteArray} (h : isMk m kind text = false) : (¬ (m.kind : Int) = (kind : Int)) ∨ ((m.kind : Int) = (kind : Int) ∧ ¬ m.text.toList = text.toList) := by
  unfold isMk at h
  by_cases e : m.kind = kind
  · refine .inr ⟨by omega, ?_⟩
    rw [e] at h
    simpa using h
  · exact .inl (by omega)
theorem isMk_yes {m : Mark} {kind : Nat} {text : ByteArray} (h : isMk m kind text = true) : (m.kind : Int) = (kind : Int) ∧ m.text.toList = text.toList := by
  unfold isMk at h
  have := h
  simp at this
  exact ⟨by omega, this.2⟩
theorem grown_below {w w1 : World} (h : Below w.heap.size w w1) (r : Option Nat) : w.grownBy w1 r := ⟨h.os, h.tape, h.output, h.size, fun k hk _ => h.block k hk⟩
theorem grown_on {a b c : World} {r : Option Nat} (h : a.grownBy b r) (k : b.grownBy c r) : a.grownBy c r :=
  ⟨k.os.trans h.os, k.tape.trans h.tape, k.output.trans h.output, Nat.le_trans h.size k.size, fun i hi hr => (k.block i (Nat.lt_of_lt_of_le hi h.size) hr).trans (h.block i hi hr)⟩
theorem markAt_lt {ts : List Mark} {p : Nat} (hl : p ≤ ts.length) (h : (markAt ts p).kind ≠ 0) : p < ts.length := by
  by_cases e : p < ts.length
  · exact e
  · exfalso
    apply h
    unfold markAt
    rw [List.getD_eq_getElem?_getD, List.getElem?_eq_none (by omega)]
    rfl
theorem numN_range (s : ByteArray) : -9223372036854775808 ≤ numN s ∧ numN s ≤ 9223372036854775807 := by
  unfold numN
  split
  · omega
  · cases e : mag 0 s.data.toList with
    | none => simp [outN]
    | some k =>
      have := mag_top _ 0 k (by omega) e
      simp only [outN]
      omega
theorem numE_nat (s : ByteArray) : ((numE s).toNat : Int) = numE s := by
  have : 0 ≤ numE s := by
    unfold numE
    split
    · omega
    · cases mag 0 s.data.toList <;> simp [outE]
  omega
end Go.Proofs.YtejacmgppnafcabDoor.Lex
namespace Go.Proofs.YtejacmgppnafcabDoor.Lex
open Go.ChangeShapes Go.WideShapes Go.ChangeAt Go.RowKit Go.Joins
theorem StP.form {ok : Nat → Prop} {w : World} {x : Ex} {s : Value} (h : StP ok w x s) : ∃ ao cap, s = .slice ao x.args.length cap := by
  obtain ⟨ao, cap, _, hs, _⟩ := h.out
  exact ⟨ao, cap, hs⟩
abbrev z25 : Value := .agg #[.int .u8 0, .int .i64 0, .string ⟨#[]⟩, .slice none 0 0]
theorem inf25 : ∃ ie, Tryd.prog.info? 30 = some ie ∧ ie.zero = some z25 ∧ ie.size = 4 := by
  have h : (Tryd.prog.info? 30).map (fun i => (i.zero, i.size)) = some (some z25, 4) := by kernel_rfl
  obtain ⟨ie, h1, h2⟩ := Option.map_eq_some_iff.1 h
  injection h2 with h2 h3
  exact ⟨ie, h1, h2, h3⟩
abbrev ex4 (x : Ex) (s : Value) : Array Value := #[.int .u8 (x.op : Int), .int .i64 x.n, .string x.name, s]
theorem fill1 (x : Ex) (ao : Option Addr) (n cap : Nat) : Instr.fill (fun i => some (i * 4, 4)) ((Array.range (1 * 4)).map (z25.cells[· % z25.cells.size]!)) [(0, exV x (.slice ao n cap))] = some (ex4 x (.slice ao n cap)) := by
  have e : ((Array.range (1 * 4)).map (z25.cells[· % z25.cells.size]!)) = #[.int .u8 0, .int .i64 0, .string ⟨#[]⟩, .slice none 0 0] := by kernel_rfl
  rw [e]
  simp [Instr.fill]
  exact ⟨⟨rfl, Nat.le_refl 4⟩, rfl⟩
theorem grown_setRow {w W : World} {r : Option Nat} (g : w.grownBy W r) (d : Array Value) : w.grownBy (W.setRow w.heap.size d) r :=
  ⟨g.os, g.tape, g.output, by have := g.size; simpa [World.setRow] using this, fun k hk hkr => (setRow_other _ _ _ _ (by omega)).trans (g.block k hk hkr)⟩
/-- A box stays where others are written. -/
theorem box_kept {w w2 : World} {r : Nat} {c : Array Value} {t : TypeId} {u : Value} (hr : r < w.heap.size) (g : ((w.alloc (.cells c t)).setCell ⟨r, 1, none⟩ u).grownBy w2 (some r)) : w2.heap[w.heap.size]? = some (.cells c t (0, 0)) := by
  rw [g.block _ (by simp [World.setCell]) (fun e => by injection e; omega), Below.heap_setCell _ _ _ _ (by show w.heap.size ≠ r; omega)]
  exact heap_alloc_new w _
/-- What has one part, in new memory. -/
theorem StP.one {ok : Nat → Prop} {W : World} {x : Ex} {s : Value} (op : Nat) (hop : op < 256) (g : Nat) (hg : ok g) (hst : StP ok W x s) (hc : W.heap[g]? = some (.cells (ex4 x s) 30 (0, 0))) : StP ok W ⟨op, 0, ByteArray.empty, [x]⟩ (.slice (some ⟨g, 0, none⟩) 1 1) := by
  refine StP.intro ⟨op, 0, ByteArray.empty, [x]⟩ (some ⟨g, 0, none⟩) 1 (fun _ => s) hop (by simp) (by show ByteArray.empty.size ≤ _; decide) (by simp) (by simp) (.inr ⟨g, 0, rfl, hg, fun i hi => ?_⟩) (fun i hi => ?_)
  · obtain rfl : i = 0 := by simpa using hi
    refine ⟨?_, ?_, ?_, ?_⟩ <;> (rw [cell_of_row _ _ _ _ 30 (0, 0) hc]; rfl)
  · obtain rfl : i = 0 := by simpa using hi
    exact hst
end Go.Proofs.YtejacmgppnafcabDoor.Lex
namespace Go.Proofs.YtejacmgppnafcabDoor.Lex
open Go.ChangeShapes Go.WideShapes Go.ChangeAt Go.RowKit Go.Joins
theorem box_there {w w2 : World} {r : Nat} {c : Array Value} {t : TypeId} (hr : r < w.heap.size) (g : (w.alloc (.cells c t)).grownBy w2 (some r)) : w2.heap[w.heap.size]? = some (.cells c t (0, 0)) := by
  rw [g.block _ (by simp) (fun e => by injection e; omega)]
  exact heap_alloc_new w _
end Go.Proofs.YtejacmgppnafcabDoor.Lex
namespace Go.Proofs.YtejacmgppnafcabDoor.Lex
open Go.ChangeShapes Go.WideShapes Go.ChangeAt Go.RowKit Go.Joins
theorem kept {W W' : World} {r k : Nat} {o : Obj} (h : W.heap[k]? = some o) (g : W.grownBy W' (some r)) (hk : r < k) : W'.heap[k]? = some o :=
  (g.block k (Array.getElem?_eq_some_iff.1 h).1 (fun e => by injection e; omega)).trans h
/-- A part that was read, in a row of its own behind a place. -/
structure Keep (N : Nat) (W : World) (b : Nat) (x : Ex) (s : Value) : Prop where
  row : W.heap[b]? = some (.cells (ex4 x s) 30 (0, 0))
  st : StP (fun k => N < k) W x s
  lt : N < b
theorem Keep.grown {N : Nat} {W W' : World} {b : Nat} {x : Ex} {s : Value} {r : Nat} (h : Keep N W b x s) (g : W.grownBy W' (some r)) (hr : r < N) : Keep N W' b x s :=
  ⟨kept h.row g (by have := h.lt; omega), h.st.carry fun k hk hl => g.block k hl (fun e => by injection e; omega), h.lt⟩
theorem Keep.new {N : Nat} {W0 w2 : World} {x : Ex} {s : Value} (h : StP (fun b => W0.heap.size ≤ b) w2 x s) (hN : N < W0.heap.size) (hl : W0.heap.size ≤ w2.heap.size) : Keep N (w2.alloc (.cells (ex4 x s) 30)) w2.heap.size x s :=
  ⟨heap_alloc_new w2 _, StP.carryN (fun k _ hk => Below.heap_alloc _ _ _ hk) (fun k _ hk => by show N < k; have : W0.heap.size ≤ k := hk; omega) _ x s (Nat.le_refl _) h, by omega⟩
theorem fold4 (c : Array Value) (o : Nat) (a b d e : Value) : Array.foldl (fun cs (x : Value × Nat) => cs.setIfInBounds (o + x.snd) x.fst) c (#[a, b, d, e].zipIdx) = (((c.setIfInBounds (o + 0) a).setIfInBounds (o + 1) b).setIfInBounds (o + 2) d).setIfInBounds (o + 3) e := by rfl
theorem fill3 (x y z : Ex) (a b c : Option Addr) (l m n i j k : Nat) : Instr.fill (fun i => some (i * 4, 4)) ((Array.range (3 * 4)).map (z25.cells[· % z25.cells.size]!)) [(0, exV x (.slice a l i)), (1, exV y (.slice b m j)), (2, exV z (.slice c n k))] = some (ex4 x (.slice a l i) ++ ex4 y (.slice b m j) ++ ex4 z (.slice c n k)) := by
  have e : ((Array.range (3 * 4)).map (z25.cells[· % z25.cells.size]!)) = #[.int .u8 0, .int .i64 0, .string ⟨#[]⟩, .slice none 0 0, .int .u8 0, .int .i64 0, .string ⟨#[]⟩, .slice none 0 0, .int .u8 0, .int .i64 0, .string ⟨#[]⟩, .slice none 0 0] := by kernel_rfl
  rw [e]
  simp only [Instr.fill, show (exV x (.slice a l i)).cells = ex4 x (.slice a l i) from rfl, show (exV y (.slice b m j)).cells = ex4 y (.slice b m j) from rfl, show (exV z (.slice c n k)).cells = ex4 z (.slice c n k) from rfl, ex4, fold4]
  simp
/-- What has three parts, in new memory. -/
theorem StP.three {ok : Nat → Prop} {W : World} {x y z : Ex} {s t u : Value} (op : Nat) (hop : op < 256) (g : Nat) (hg : ok g) (hx : StP ok W x s) (hy : StP ok W y t) (hz : StP ok W z u) (hc : W.heap[g]? = some (.cells (ex4 x s ++ ex4 y t ++ ex4 z u) 30 (0, 0))) : StP ok W ⟨op, 0, ByteArray.empty, [x, y, z]⟩ (.slice (some ⟨g, 0, none⟩) 3 3) := by
  refine StP.intro ⟨op, 0, ByteArray.empty, [x, y, z]⟩ (some ⟨g, 0, none⟩) 3 (fun i => [s, t, u].getD i s) hop (by simp) (by show ByteArray.empty.size ≤ _; decide) (by simp) (by simp) (.inr ⟨g, 0, rfl, hg, fun i hi => ?_⟩) (fun i hi => ?_)
  · have hi3 : i < 3 := hi
    rcases (by omega : i = 0 ∨ i = 1 ∨ i = 2) with rfl | rfl | rfl <;> refine ⟨?_, ?_, ?_, ?_⟩ <;> (rw [cell_of_row _ _ _ _ 30 (0, 0) hc]; rfl)
  · have hi3 : i < 3 := hi
    rcases (by omega : i = 0 ∨ i = 1 ∨ i = 2) with rfl | rfl | rfl
    · exact hx
    · exact hy
    · exact hz
end Go.Proofs.YtejacmgppnafcabDoor.Lex
namespace Go.Proofs.YtejacmgppnafcabDoor.Lex
open Go.ChangeShapes Go.WideShapes Go.ChangeAt Go.RowKit Go.Joins Go.WideMaps Go.WideElems Go.Maps
theorem laidOut : laidOutB Tryd.prog = true := by kernel_rfl
theorem row81 : (93 : TypeId) < Tryd.prog.types.size := of_decide_eq_true (by kernel_rfl)
theorem wide81 : (match Tryd.prog.underlying 93 with | some (.array _ _) | some (.struct _) => true | _ => false) = true := by kernel_rfl
theorem deep81 : Tryd.prog.keyTypeAt 3 93 = true := by kernel_rfl
set_option maxRecDepth 100000 in
theorem law81 : KeyLaw Tryd.prog 93 := deep_law_laid laidOut (m := 3) (by omega) row81 deep81 wide81
theorem keyed81 : Keyed Tryd.prog 93 := Keyed.of_law law81
end Go.Proofs.YtejacmgppnafcabDoor.Lex
namespace Go.Proofs.YtejacmgppnafcabDoor.Lex
open Go.ChangeShapes Go.WideShapes Go.ChangeAt Go.RowKit Go.Joins Go.WideMaps Go.WideElems Go.Maps
theorem size_types : ∃ n, Tryd.prog.types.size + 1 = n + 2 := ⟨Tryd.prog.types.size - 1, by have : 0 < Tryd.prog.types.size := of_decide_eq_true (by kernel_rfl); omega⟩
theorem keyT81 : Tryd.prog.keyType 93 = true := by kernel_rfl
theorem cells81 : Tryd.prog.cellsOf 93 = 2 := by kernel_rfl
theorem cells5 : Tryd.prog.cellsOf 5 = 1 := by kernel_rfl
theorem cells9 : Tryd.prog.cellsOf 9 = 1 := by kernel_rfl
theorem lits5 (n : Nat) (k : Nat) (hk : k < 256) : Tryd.prog.keyLits (n + 1) 5 [.int .u8 (k : Int)] = some [.int .u8 (k : Int)] := by
  have hwf : (Lit.int .u8 (k : Int)).wf = true := by simp [Lit.wf, IntKind.min, IntKind.max, IntKind.signed, IntKind.bits]; omega
  unfold Program.keyLits
  rw [Tryd.underlying5]
  simp [hwf]
theorem lits9 (n : Nat) (s : ByteArray) (hs : s.size ≤ maxLen) : Tryd.prog.keyLits (n + 1) 9 [.string s] = some [.string s.data.toList] := by
  unfold Program.keyLits
  rw [Tryd.underlying9]
  simp [hs]
theorem key_is (m : Mark) (hk : m.kind < 256) (hs : m.text.size ≤ maxLen) : ∃ l, keyOf Tryd.prog 93 (mkV m) = some l := by
  obtain ⟨n, hn⟩ := size_types
  have hf : (mkV m).formed Tryd.prog 93 = true := by simp [Value.formed, Tryd.underlying93, cells81]
  have h5 := lits5 n m.kind hk
  have h9 := lits9 n m.text hs
  unfold keyOf
  rw [hn, Tryd.underlying93]
  simp only [keyT81, hf]
  unfold Program.keyLits
  rw [Tryd.underlying93]
  simp [Value.cells, cells81, cells5, cells9, h5, h9]
end Go.Proofs.YtejacmgppnafcabDoor.Lex
namespace Go.Proofs.YtejacmgppnafcabDoor.Lex
open Go.ChangeShapes Go.WideShapes Go.ChangeAt Go.RowKit Go.Joins Go.WideMaps Go.WideElems Go.Maps
/-- The eight atoms: a token's kind and text, and the function that reads what begins with it. -/
def aT : List (Nat × ByteArray × Nat) := [(1, ⟨#[]⟩, 24), (1, ⟨#[116, 114, 117, 101]⟩, 46), (1, ⟨#[102, 97, 108, 115, 101]⟩, 47), (2, ⟨#[]⟩, 61), (3, ⟨#[40]⟩, 81), (3, ⟨#[45]⟩, 16), (1, ⟨#[110, 111, 116]⟩, 32), (1, ⟨#[112, 114, 101]⟩, 34)]
def aR (k : Nat) : Nat × ByteArray × Nat := aT.getD k (0, ⟨#[]⟩, 0)
def aKey (k : Nat) : Value := .agg #[.int .u8 ((aR k).1 : Int), .string (aR k).2.1]
def aVal (k : Nat) : Value := .func (.func (aR k).2.2) #[] #[]
theorem cases8 {k : Nat} (h : k < 8) : k = 0 ∨ k = 1 ∨ k = 2 ∨ k = 3 ∨ k = 4 ∨ k = 5 ∨ k = 6 ∨ k = 7 := by omega
theorem aKey_mk {k : Nat} {m : Mark} (h : aKey k = mkV m) : (aR k).1 = m.kind ∧ (aR k).2.1 = m.text := by
  unfold aKey at h
  injection h with h
  simp only [Array.mk.injEq, List.cons.injEq, Value.int.injEq, Value.string.injEq, and_true, true_and] at h
  exact ⟨by omega, h.2⟩
theorem aKey_ne {i j : Nat} (hi : i < 8) (hj : j < 8) (h : i ≠ j) : aKey i ≠ aKey j := fun e => by
  have e2 := aKey_mk (m := ⟨(aR j).1, (aR j).2.1⟩) e
  simp only at e2
  rcases cases8 hi with rfl | rfl | rfl | rfl | rfl | rfl | rfl | rfl <;> rcases cases8 hj with rfl | rfl | rfl | rfl | rfl | rfl | rfl | rfl <;> first | omega | exact absurd e2.1 (by decide) | exact absurd (congrArg (fun s => s.data.toList) e2.2) (by decide)
theorem aKey_is {k : Nat} (h : k < 8) : ∃ l, keyOf Tryd.prog 93 (aKey k) = some l := key_is ⟨(aR k).1, (aR k).2.1⟩ (by rcases cases8 h with rfl | rfl | rfl | rfl | rfl | rfl | rfl | rfl <;> decide) (by rcases cases8 h with rfl | rfl | rfl | rfl | rfl | rfl | rfl | rfl <;> decide)
abbrev RA : Value → Option (DataW Unit × List MemPlace) := fun _ => some (.nil, [])
/-- Those of the eight are there that b says. -/
def AtM (b : Nat → Bool) (mp n : Nat) (w : World) : Prop := ∃ es clock, w.heap[mp]? = some (.map es clock) ∧ Fit Tryd.prog 93 RA es clock ∧ es.size + n ≤ 8 ∧
  (∀ x ∈ es.toList, ∃ k, k < 8 ∧ b k = true ∧ x.key = aKey k ∧ x.val = aVal k) ∧ ∀ k, k < 8 → b k = true → ∃ x ∈ es.toList, x.key = aKey k
def upd (b : Nat → Bool) (k : Nat) : Nat → Bool := fun i => if i = k then true else b i
theorem grown_setBlock {w : World} {b : Nat} (o : Obj) : w.grownBy (ChangeMaps.setBlock w b o) (some b) := by
  refine ⟨rfl, rfl, rfl, by simp [ChangeMaps.setBlock], fun k hk hkr => ?_⟩
  have hkr' : k ≠ b := fun e => hkr (by rw [e])
  simp only [ChangeMaps.setBlock]
  rw [Array.getElem?_setIfInBounds_ne (fun e => hkr' e.symm)]
def L35 (b : Nat → Bool) : Array Bool := #[true, true, b 0, true, b 1, true, b 2, true, b 3, true, b 4, true, b 5, true, b 6, true, b 7, false, false]
def left (b : Nat → Bool) : Nat := (!b 0).toNat + (!b 1).toNat + (!b 2).toNat + (!b 3).toNat + (!b 4).toNat + (!b 5).toNat + (!b 6).toNat + (!b 7).toNat
abbrev insOp (k : Nat) (p : String) : Oper := { dst := none, op := Op.insert 59 (.tmp 1) (.tmp (2 + k)) (.func (aR k).2.2), type := 0, pos := p, after := #[⟨0, .data⟩, ⟨1 + 2 * k, .data⟩], guard := none }
end Go.Proofs.YtejacmgppnafcabDoor.Lex
namespace Go.Proofs.YtejacmgppnafcabDoor.Lex
open Go.ChangeShapes Go.WideShapes Go.ChangeAt Go.RowKit Go.Joins Go.WideMaps Go.WideElems Go.Maps
theorem left_upd {b : Nat → Bool} {k : Nat} (hk : k < 8) (hb : b k = false) : left b = left (upd b k) + 1 := by
  rcases cases8 hk with rfl | rfl | rfl | rfl | rfl | rfl | rfl | rfl <;> simp [left, upd, hb] <;> omega
theorem left_none {b : Nat → Bool} (h : left b = 0) : ∀ k, k < 8 → b k = true := fun k hk => by
  cases e : b k with
  | true => rfl
  | false => have := left_upd hk e; omega
theorem L35_upd (b : Nat → Bool) {k : Nat} (hk : k < 8) : (L35 b).setIfInBounds (2 + 2 * k) true = L35 (upd b k) := by
  rcases cases8 hk with rfl | rfl | rfl | rfl | rfl | rfl | rfl | rfl <;> simp [L35, upd]
theorem L35_at (b : Nat → Bool) {k : Nat} (hk : k < 8) (d : Bool) : (L35 b).getD (2 + 2 * k) d = b k := by
  rcases cases8 hk with rfl | rfl | rfl | rfl | rfl | rfl | rfl | rfl <;> rfl
def all35 (x y : Bool) : Array Bool := #[true, true, true, true, true, true, true, true, true, true, true, true, true, true, true, true, true, x, y]
theorem all35_at (x y : Bool) {d : Bool} {i : Nat} (h : i < 17) : (all35 x y).getD i d = true := by
  have : i = 0 ∨ i = 1 ∨ i = 2 ∨ i = 3 ∨ i = 4 ∨ i = 5 ∨ i = 6 ∨ i = 7 ∨ i = 8 ∨ i = 9 ∨ i = 10 ∨ i = 11 ∨ i = 12 ∨ i = 13 ∨ i = 14 ∨ i = 15 ∨ i = 16 := by omega
  rcases this with rfl | rfl | rfl | rfl | rfl | rfl | rfl | rfl | rfl | rfl | rfl | rfl | rfl | rfl | rfl | rfl | rfl <;> rfl
theorem all35_at' (y : Bool) {d : Bool} {i : Nat} (h : i < 18) : (all35 true y).getD i d = true := by
  by_cases e : i < 17
  · exact all35_at _ _ e
  · obtain rfl : i = 17 := by omega
    rfl
theorem grownM {a b c : World} {r : Option Nat} (h : a.grownBy b r) (k : b.grownBy c r) : a.grownBy c r := grown_on h k
theorem AtM.none (mp : Nat) (w : World) (h : w.heap[mp]? = some (.map #[] 0)) : AtM (fun _ => false) mp 8 w :=
  ⟨#[], 0, h, ⟨by simp, ⟨fun _ h => by simp at h, by simp, by simp⟩, fun _ h => by simp at h⟩, by simp, fun _ h => by simp at h, fun _ _ h => by cases h⟩
end Go.Proofs.YtejacmgppnafcabDoor.Lex
namespace Go.Proofs.YtejacmgppnafcabDoor.Lex
open Go.ChangeShapes Go.WideShapes Go.ChangeAt Go.RowKit Go.Joins Go.WideMaps Go.WideElems Go.Maps
/-- What is asked for: a name, and how long ago. -/
abbrev Rf := ByteArray × Nat
theorem row51 : (37 : TypeId) < Tryd.prog.types.size := of_decide_eq_true (by kernel_rfl)
theorem wide51 : (match Tryd.prog.underlying 37 with | some (.array _ _) | some (.struct _) => true | _ => false) = true := by kernel_rfl
theorem deep51 : Tryd.prog.keyTypeAt 3 37 = true := by kernel_rfl
set_option maxRecDepth 100000 in
theorem keyed51 : Keyed Tryd.prog 37 := Keyed.of_law (deep_law_laid laidOut (m := 3) (by omega) row51 deep51 wide51)
theorem keyT51 : Tryd.prog.keyType 37 = true := by kernel_rfl
theorem cells51 : Tryd.prog.cellsOf 37 = 2 := by kernel_rfl
theorem cells3 : Tryd.prog.cellsOf 3 = 1 := by kernel_rfl
abbrev rV (r : Rf) : Array Value := #[.string r.1, .int .i64 (r.2 : Int)]
abbrev rKey (r : Rf) : Value := .agg (rV r)
/-- One that may be. -/
def RfOk (r : Rf) : Prop := r.1.size ≤ 65536 ∧ r.2 ≤ 1099511627776
theorem lits3 (n : Nat) (k : Nat) (hk : k ≤ 1099511627776) : Tryd.prog.keyLits (n + 1) 3 [.int .i64 (k : Int)] = some [.int .i64 (k : Int)] := by
  have hwf : (Lit.int .i64 (k : Int)).wf = true := by simp [Lit.wf, IntKind.min, IntKind.max, IntKind.signed, IntKind.bits]; omega
  unfold Program.keyLits
  rw [Tryd.underlying3]
  simp [hwf]
theorem rKey_is {r : Rf} (h : RfOk r) : ∃ l, keyOf Tryd.prog 37 (rKey r) = some l := by
  obtain ⟨n, hn⟩ := size_types
  have hf : (rKey r).formed Tryd.prog 37 = true := by simp [Value.formed, Tryd.underlying37, cells51]
  have h3 := lits3 n r.2 h.2
  have h9 := lits9 n r.1 (by have := h.1; unfold maxLen; omega)
  unfold keyOf
  rw [hn, Tryd.underlying37]
  simp only [keyT51, hf]
  unfold Program.keyLits
  rw [Tryd.underlying37]
  simp [Value.cells, cells51, cells3, cells9, h3, h9]
theorem rKey_inj {r q : Rf} (h : rKey r = rKey q) : r = q := by
  unfold rKey at h
  injection h with h
  simp only [Array.mk.injEq, List.cons.injEq, Value.int.injEq, Value.string.injEq, and_true, true_and] at h
  exact Prod.ext h.1 (by omega)
theorem zero3 (w : World) : (zeroValue 3).run Tryd.prog w = .ok (.int .i64 0) w := by kernel_rfl
/-- The map counts what is in a list. -/
def SeenM (acc : List Rf) (N mb : Nat) (w : World) : Prop := ∃ es clock, w.heap[mb]? = some (.map es clock) ∧ Fit Tryd.prog 37 RA es clock ∧ es.size ≤ N ∧
  (∀ x ∈ es.toList, ∃ r, r ∈ acc ∧ x.key = rKey r ∧ ∃ c : Nat, 1 ≤ c ∧ c ≤ N ∧ x.val = .int .i64 (c : Int)) ∧ ∀ r ∈ acc, ∃ x ∈ es.toList, x.key = rKey r
theorem SeenM.kept {acc : List Rf} {N mb : Nat} {w W : World} (h : SeenM acc N mb w) (hb : mb < w.heap.size → W.heap[mb]? = w.heap[mb]?) : SeenM acc N mb W := by
  obtain ⟨es, clock, e1, e2⟩ := h
  exact ⟨es, clock, (hb (Array.getElem?_eq_some_iff.1 e1).1).trans e1, e2⟩
theorem SeenM.none (mb : Nat) (w : World) (h : w.heap[mb]? = some (.map #[] 0)) : SeenM [] 0 mb w :=
  ⟨#[], 0, h, ⟨by simp, ⟨fun _ h => by simp at h, by simp, by simp⟩, fun _ h => by simp at h⟩, by simp, fun _ h => by simp at h, fun _ h => by cases h⟩
theorem look_one {es : Array MapEntry} {clock mb : Nat} {w : World} (hb : w.heap[mb]? = some (.map es clock)) (F : Fit (H := Unit) Tryd.prog 37 RA es clock) {r : Rf} (hr : RfOk r) {x : MapEntry} (hx : x ∈ es.toList) (hk : x.key = rKey r) : (Instr.lookup 56 (.map (some mb)) (rKey r) false).run Tryd.prog w = .ok x.val w := by
  obtain ⟨l, hl⟩ := rKey_is hr
  rcases fit_look false keyed51 Tryd.underlying56 (zero3 w) hb F hl with ⟨_, e2, _⟩ | ⟨e0, y, e1, e2, e3, _⟩
  · exact (e2 x hx hk).elim
  · have he : e0 = x := by
      obtain ⟨i, hi, ei⟩ := List.getElem_of_mem e1
      obtain ⟨j, hj, ej⟩ := List.getElem_of_mem hx
      by_cases hij : i = j
      · subst hij; rw [← ei, ← ej]
      · exfalso
        have := other_key F (j := j) (e0 := x) (by rw [List.getElem?_eq_getElem hj, ej]) (i := i) (x := e0) (by rw [List.getElem?_eq_getElem hi, ei]) hij
        exact this (e2.trans hk.symm)
    rw [e3, he]
    rfl
theorem look_none {es : Array MapEntry} {clock mb : Nat} {w : World} (hb : w.heap[mb]? = some (.map es clock)) (F : Fit (H := Unit) Tryd.prog 37 RA es clock) {r : Rf} (hr : RfOk r) (hn : ∀ x ∈ es.toList, x.key ≠ rKey r) : (Instr.lookup 56 (.map (some mb)) (rKey r) false).run Tryd.prog w = .ok (.int .i64 0) w := by
  obtain ⟨l, hl⟩ := rKey_is hr
  rcases fit_look false keyed51 Tryd.underlying56 (zero3 w) hb F hl with ⟨e1, _, _⟩ | ⟨e0, y, e1, e2, e3, _⟩
  · exact e1
  · exact (hn e0 e1 e2).elim
end Go.Proofs.YtejacmgppnafcabDoor.Lex
namespace Go.Proofs.YtejacmgppnafcabDoor.Lex
open Go.ChangeShapes Go.WideShapes Go.ChangeAt Go.RowKit Go.Joins Go.WideMaps Go.WideElems Go.Maps
def rIn (acc : List Rf) (r : Rf) : Bool := acc.any fun q => q.1.data.toList == r.1.data.toList && q.2 == r.2
def addR (acc : List Rf) (r : Rf) : List Rf := if rIn acc r then acc else acc ++ [r]
theorem rIn_mem {acc : List Rf} {r : Rf} : rIn acc r = true ↔ r ∈ acc := by
  unfold rIn
  rw [List.any_eq_true]
  constructor
  · rintro ⟨q, hq, e⟩
    simp only [Bool.and_eq_true, beq_iff_eq] at e
    have : q = r := Prod.ext (by
      obtain ⟨⟨⟨l⟩⟩, n⟩ := q
      obtain ⟨⟨⟨l'⟩⟩, n'⟩ := r
      simp only at e ⊢
      rw [e.1]) e.2
    rw [← this]
    exact hq
  · intro h
    exact ⟨r, h, by simp⟩
theorem modify_last {es : Array MapEntry} {x : MapEntry} (f : MapEntry → MapEntry) : (es.push x).modify es.size f = es.push (f x) := by
  apply Array.ext
  · simp
  · intro i h1 h2
    have hi : i < es.size + 1 := by simpa using h2
    by_cases e : es.size = i
    · subst e
      rw [Array.getElem_modify_self]
      simp
    · rw [Array.getElem_modify_of_ne e, Array.getElem_push_lt (by omega), Array.getElem_push_lt (by omega)]
theorem find_last {es : Array MapEntry} {x : MapEntry} {p : MapEntry → Bool} (h1 : ∀ e ∈ es.toList, p e = false) (h2 : p x = true) : (es.push x).findIdx? p = some es.size := by
  rw [Array.findIdx?_eq_some_iff_getElem]
  refine ⟨by simp, by simpa using h2, fun j hj => ?_⟩
  rw [Array.getElem_push_lt hj]
  have := h1 es[j] (by simp)
  simp [this]
theorem born_at {es : Array MapEntry} {j : Nat} {e0 : MapEntry} (h : es.toList[j]? = some e0) (hn : (es.toList.map (·.born)).Nodup) : es.findIdx? (fun e => (e.born : Int) == (e0.born : Int)) = some j := by
  obtain ⟨hj, ej⟩ := List.getElem?_eq_some_iff.1 h
  have hj' : j < es.size := by simpa using hj
  rw [Array.findIdx?_eq_some_iff_getElem]
  refine ⟨hj', ?_, fun i hi => ?_⟩
  · have : es[j] = e0 := by simpa using ej
    simp [this]
  · have hne := (List.pairwise_iff_getElem.1 hn) i j (by simp; omega) (by simp; omega) hi
    simp only [List.getElem_map, ej] at hne
    simp only [Array.getElem_toList] at hne
    simp
    omega
theorem modify_same {es : Array MapEntry} {j : Nat} {e0 : MapEntry} (h : es.toList[j]? = some e0) (f : MapEntry → MapEntry) (hf : f e0 = e0) : es.modify j f = es := by
  obtain ⟨hj, ej⟩ := List.getElem?_eq_some_iff.1 h
  apply Array.ext
  · simp
  · intro i h1 h2
    by_cases e : j = i
    · subst e
      rw [Array.getElem_modify_self]
      have : es[j] = e0 := by simpa using ej
      rw [this, hf]
    · rw [Array.getElem_modify_of_ne e]
theorem heap_block {w : World} {b : Nat} {o : Obj} (h : b < w.heap.size) : (ChangeMaps.setBlock w b o).heap[b]? = some o := by
  simp [ChangeMaps.setBlock, h]
set_option maxRecDepth 100000 in
theorem SeenM.bump {acc : List Rf} {N mb : Nat} {w : World} (h : SeenM acc N mb w) (hN : N < 1099511627776) {r : Rf} (hr : RfOk r) : ∃ (c : Nat) (W1 W2 : World) (born : Nat), c ≤ N ∧ (c = 0 ↔ rIn acc r = false) ∧ (Instr.lookup 56 (.map (some mb)) (rKey r) false).run Tryd.prog w = .ok (.int .i64 (c : Int)) w ∧
    (Instr.mapEntry 56 (.map (some mb)) (rKey r)).run Tryd.prog w = .ok (.tuple #[.int .i64 (c : Int), .int .i64 (born : Int)]) W1 ∧ (Instr.lookup 56 (.map (some mb)) (rKey r) false).run Tryd.prog W1 = .ok (.int .i64 (c : Int)) W1 ∧
    (Instr.entryStore 56 (.map (some mb)) (.int .i64 (born : Int)) (.int .i64 ((c : Int) + 1))).run Tryd.prog W1 = .ok () W2 ∧ (Instr.lookup 56 (.map (some mb)) (rKey r) false).run Tryd.prog W2 = .ok (.int .i64 ((c : Int) + 1)) W2 ∧ SeenM (addR acc r) (N + 1) mb W2 ∧ w.grownBy W1 (some mb) ∧ W1.grownBy W2 (some mb) := by
  obtain ⟨es, clock, hh, F, hs, h1, h2⟩ := h
  obtain ⟨l, hl⟩ := rKey_is hr
  have hlt := (Array.getElem?_eq_some_iff.1 hh).1
  cases hin : rIn acc r with
  | false =>
    have hno : ∀ x ∈ es.toList, x.key ≠ rKey r := fun x hx e => by
      obtain ⟨q, hq, ek, _⟩ := h1 x hx
      have e2 := rKey_inj (ek.symm.trans e)
      rw [e2, ← rIn_mem, hin] at hq
      cases hq
    have fitP : ∀ v, Fit (H := Unit) Tryd.prog 37 RA (es.push ⟨rKey r, v, clock⟩) (clock + 1) := fun v => ⟨by simp; unfold maxLen; omega, MapKept.stamped_push F.stamped hno, fun x hx => by
      simp only [Array.toList_push, List.mem_append, List.mem_singleton] at hx
      rcases hx with hx | rfl
      · exact F.reads x hx
      · exact ⟨_, rd_mk hl rfl⟩⟩
    have hh1 : (ChangeMaps.setBlock w mb (.map (es.push ⟨rKey r, .int .i64 0, clock⟩) (clock + 1))).heap[mb]? = some (.map (es.push ⟨rKey r, .int .i64 0, clock⟩) (clock + 1)) := heap_block hlt
    have hlt1 := (Array.getElem?_eq_some_iff.1 hh1).1
    have hh2 : (ChangeMaps.setBlock (ChangeMaps.setBlock w mb (.map (es.push ⟨rKey r, .int .i64 0, clock⟩) (clock + 1))) mb (.map (es.push ⟨rKey r, .int .i64 1, clock⟩) (clock + 1))).heap[mb]? = some (.map (es.push ⟨rKey r, .int .i64 1, clock⟩) (clock + 1)) := heap_block hlt1
    refine ⟨0, _, _, clock, Nat.zero_le _, by simp, look_none hh F hr hno, ?_, look_one hh1 (fitP _) hr (x := ⟨rKey r, .int .i64 0, clock⟩) (by simp) rfl, ?_, look_one hh2 (fitP _) hr (x := ⟨rKey r, .int .i64 1, clock⟩) (by simp) rfl, ⟨_, _, hh2, fitP _, by simp; omega, ?_, ?_⟩, grown_setBlock _, grown_setBlock _⟩
    · rcases keyed51.find w hl es.toList F.keys with ⟨f1, _⟩ | ⟨j, e, _, f2, f3⟩
      · simp [Instr.mapEntry, run_underlying Tryd.underlying56, MapKept.run_getObj_map hh, keyed51.check w false hl, f1, MapKept.run_setObj_map _ hh, Result.andThen, ChangeMaps.setBlock, goInt]
      · exact (hno e (List.mem_of_getElem? f2) f3).elim
    · have hf := find_last (es := es) (x := ⟨rKey r, .int .i64 0, clock⟩) (p := fun e => (e.born : Int) == (clock : Int)) (fun e he => by have := F.stamped.1 e he; simp; omega) (by simp)
      simp [Instr.entryStore, MapKept.run_getObj_map hh1, asInt, asIntOf, hf, MapKept.run_setObj_map _ hh1, Result.andThen, modify_last]
      rfl
    · intro x hx
      simp only [Array.toList_push, List.mem_append, List.mem_singleton] at hx
      unfold addR
      rw [hin]
      rcases hx with hx | rfl
      · obtain ⟨q, hq, ek, c, c1, c2, ev⟩ := h1 x hx
        exact ⟨q, by simp [hq], ek, c, c1, by omega, ev⟩
      · exact ⟨r, by simp, rfl, 1, by omega, by omega, rfl⟩
    · intro q hq
      unfold addR at hq
      rw [hin] at hq
      simp only [Bool.false_eq_true, if_false, List.mem_append, List.mem_singleton] at hq
      simp only [Array.toList_push, List.mem_append, List.mem_singleton]
      rcases hq with hq | rfl
      · obtain ⟨x, hx, ek⟩ := h2 q hq
        exact ⟨x, .inl hx, ek⟩
      · exact ⟨_, .inr rfl, rfl⟩
  | true =>
    obtain ⟨x0, hx0, ek0⟩ := h2 r (rIn_mem.1 hin)
    rcases keyed51.find w hl es.toList F.keys with ⟨_, f2⟩ | ⟨j, e0, f1, f2, f3⟩
    · exact (f2 x0 hx0 ek0).elim
    · have he0 := List.mem_of_getElem? f2
      obtain ⟨q, hq, ek, c, c1, c2, ev⟩ := h1 e0 he0
      have hj : es[j]? = some e0 := by simpa using f2
      have hms : es.modify j (fun e => { e with key := rKey r }) = es := modify_same f2 _ (by rw [← f3])
      have hh1 : (ChangeMaps.setBlock w mb (.map es clock)).heap[mb]? = some (.map es clock) := heap_block hlt
      have hlt1 := (Array.getElem?_eq_some_iff.1 hh1).1
      have hh2 : (ChangeMaps.setBlock (ChangeMaps.setBlock w mb (.map es clock)) mb (.map (es.modify j (fun e => { e with val := .int .i64 ((c : Int) + 1) })) clock)).heap[mb]? = some (.map (es.modify j (fun e => { e with val := .int .i64 ((c : Int) + 1) })) clock) := heap_block hlt1
      have hlist : (es.modify j (fun e => { e with val := .int .i64 ((c : Int) + 1) })).toList = es.toList.set j { e0 with val := .int .i64 ((c : Int) + 1) } := by rw [Array.toList_modify, ChangeMaps.modify_eq_set _ _ _ _ f2]
      have hjl : j < es.toList.length := (List.getElem?_eq_some_iff.1 f2).1
      have fit2 : Fit (H := Unit) Tryd.prog 37 RA (es.modify j (fun e => { e with val := .int .i64 ((c : Int) + 1) })) clock := ⟨by simpa using F.size, MapKept.stamped_modify F.stamped _ _ (fun _ _ => rfl) (fun _ _ _ => rfl), fun x hx => by
        rw [hlist] at hx
        rcases List.mem_or_eq_of_mem_set hx with hx | rfl
        · exact F.reads x hx
        · refine ⟨(l, .nil), ?_⟩
          show (keyOf Tryd.prog 37 e0.key).bind _ = _
          rw [f3, hl]
          rfl⟩
      have hmem : ({ e0 with val := .int .i64 ((c : Int) + 1) } : MapEntry) ∈ (es.modify j (fun e => { e with val := .int .i64 ((c : Int) + 1) })).toList := by
        rw [hlist]
        exact List.mem_iff_getElem.2 ⟨j, by simpa using hjl, by simp⟩
      refine ⟨c, _, _, e0.born, c2, ⟨fun e => by omega, fun e => by cases e⟩, by rw [look_one hh F hr he0 f3, ev], ?_, by rw [look_one hh1 F hr he0 f3, ev], ?_, look_one hh2 fit2 hr hmem f3, ⟨_, _, hh2, fit2, by simp; omega, ?_, ?_⟩, grown_setBlock _, grown_setBlock _⟩
      · simp [Instr.mapEntry, run_underlying Tryd.underlying56, MapKept.run_getObj_map hh, keyed51.check w false hl, f1, hj, f3, keyed51.stays w hl, MapKept.run_setObj_map _ hh, Result.andThen, ChangeMaps.setBlock, goInt, hms, ev]
      · have hf := born_at f2 F.stamped.2.1
        simp [Instr.entryStore, MapKept.run_getObj_map hh1, asInt, asIntOf, hf, MapKept.run_setObj_map _ hh1, Result.andThen]
        rfl
      · intro x hx
        unfold addR
        rw [hin, if_pos rfl]
        rw [hlist] at hx
        rcases List.mem_or_eq_of_mem_set hx with hx | rfl
        · obtain ⟨q', hq', ek', c', c1', c2', ev'⟩ := h1 x hx
          exact ⟨q', hq', ek', c', c1', by omega, ev'⟩
        · exact ⟨q, hq, ek, c + 1, by omega, by omega, by simp⟩
      · intro q' hq'
        unfold addR at hq'
        rw [hin, if_pos rfl] at hq'
        obtain ⟨x, hx, ekx⟩ := h2 q' hq'
        obtain ⟨i, hi, ei⟩ := List.getElem_of_mem hx
        by_cases hij : j = i
        · subst hij
          refine ⟨_, hmem, ?_⟩
          have : e0 = x := by rw [List.getElem?_eq_getElem hi, ei] at f2; injection f2 with f2; exact f2.symm
          rw [this]
          exact ekx
        · refine ⟨x, ?_, ekx⟩
          rw [hlist]
          exact List.mem_iff_getElem.2 ⟨i, by simpa using hi, by rw [List.getElem_set_ne hij]; exact ei⟩
end Go.Proofs.YtejacmgppnafcabDoor.Lex
namespace Go.Proofs.YtejacmgppnafcabDoor.Lex
open Go.RowKit
/-- A token's cells. -/
def tokV (t : Tok) : List Value := [.int .u8 (t.kind : Int), .string ⟨t.text.toArray⟩, .int .i64 (t.at_ : Int)]
def toksV (ts : List Tok) : List Value := ts.flatMap tokV
theorem toksV_app (ts us : List Tok) : toksV (ts ++ us) = toksV ts ++ toksV us := by simp [toksV]
theorem toksV_len (ts : List Tok) : (toksV ts).length = ts.length * 3 := by
  induction ts with
  | nil => rfl
  | cons t ts ih => simp only [toksV, List.flatMap_cons, List.length_append, List.length_cons] at ih ⊢; rw [ih]; simp [tokV]; omega
theorem ownsRow_below {w w' : World} {base e size n : Nat} {v : Value} {xs : List Value} (h : w.ownsRow base e size v n xs) (hb : Below w.heap.size w w') : w'.ownsRow base e size v n xs := by
  refine ⟨h.1, ?_⟩
  rcases h.2 with hn | ⟨g, cap, cur, rfl, hg0, hg, rest⟩
  · exact .inl hn
  · exact .inr ⟨g, cap, cur, rfl, hg0, (hb.block g (Array.getElem?_eq_some_iff.1 hg).1).trans hg, rest⟩
end Go.Proofs.YtejacmgppnafcabDoor.Lex
namespace Go.Proofs.YtejacmgppnafcabDoor.Lex
open Go.RowKit
theorem bytes_drop (s : ByteArray) (i : Nat) : (s.extract i s.size).data.toList = s.data.toList.drop i := by
  have := Lib.size_eq s
  simp [ByteArray.data_extract]
  exact List.take_of_length_le (by simp [← this])
theorem bytes_part (s : ByteArray) (i n : Nat) : (s.extract i (i + n)) = ⟨((s.data.toList.drop i).take n).toArray⟩ := by
  apply ByteArray.ext
  apply Array.toList_inj.1
  simp [ByteArray.data_extract]
def lenK : Nat → List UInt8 → Nat
  | 0, l => silLen l
  | 1, l => wordLen l
  | 2, l => numLen l
  | _, l => signLen l
theorem step_at {l : List UInt8} {k : Nat} (hk : k < 4) (h : ∀ j, j < k → lenK j l = 0) (hn : lenK k l ≠ 0) : step l = some (k, lenK k l) := by
  have h0 := h 0
  have h1 := h 1
  have h2 := h 2
  simp only [lenK] at h0 h1 h2
  unfold step
  obtain rfl | rfl | rfl | rfl : k = 0 ∨ k = 1 ∨ k = 2 ∨ k = 3 := by omega
  · simp only [lenK] at hn ⊢; simp [hn]
  · simp only [lenK] at hn ⊢; simp [hn, h0]
  · simp only [lenK] at hn ⊢; simp [hn, h0, h1]
  · simp only [lenK] at hn ⊢; simp [hn, h0, h1, h2]
theorem step_zero {l : List UInt8} (h : ∀ j, j < 4 → lenK j l = 0) : step l = none := by
  have h0 := h 0
  have h1 := h 1
  have h2 := h 2
  have h3 := h 3
  simp only [lenK] at h0 h1 h2 h3
  unfold step
  simp [h0, h1, h2, h3]
theorem ahead_nil (r : Except Nat (List Tok)) : ahead [] r = r := by cases r <;> rfl
/-- How far Read has come. -/
structure Come (L : List UInt8) (pos next : Nat) (ts : List Tok) : Prop where
  so : toks 0 L = ahead ts (toks next (L.drop next))
  edge : pos = next ∨ next = L.length ∨ (L.getD next 0).toNat < 128 ∨ (L.getD (next - 1) 0).toNat < 128
  few : ts.length ≤ next
theorem Come.start (L : List UInt8) : Come L 0 0 [] := ⟨by rw [ahead_nil, List.drop_zero], .inl rfl, Nat.le_refl _⟩
/-- A rune within what is gone by ends within it. -/
theorem Come.skip {s : ByteArray} {pos next : Nat} {ts : List Tok} (h : Come s.data.toList pos next ts) (hlt : pos < next) (hle : next ≤ s.size) :
    pos + (Utf8.decode s pos).2 ≤ next ∧ Come s.data.toList (pos + (Utf8.decode s pos).2) next ts := by
  have hp : pos < s.size := by omega
  have hg := getD_get s pos hp
  have key : pos + (Utf8.decode s pos).2 ≤ next := by
    by_cases hc : (s[pos]'hp).toNat < 128
    · rw [decode_ascii s pos hp hc]; show pos + 1 ≤ next; omega
    · have hc' : 128 ≤ (s.data.toList.getD pos 0).toNat := by rw [hg]; omega
      have hr := fun i hi hl => decode_range s pos i hp hc' hi hl
      by_cases hk : pos + (Utf8.decode s pos).2 ≤ next
      · exact hk
      · exfalso
        have h1 := hr next (by omega) (by omega)
        have h2 := hr (next - 1) (by omega) (by omega)
        rcases h.edge with e | e | e | e
        · omega
        · rw [← Lib.size_eq] at e; omega
        · omega
        · omega
  exact ⟨key, h.so, .inr (h.edge.resolve_left (by omega)), h.few⟩
/-- A step. -/
theorem Come.go {s : ByteArray} {pos : Nat} {ts : List Tok} (h : Come s.data.toList pos pos ts) (hp : pos < s.size) {k n : Nat} (hs : step (s.data.toList.drop pos) = some (k, n)) :
    pos + (Utf8.decode s pos).2 ≤ pos + n ∧ pos + n ≤ s.size ∧ 1 ≤ n ∧ Come s.data.toList (pos + (Utf8.decode s pos).2) (pos + n) (ts ++ if k = 0 then [] else [⟨k, (s.data.toList.drop pos).take n, pos⟩]) := by
  have hL : s.data.toList.length = s.size := (Lib.size_eq s).symm
  obtain ⟨h1, h2, h3⟩ := step_le hs
  rw [List.length_drop, hL] at h2
  have hg := getD_get s pos hp
  have hlow : (s[pos]'hp).toNat < 128 := by
    by_cases hc : (s[pos]'hp).toNat < 128
    · exact hc
    · have := step_high (l := s.data.toList.drop pos) (by rw [drop_getD, Nat.add_zero, hg]; omega)
      rw [this] at hs
      cases hs
  have hd : (Utf8.decode s pos).2 = 1 := by rw [decode_ascii s pos hp hlow]
  refine ⟨by omega, by omega, h1, ?_, ?_, ?_⟩
  · rw [h.so, toks_some (fun e => by have := congrArg List.length e; simp [hL] at this; omega) hs, ahead_app, List.drop_drop]
  · have he := step_end hs
    rw [drop_getD, drop_getD, List.length_drop, hL] at he
    right
    rcases he with e | e | e
    · left; omega
    · exact .inr (.inl e)
    · refine .inr (.inr ?_)
      rw [show pos + n - 1 = pos + (n - 1) by omega]
      exact e
  · have := h.few
    rw [List.length_append]
    split
    · simp; omega
    · simp; omega
theorem Come.stop {s : ByteArray} {pos : Nat} {ts : List Tok} (h : Come s.data.toList pos pos ts) (hp : pos < s.size) (hs : step (s.data.toList.drop pos) = none) : toks 0 s.data.toList = .error pos := by
  have hL : s.data.toList.length = s.size := (Lib.size_eq s).symm
  rw [h.so, toks_none (fun e => by have := congrArg List.length e; simp [hL] at this; omega) hs]
  rfl
theorem Come.done {s : ByteArray} {pos : Nat} {ts : List Tok} (h : Come s.data.toList pos s.size ts) : toks 0 s.data.toList = .ok ts := by
  have hL : s.data.toList.length = s.size := (Lib.size_eq s).symm
  rw [h.so, List.drop_eq_nil_of_le (by omega), toks_nil]
  simp [ahead]
end Go.Proofs.YtejacmgppnafcabDoor.Lex
namespace Go.Proofs.YtejacmgppnafcabDoor.Lex
open Go.RowKit
theorem ownsRow_mono {w : World} {B B' e size n : Nat} {v : Value} {xs : List Value} (h : w.ownsRow B e size v n xs) (hle : B' ≤ B) : w.ownsRow B' e size v n xs := by
  refine ⟨h.1, ?_⟩
  rcases h.2 with hn | ⟨g, cap, cur, e1, hg0, rest⟩
  · exact .inl hn
  · exact .inr ⟨g, cap, cur, e1, by omega, rest⟩
end Go.Proofs.YtejacmgppnafcabDoor.Lex
namespace Go.Proofs.YtejacmgppnafcabDoor.Lex
open Go.ChangeShapes Go.WideShapes Go.ChangeAt Go.RowKit Go.Joins Go.WideMaps Go.WideElems Go.Maps
def refsV (acc : List Rf) : List Value := acc.flatMap fun r => [.string r.1, .int .i64 (r.2 : Int)]
def nextAgo (x : Ex) (ago : Nat) : Nat := if x.op = 19 then ago + 1 else ago
def ownRefs (x : Ex) (ago : Nat) (acc : List Rf) : List Rf := if x.op = 3 then addR acc (x.name, ago) else acc
/-- What it asks for, looked at so deep. -/
def gat : Nat → Ex → Nat → List Rf → List Rf
  | 0, _, _, acc => acc
  | k + 1, x, ago, acc => x.args.foldl (fun acc y => gat k y (nextAgo x ago) acc) (ownRefs x ago acc)
/-- How many parts it has, itself with them, looked at so deep. -/
def cnt : Nat → Ex → Nat
  | 0, _ => 1
  | k + 1, x => x.args.foldl (fun n y => n + cnt k y) 1
/-- It is no deeper, and its names may be gathered. -/
def NmOk : Nat → Ex → Prop
  | 0, _ => False
  | k + 1, x => x.name.size ≤ 65536 ∧ ∀ y ∈ x.args, NmOk k y
abbrev ptr (b : Nat) : Value := .pointer (some ⟨b, 0, none⟩)
/-- What holds while it is gathered: the map, the list, the closure, in their variables. -/
structure GI (w0 : World) (bs bl bg mb b0 : Nat) (acc accM : List Rf) (N : Nat) (W : World) : Prop where
  below : Below w0.heap.size w0 W
  seen : W.heap[bs]? = some (.cells #[.map (some mb)] 56 (0, 0))
  self : W.heap[bg]? = some (.cells #[.func (.func 19) #[] #[ptr bs, ptr bl, ptr bg]] 57 (0, 0))
  list : ∃ v, W.heap[bl]? = some (.cells #[v] 34 (0, 0)) ∧ W.ownsRow b0 37 2 v acc.length (refsV acc)
  map : SeenM accM N mb W
  few : acc.length ≤ N
  ord : w0.heap.size ≤ bs ∧ w0.heap.size ≤ bl ∧ w0.heap.size ≤ bg ∧ w0.heap.size ≤ mb ∧ bs < b0 ∧ bl < b0 ∧ bg < b0 ∧ mb < b0 ∧ b0 ≤ W.heap.size
  ne : bs ≠ bl ∧ bs ≠ bg ∧ bs ≠ mb ∧ bl ≠ bg ∧ bl ≠ mb ∧ bg ≠ mb
theorem GI.step {w0 W W' : World} {bs bl bg mb b0 N : Nat} {acc accM : List Rf} (h : GI w0 bs bl bg mb b0 acc accM N W) (hb : Below W.heap.size W W') : GI w0 bs bl bg mb b0 acc accM N W' := by
  have k : ∀ {b o}, W.heap[b]? = some o → W'.heap[b]? = some o := fun {b o} e => (hb.block b (Array.getElem?_eq_some_iff.1 e).1).trans e
  obtain ⟨v, l1, l2⟩ := h.list
  obtain ⟨o1, o2, o3, o4, o5, o6, o7, o8, o9⟩ := h.ord
  exact ⟨h.below.trans (hb.mono h.below.size), k h.seen, k h.self, ⟨v, k l1, ownsRow_below l2 hb⟩, h.map.kept fun hl => hb.block mb hl, h.few, ⟨o1, o2, o3, o4, o5, o6, o7, o8, Nat.le_trans o9 hb.size⟩, h.ne⟩
theorem own_kept {w w' : World} {base e size n : Nat} {v : Value} {xs : List Value} {b : Nat} (h : w.ownsRow base e size v n xs) (g : w.grownBy w' (some b)) (hb : b < base) : w'.ownsRow base e size v n xs := by
  refine ⟨h.1, ?_⟩
  rcases h.2 with hn | ⟨g', cap, cur, rfl, hg0, hg, rest⟩
  · exact .inl hn
  · exact .inr ⟨g', cap, cur, rfl, hg0, (g.block g' (Array.getElem?_eq_some_iff.1 hg).1 (fun e => by injection e; omega)).trans hg, rest⟩
/-- The map has turned. -/
theorem GI.count {w0 W W' : World} {bs bl bg mb b0 N N' : Nat} {acc accM accM' : List Rf} (h : GI w0 bs bl bg mb b0 acc accM N W) (g : W.grownBy W' (some mb)) (hm : SeenM accM' N' mb W') (hN : N ≤ N') : GI w0 bs bl bg mb b0 acc accM' N' W' := by
  obtain ⟨n1, n2, n3, n4, n5, n6⟩ := h.ne
  have k : ∀ {b o}, W.heap[b]? = some o → b ≠ mb → W'.heap[b]? = some o := fun {b o} e hne => (g.block b (Array.getElem?_eq_some_iff.1 e).1 (fun e => by injection e; omega)).trans e
  obtain ⟨v, l1, l2⟩ := h.list
  obtain ⟨o1, o2, o3, o4, o5, o6, o7, o8, o9⟩ := h.ord
  refine ⟨h.below.grown g h.below.size (fun k e => by injection e; omega), k h.seen n3, k h.self n6, ⟨v, k l1 n5, own_kept l2 g o8⟩, hm, Nat.le_trans h.few hN, ⟨o1, o2, o3, o4, o5, o6, o7, o8, Nat.le_trans o9 g.size⟩, h.ne⟩
theorem refsV_app (a b : List Rf) : refsV (a ++ b) = refsV a ++ refsV b := by simp [refsV]
/-- The list has grown by one, and is laid in its variable. -/
theorem GI.push {w0 W W' : World} {bs bl bg mb b0 N : Nat} {acc accM : List Rf} {v v' : Value} {r : Rf} (h : GI w0 bs bl bg mb b0 acc accM N W) (hv : W.heap[bl]? = some (.cells #[v] 34 (0, 0))) (hr : W.ownsRow b0 37 2 v acc.length (refsV acc)) (g : W.grownBy W' v.ownBlock) (hr' : W'.ownsRow b0 37 2 v' (acc.length + 1) (refsV acc ++ [.string r.1, .int .i64 (r.2 : Int)])) (hN : acc.length + 1 ≤ N) : W'.heap[bl]? = some (.cells #[v] 34 (0, 0)) ∧ GI w0 bs bl bg mb b0 (acc ++ [r]) accM N (W'.setCell ⟨bl, 0, none⟩ v') := by
  obtain ⟨n1, n2, n3, n4, n5, n6⟩ := h.ne
  obtain ⟨o1, o2, o3, o4, o5, o6, o7, o8, o9⟩ := h.ord
  have hlt := hr.lt
  have hne : ∀ k, k < b0 → some k ≠ v.ownBlock := fun k hk e => by have := (hlt k e.symm).1; omega
  have k : ∀ {b o}, W.heap[b]? = some o → b < b0 → W'.heap[b]? = some o := fun {b o} e hb => (g.block b (Array.getElem?_eq_some_iff.1 e).1 (hne b hb)).trans e
  have far : ∀ b, b ≠ bl → (W'.setCell ⟨bl, 0, none⟩ v').heap[b]? = W'.heap[b]? := fun b hb => Below.heap_setCell _ _ _ _ hb
  have hbl := k hv o6
  refine ⟨hbl, ⟨?_, ?_, ?_, ⟨v', ?_, ?_⟩, ?_, ?_, ⟨o1, o2, o3, o4, o5, o6, o7, o8, ?_⟩, h.ne⟩⟩
  · have b1 := h.below.grown g h.below.size (fun k e => by have := (hlt k e).1; omega)
    exact ⟨b1.os, b1.tape, b1.output, by have := b1.size; simpa [World.setCell] using this, fun k hk => (far k (by omega)).trans (b1.block k hk)⟩
  · rw [far _ n1]; exact k h.seen o5
  · rw [far _ (fun e => n4 e.symm)]; exact k h.self o7
  · rw [set_same' hbl 0 v']; rfl
  · rw [List.length_append, refsV_app]
    rw [show refsV [r] = [.string r.1, .int .i64 (r.2 : Int)] by simp [refsV]]
    refine ⟨hr'.1, ?_⟩
    rcases hr'.2 with hn | ⟨g', cap, cur, e1, hg0, hg, rest⟩
    · exact .inl hn
    · exact .inr ⟨g', cap, cur, e1, hg0, (far g' (by omega)).trans hg, rest⟩
  · exact h.map.kept fun hl => (far mb (fun e => n5 e.symm)).trans (g.block mb hl (hne mb o8))
  · rw [List.length_append]; exact hN
  · have := g.size; simp [World.setCell]; omega
theorem i51 : (Tryd.prog.info? 37).map (fun i => (i.zero, i.size, i.bytes)) = some (some (.agg #[.string ByteArray.empty, .int .i64 0]), 2, 24) := by kernel_rfl
theorem info51 : (Tryd.prog.info? 37).map (·.size) = some 2 := by kernel_rfl
theorem GI.mono {w0 W : World} {bs bl bg mb b0 N N' : Nat} {acc accM : List Rf} (h : GI w0 bs bl bg mb b0 acc accM N W) (hN : N ≤ N') : GI w0 bs bl bg mb b0 acc accM N' W := by
  refine ⟨h.below, h.seen, h.self, h.list, ?_, Nat.le_trans h.few hN, h.ord, h.ne⟩
  obtain ⟨es, clock, e1, e2, e3, e4, e5⟩ := h.map
  exact ⟨es, clock, e1, e2, Nat.le_trans e3 hN, fun x hx => by obtain ⟨r, q1, q2, c, q3, q4, q5⟩ := e4 x hx; exact ⟨r, q1, q2, c, q3, Nat.le_trans q4 hN, q5⟩, e5⟩
end Go.Proofs.YtejacmgppnafcabDoor.Lex
