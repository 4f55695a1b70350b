/-
  The walk of the law on two texts with a line's end between.
-/
import Derived.Test.YtafelijlolidhabDoorJoin
import Derived.Test.YtafelijlolidhabDoorOpen7
import Derived.Laws.AppendOwnNone
namespace Go.Proofs.YtafelijlolidhabDoor.Lex
open Go.ChangeShapes Go.WideShapes Go.ChangeAt Go.RowKit Go.Joins
/-- 'append(dst, src...)', dst nil or the call's own, src nil or not. -/
theorem wpList_append_src {P : Program} {w : World} {ops : Array Oper} {rest : List Oper} {o : Oper} {a : Act} {Q : Exit → Act → World → Prop} (hgd : o.guard = none) (s x : Operand) (t : TypeId)
    (ho : o.op = .call { callee := .builtin .append, args := #[s, x], argTypes := #[t, t] })
    (base : Nat) (e : TypeId) (i : TypeInfo) (z : Value) (size bytes : Nat) (ht : P.underlying t = some (.slice e)) (hi : P.info? e = some i) (hz : i.zero = some z)
    (hsize : i.size = size) (hby : i.bytes = bytes) (hzs : z.cells.size = size) (hsz : 0 < size)
    (v : Value) (n : Nat) (xs : List Value) (hs : a.eval s = v) (hown : w.ownsRow base e size v n xs)
    (ao : Option Addr) (m c : Nat) (news : List Value) (hx : a.eval x = .slice ao m c) (hnone : ao = none → m = 0 ∧ c = 0) (hl : news.length = m * size)
    (hnews : ∀ ad, ao = some ad → ∀ j u, news[j]? = some u → w.cell? (ad.add j) = some u) (h1 : ∀ u ∈ news, u.oneCell' = true)
    (h63 : n + m ≤ maxLen) (hbytes : (n + m) * bytes ≤ 140737488355328) (hbase : base ≤ w.heap.size)
    (h : ∀ v' w', w'.ownsRow base e size v' (n + m) (xs ++ news) → w.grownBy w' v.ownBlock → wpList P ops Q rest (a.put o.dst v') w') : wpList P ops Q (o :: rest) a w := by
  cases ao with
  | some ad => exact wpList_append_own w hgd s x t ho base e i z size bytes ht hi hz hsize hby hzs hsz v n xs hs hown ad m c news hx hl (hnews ad rfl) h1 h63 hbytes hbase fun v' w' h2 h3 _ => h v' w' h2 h3
  | none =>
    obtain ⟨rfl, rfl⟩ := hnone rfl
    have hn : news = [] := List.eq_nil_of_length_eq_zero (by simpa using hl)
    subst hn
    refine wpList_append_own_none hgd s x t ho base e i size ht hi v n xs hs hown hx (h v w (by simpa using hown) ⟨rfl, rfl, rfl, Nat.le_refl _, fun _ _ _ => rfl⟩)
theorem set_same {w : World} {b : Nat} {c : Array Value} {t : TypeId} {f : Nat × Nat} (h : w.heap[b]? = some (.cells c t f)) (i : Nat) (u : Value) :
    (w.setCell ⟨b, i, none⟩ u).heap[b]? = some (.cells (c.setIfInBounds i u) t f) := by
  obtain ⟨hlt, hk⟩ := Array.getElem?_eq_some_iff.1 h
  show (w.heap.modify b _)[b]? = _
  rw [Array.getElem?_eq_getElem (by rw [Array.size_modify]; exact hlt), Array.getElem_modify_self, hk]
  rfl
/-- What holds while the law puts the tokens together. -/
structure Jn (w3 : World) (v : Value) (xs : List Tok) (W : World) : Prop where
  below : Below w3.heap.size w3 W
  row : W.ownsRow w3.heap.size 30 3 v xs.length (toksV xs)
theorem Jn.step {w3 W W' : World} {v : Value} {xs : List Tok} (h : Jn w3 v xs W) (hb : Below W.heap.size W W') : Jn w3 v xs W' := ⟨bstep h.below hb, ownsRow_below h.row hb⟩
theorem Jn.grow {w3 W W' : World} {v v' : Value} {xs : List Tok} (h : Jn w3 v xs W) (t : Tok) (hg : W.grownBy W' v.ownBlock) (hr : W'.ownsRow w3.heap.size 30 3 v' (xs.length + 1) (toksV xs ++ tokV t)) : Jn w3 v' (xs ++ [t]) W' := by
  refine ⟨h.below.grown hg h.below.size (fun k hk => (h.row.lt k hk).1), ?_⟩
  rw [List.length_append, toksV_app, show toksV [t] = tokV t by simp [toksV]]
  exact hr
/-- A token in a cell of its own, and its place turned. -/
theorem own_tok (wr : World) (x y z z' : Value) :
    ∃ W2, (wr.alloc (.cells #[.int .u8 0, .string ByteArray.empty, .int .i64 0] 30)).setRow wr.heap.size #[x, y, z] = W2 ∧ Below wr.heap.size wr W2 ∧ W2.cell? ⟨wr.heap.size, 2, none⟩ = some z ∧ W2.frozen? ⟨wr.heap.size, 2, none⟩ = false ∧
      ∃ W4, W2.setCell ⟨wr.heap.size, 2, none⟩ z' = W4 ∧ Below wr.heap.size wr W4 ∧ W4.heap[wr.heap.size]? = some (.cells #[x, y, z'] 30 (0, 0)) := by
  have h1 := heap_alloc_new wr (.cells #[.int .u8 0, .string ByteArray.empty, .int .i64 0] 30)
  have h2 := setRow_heap _ _ _ #[x, y, z] _ _ h1
  have b2 : Below wr.heap.size wr ((wr.alloc (.cells #[.int .u8 0, .string ByteArray.empty, .int .i64 0] 30)).setRow wr.heap.size #[x, y, z]) := below_row ((Below.refl _ _).alloc (Nat.le_refl _) _) (by simp) (Nat.le_refl _) _
  refine ⟨_, rfl, b2, ?_, ?_, _, rfl, b2.setCell (p := ⟨wr.heap.size, 2, none⟩) (Nat.le_refl _) z', ?_⟩
  · rw [cell_of_row _ _ _ _ 30 (0, 0) h2]; rfl
  · exact frozen_of_row _ _ _ _ _ h2
  · rw [set_same h2]; rfl
theorem cat10 (s t : ByteArray) : (s ++ (⟨#[10]⟩ : ByteArray) ++ t).data.toList = s.data.toList ++ 10 :: t.data.toList := by
  rw [ByteArray.data_append, Array.toList_append, ByteArray.data_append, Array.toList_append]; simp
theorem size10 (s t : ByteArray) : (s ++ (⟨#[10]⟩ : ByteArray) ++ t).size = s.size + 1 + t.size := by rw [Lib.size_eq, cat10, List.length_append, List.length_cons, ← Lib.size_eq, ← Lib.size_eq]; omega
theorem toks_few : ∀ (m : Nat) (l : List UInt8) (a : Nat) (ts : List Tok), l.length = m → toks a l = .ok ts → ts.length ≤ l.length := by
  intro m
  induction m using Nat.strongRecOn with
  | _ m ih =>
    intro l a ts hm h
    by_cases h0 : l = []
    · subst h0; rw [toks_nil] at h; injection h with h; subst h; exact Nat.le_refl _
    · cases hst : step l with
      | none => rw [toks_none h0 hst] at h; cases h
      | some kn =>
        obtain ⟨k, n⟩ := kn
        obtain ⟨h1, h2, _⟩ := step_le hst
        rw [toks_some h0 hst] at h
        cases hr : toks (a + n) (l.drop n) with
        | error e => rw [hr] at h; cases h
        | ok us =>
          rw [hr] at h
          injection h with h
          have := ih (l.drop n).length (by rw [List.length_drop]; omega) (l.drop n) (a + n) us rfl hr
          rw [← h, List.length_append]
          rw [List.length_drop] at this
          split
          · simp; omega
          · simp; omega
theorem toks_in : ∀ (m : Nat) (l : List UInt8) (a e : Nat), l.length = m → toks a l = .error e → e ≤ a + l.length := by
  intro m
  induction m using Nat.strongRecOn with
  | _ m ih =>
    intro l a e hm h
    by_cases h0 : l = []
    · subst h0; rw [toks_nil] at h; cases h
    · cases hst : step l with
      | none => rw [toks_none h0 hst] at h; injection h with h; omega
      | some kn =>
        obtain ⟨k, n⟩ := kn
        obtain ⟨h1, h2, _⟩ := step_le hst
        rw [toks_some h0 hst] at h
        cases hr : toks (a + n) (l.drop n) with
        | ok us => rw [hr] at h; cases h
        | error x =>
          rw [hr] at h
          injection h with h
          have := ih (l.drop n).length (by rw [List.length_drop]; omega) (l.drop n) (a + n) x rfl hr
          rw [List.length_drop] at this
          omega
end Go.Proofs.YtafelijlolidhabDoor.Lex
