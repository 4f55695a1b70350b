/-
  Programs, as they stand in memory.
-/
import Derived.Test.YtilpoiihoikhlaaEx
namespace Go.Proofs.Ytilpoiihoikhlaa.Lex
open Go.ChangeShapes Go.WideShapes Go.ChangeAt Go.RowKit Go.Joins
/-- The head of a flow: all that one from without has. -/
structure Hd where
  name : ByteArray
  ty : Nat
  st : Int
/-- A flow. -/
structure Fl where
  name : ByteArray
  ty : Nat
  st : Int
  df : Int
  body : Ex
/-- A program. -/
structure Pg where
  st : Int
  ins : List Hd
  flows : List Fl
  outs : List ByteArray
abbrev Hd.ok (x : Hd) : Prop := x.name.size ≤ 140737488355328 ∧ x.ty < 256 ∧ (-9223372036854775808 ≤ x.st ∧ x.st ≤ 9223372036854775807)
abbrev Fl.ok (x : Fl) : Prop := x.name.size ≤ 140737488355328 ∧ x.ty < 256 ∧ (-9223372036854775808 ≤ x.st ∧ x.st ≤ 9223372036854775807) ∧ (-9223372036854775808 ≤ x.df ∧ x.df ≤ 9223372036854775807)
/-- The cells of a head. -/
def HdCells (w : World) (b p : Nat) (x : Hd) : Prop :=
  w.cell? ⟨b, p, none⟩ = some (.string x.name) ∧ w.cell? ⟨b, p + 1, none⟩ = some (.int .u8 (x.ty : Int)) ∧ w.cell? ⟨b, p + 2, none⟩ = some (.int .i64 x.st)
/-- The cells of a flow. -/
def FlCells (w : World) (b p : Nat) (x : Fl) (s : Value) : Prop :=
  w.cell? ⟨b, p, none⟩ = some (.string x.name) ∧ w.cell? ⟨b, p + 1, none⟩ = some (.int .u8 (x.ty : Int)) ∧ w.cell? ⟨b, p + 2, none⟩ = some (.int .i64 x.st) ∧ w.cell? ⟨b, p + 3, none⟩ = some (.int .i64 x.df) ∧
  w.cell? ⟨b, p + 4, none⟩ = some (.int .u8 (x.body.op : Int)) ∧ w.cell? ⟨b, p + 5, none⟩ = some (.int .i64 x.body.n) ∧ w.cell? ⟨b, p + 6, none⟩ = some (.string x.body.name) ∧ w.cell? ⟨b, p + 7, none⟩ = some s
theorem HdCells.keep {w w' : World} {b p : Nat} {x : Hd} (h : HdCells w b p x) (hb : Below w.heap.size w w') : HdCells w' b p x :=
  ⟨cell_kept h.1 hb, cell_kept h.2.1 hb, cell_kept h.2.2 hb⟩
theorem FlCells.keep {w w' : World} {b p : Nat} {x : Fl} {s : Value} (h : FlCells w b p x s) (hb : Below w.heap.size w w') : FlCells w' b p x s :=
  ⟨cell_kept h.1 hb, cell_kept h.2.1 hb, cell_kept h.2.2.1 hb, cell_kept h.2.2.2.1 hb, cell_kept h.2.2.2.2.1 hb, cell_kept h.2.2.2.2.2.1 hb, cell_kept h.2.2.2.2.2.2.1 hb, cell_kept h.2.2.2.2.2.2.2 hb⟩
/-- A row of heads in memory. -/
def InsAt (w : World) (l : List Hd) (s : Value) : Prop :=
  ∃ (ao : Option Addr) (cap : Nat), s = .slice ao l.length cap ∧ l.length ≤ 4398046510976 ∧ l.length ≤ cap ∧ (∀ x ∈ l, x.ok) ∧
    (l.length = 0 ∨ ∃ b o, ao = some ⟨b, o, none⟩ ∧ ∀ i (h : i < l.length), HdCells w b (o + i * 3) l[i])
/-- A row of flows in memory. -/
def FlowsAt (w : World) (l : List Fl) (s : Value) : Prop :=
  ∃ (ao : Option Addr) (cap : Nat) (sl : Nat → Value), s = .slice ao l.length cap ∧ l.length ≤ 1466015503658 ∧ l.length ≤ cap ∧ (∀ x ∈ l, x.ok) ∧
    (l.length = 0 ∨ ∃ b o, ao = some ⟨b, o, none⟩ ∧ ∀ i (h : i < l.length), FlCells w b (o + i * 8) l[i] (sl i)) ∧ ∀ i (h : i < l.length), St w l[i].body (sl i)
/-- A row of texts in memory. -/
def TextsAt (w : World) (l : List ByteArray) (s : Value) : Prop :=
  ∃ (ao : Option Addr) (cap : Nat), s = .slice ao l.length cap ∧ l.length ≤ 8796093021952 ∧ l.length ≤ cap ∧ (∀ x ∈ l, x.size ≤ 140737488355328) ∧
    (l.length = 0 ∨ ∃ b o, ao = some ⟨b, o, none⟩ ∧ ∀ i (h : i < l.length), w.cell? ⟨b, o + i, none⟩ = some (.string l[i]))
theorem InsAt.keep {w w' : World} {l : List Hd} {s : Value} (h : InsAt w l s) (hb : Below w.heap.size w w') : InsAt w' l s := by
  obtain ⟨ao, cap, rfl, h1, h2, h3, h4⟩ := h
  refine ⟨ao, cap, rfl, h1, h2, h3, h4.imp_right ?_⟩
  rintro ⟨b, o, ha, hc⟩
  exact ⟨b, o, ha, fun i hi => (hc i hi).keep hb⟩
theorem FlowsAt.keep {w w' : World} {l : List Fl} {s : Value} (h : FlowsAt w l s) (hb : Below w.heap.size w w') : FlowsAt w' l s := by
  obtain ⟨ao, cap, sl, rfl, h1, h2, h3, h4, h5⟩ := h
  refine ⟨ao, cap, sl, rfl, h1, h2, h3, h4.imp_right ?_, fun i hi => (h5 i hi).keep hb⟩
  rintro ⟨b, o, ha, hc⟩
  exact ⟨b, o, ha, fun i hi => (hc i hi).keep hb⟩
theorem TextsAt.keep {w w' : World} {l : List ByteArray} {s : Value} (h : TextsAt w l s) (hb : Below w.heap.size w w') : TextsAt w' l s := by
  obtain ⟨ao, cap, rfl, h1, h2, h3, h4⟩ := h
  refine ⟨ao, cap, rfl, h1, h2, h3, h4.imp_right ?_⟩
  rintro ⟨b, o, ha, hc⟩
  exact ⟨b, o, ha, fun i hi => cell_kept (hc i hi) hb⟩
/-- A head, a flow, a program, as a value. -/
abbrev hdV (x : Hd) : Value := .agg #[.string x.name, .int .u8 (x.ty : Int), .int .i64 x.st]
abbrev flV (x : Fl) (s : Value) : Value := .agg #[.string x.name, .int .u8 (x.ty : Int), .int .i64 x.st, .int .i64 x.df, .int .u8 (x.body.op : Int), .int .i64 x.body.n, .string x.body.name, s]
abbrev pgC (p : Pg) (a b c : Value) : Array Value := #[.int .i64 p.st, a, b, c]
abbrev pgV (p : Pg) (a b c : Value) : Value := .agg (pgC p a b c)
/-- A program in memory: its three rows. -/
structure PgAt (w : World) (p : Pg) (a b c : Value) : Prop where
  st : -9223372036854775808 ≤ p.st ∧ p.st ≤ 9223372036854775807
  ins : InsAt w p.ins a
  flows : FlowsAt w p.flows b
  outs : TextsAt w p.outs c
theorem PgAt.keep {w w' : World} {p : Pg} {a b c : Value} (h : PgAt w p a b c) (hb : Below w.heap.size w w') : PgAt w' p a b c :=
  ⟨h.st, h.ins.keep hb, h.flows.keep hb, h.outs.keep hb⟩
end Go.Proofs.Ytilpoiihoikhlaa.Lex
