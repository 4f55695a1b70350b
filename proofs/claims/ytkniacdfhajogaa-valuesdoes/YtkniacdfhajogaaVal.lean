/-
  Values, and what operators make of them: plain mathematics, and how values stand in memory.
-/
import Derived.Test.YtkniacdfhajogaaProg
import Derived.ProofKit
import Derived.WalkKit
import Derived.Below
import Derived.Laws.Tables
import Derived.Laws.Rows
import Derived.Laws.ResultCell
import Derived.Laws.EntriesVeiled
import Derived.Deep.RegionHeld3
import Derived.Deep.MidRow
import Derived.Maps.Keyed
import Derived.Maps.OwnOps
import Derived.WalkMore
import Derived.LaidMore
import Derived.Lib.SmallJoins
namespace Go.Proofs.Ytkniacdfhajogaa.Val
open Go.ChangeShapes Go.WideShapes Go.ChangeAt Go.RowKit Go.Joins
theorem hid {p : Prop} (h : p) : Hid p := h
/-- A value: its type, its number. -/
structure Vl where
  ty : Nat
  n : Int
theorem Vl.ext' {a b : Vl} (h : a.ty = b.ty) (h' : a.n = b.n) : a = b := by
  cases a; cases b; simp_all
/-- What a value of 64 bits may hold. -/
def Vl.ok (v : Vl) : Prop := v.ty < 256 ∧ (-9223372036854775808 ≤ v.n ∧ v.n ≤ 9223372036854775807)
/-- May a value be? -/
def chkV (v : Vl) : Bool := decide (v.ty = 1) || (decide (v.ty = 2) && (decide (v.n = 0) || decide (v.n = 1)))
abbrev vC (v : Vl) : Array Value := #[.int .u8 (v.ty : Int), .int .i64 v.n]
abbrev vV (v : Vl) : Value := .agg (vC v)
/-- The types that an operator asks for; 0: any, the same wherever it stands. -/
def askL (o : Nat) : List Nat :=
  if o = 4 then [1] else if 6 ≤ o ∧ o ≤ 10 ∨ o = 13 ∨ o = 14 then [1, 1] else if o = 11 ∨ o = 12 then [0, 0] else if o = 5 then [2] else if o = 15 ∨ o = 16 then [2, 2] else if o = 17 then [2, 0, 0] else []
/-- Has a value the type that is asked for? -/
def fit1 (last t a : Nat) : Bool := decide (t = a) || (decide (a = 0) && decide (t = last))
def fitL (last : Nat) : List Vl → List Nat → Bool
  | v :: l, a :: r => fit1 last v.ty a && fitL last l r
  | _, _ => true
theorem fitL_take (last : Nat) : ∀ (l : List Vl) (r : List Nat) (k : Nat) (h : k < l.length) (h' : k < r.length), fitL last (l.take (k + 1)) (r.take (k + 1)) = (fitL last (l.take k) (r.take k) && fit1 last l[k].ty r[k])
  | v :: l, a :: r, 0, _, _ => by simp [fitL]
  | v :: l, a :: r, k + 1, h, h' => by
    have := fitL_take last l r k (by simpa using h) (by simpa using h')
    simp only [List.take_succ_cons, fitL, List.getElem_cons_succ]
    rw [this, Bool.and_assoc]
theorem fitL_more (last : Nat) : ∀ (l : List Vl) (r : List Nat) (k : Nat), fitL last (l.take k) (r.take k) = false → fitL last l r = false
  | [], _, k, h => by simp [fitL] at h
  | v :: l, [], k, h => by cases k <;> simp [fitL] at h
  | v :: l, a :: r, 0, h => by simp [fitL] at h
  | v :: l, a :: r, k + 1, h => by
    simp only [List.take_succ_cons, fitL, Bool.and_eq_false_iff] at h ⊢
    exact h.imp id (fun h => fitL_more last l r k h)
def yesV (b : Bool) : Vl := ⟨2, if b then 1 else 0⟩
def numV (n : Int) : Vl := ⟨1, n⟩
abbrev wr (n : Int) : Int := wrap64 n
def quoV (a b : Int) : Int := if b = 0 then 0 else wr (a.tdiv b)
def remV (a b : Int) : Int := if b = 0 then 0 else a.tmod b
/-- What an operator makes of two numbers. -/
def twoV (o : Nat) (a b : Int) : Vl :=
  if o = 6 then numV (wr (a + b)) else if o = 7 then numV (wr (a - b)) else if o = 8 then numV (wr (a * b)) else if o = 9 then numV (quoV a b) else if o = 10 then numV (remV a b)
  else if o = 11 then yesV (decide (a = b)) else if o = 12 then yesV (!decide (a = b)) else if o = 13 then yesV (decide (a < b)) else if o = 14 then yesV (decide (a ≤ b)) else if o = 15 then yesV (decide (a = 1) && decide (b = 1)) else yesV (decide (a = 1) || decide (b = 1))
/-- What an operator makes of values that it may be of. -/
def wkV (o : Nat) (l : List Vl) : Vl :=
  match l with
  | [a] => if o = 4 then numV (wr (-a.n)) else yesV (decide (a.n = 0))
  | [a, b] => twoV o a.n b.n
  | [a, b, c] => if a.n = 1 then b else c
  | _ => ⟨0, 0⟩
/-- The last one's type. -/
def lastT (l : List Vl) : Nat := match l.getLast? with | some v => v.ty | none => 0
theorem lastT_of {l : List Vl} {z : Vl} (h : l.getLast? = some z) : lastT l = z.ty := by unfold lastT; rw [h]
/-- What an operator makes of values: the value, the error. -/
def doV (o : Nat) (l : List Vl) : Vl × Nat :=
  if askL o = [] ∨ l.length ≠ (askL o).length ∨ l.all chkV = false then (⟨0, 0⟩, 1)
  else if fitL (lastT l) l (askL o) = false then (⟨0, 0⟩, 7) else (wkV o l, 0)
/-- Values in a row. -/
def VAt (W : World) (b o : Nat) (l : List Vl) : Prop := ∀ i (h : i < l.length), W.cell? ⟨b, o + i * 2, none⟩ = some (.int .u8 (l[i].ty : Int)) ∧ W.cell? ⟨b, o + i * 2 + 1, none⟩ = some (.int .i64 l[i].n)
theorem cell_kept {w w' : World} {p : Addr} {v : Value} (h : w.cell? p = some v) (hb : Below w.heap.size w w') : w'.cell? p = some v := by
  unfold World.cell? at h ⊢
  by_cases hl : p.block < w.heap.size
  · rw [hb.block _ hl]; exact h
  · rw [Array.getElem?_eq_none (by omega)] at h
    cases h
theorem VAt.keep {W W' : World} {b o : Nat} {l : List Vl} (h : VAt W b o l) (hb : Below W.heap.size W W') : VAt W' b o l := fun i hi => ⟨cell_kept (h i hi).1 hb, cell_kept (h i hi).2 hb⟩
/-- A slice of values. -/
def VSl (W : World) (l : List Vl) (s : Value) : Prop := ∃ (ao : Option Addr) (cap : Nat), s = .slice ao l.length cap ∧ l.length ≤ 140737488355328 ∧ (l.length = 0 ∨ ∃ b o, ao = some ⟨b, o, none⟩ ∧ VAt W b o l)
theorem VSl.keep {W W' : World} {l : List Vl} {s : Value} (h : VSl W l s) (hb : Below W.heap.size W W') : VSl W' l s := by
  obtain ⟨ao, cap, e, hl, h2⟩ := h
  refine ⟨ao, cap, e, hl, h2.imp id ?_⟩
  rintro ⟨b, o, e, hv⟩
  exact ⟨b, o, e, hv.keep hb⟩
theorem keep_row {W W' : World} {k : Nat} {o : Obj} (h : W.heap[k]? = some o) (hb : Below W.heap.size W W') : W'.heap[k]? = some o := (hb.block _ (Array.getElem?_eq_some_iff.1 h).1).trans h
theorem below_row {B b : Nat} {a w : World} (h : Below B a w) (hB : B ≤ w.heap.size) (hb : B ≤ b) (cs : Array Value) : Below B a (w.setRow b cs) :=
  h.grown (row := some b) ⟨rfl, rfl, rfl, by simp [World.setRow], fun k _ hk => setRow_other w b k _ (fun e => hk (by rw [e]))⟩ hB (fun k hk => by cases hk; exact hb)
theorem push_new (w : World) (o : Obj) (n : Nat) (h : w.heap.size = n) : (w.alloc o).heap[n]? = some o := by subst h; exact (MapKept.heap_alloc w o).1
theorem push_old {w : World} {b : Nat} {o o' : Obj} (h : w.heap[b]? = some o) : (w.alloc o').heap[b]? = some o := (Below.heap_alloc _ _ _ (Array.getElem?_eq_some_iff.1 h).1).trans h
theorem info24 : (Try.prog.info? 28).map (·.size) = some 2 := by kernel_rfl
abbrev c24 : Array Value := #[.int .u8 0, .int .i64 0]
theorem row2 {W : World} {k : Nat} {v : Vl} (h : W.heap[k]? = some (.cells (vC v) 28 (0, 0))) : W.cell? ⟨k, 0, none⟩ = some (.int .u8 (v.ty : Int)) ∧ W.cell? ⟨k, 1, none⟩ = some (.int .i64 v.n) :=
  ⟨(cell_of_row _ _ _ _ 28 (0, 0) h).trans rfl, (cell_of_row _ _ _ _ 28 (0, 0) h).trans rfl⟩
end Go.Proofs.Ytkniacdfhajogaa.Val
