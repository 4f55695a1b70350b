/-
  The contract of TwinExpr, whatever it is.
  What a reader's step answers; the contracts of yes, no, name, number.
  What a reader's step answers: the contracts of no, pass, name, number.
  An operator of one, read: the contract of one, over that of part.
  The three signs of one, and brackets: the contracts over those of one, part, pass.
  A choice, read: the contract of choice, over those of part and pass.
  The law of the keys of atoms.
  A mark as a key.
  The map of the atoms, as its eight entries are laid in any order.
  The contract of atoms: eight entries, laid in any order.
  What has been asked for, counted in a map.
  Names as keys: arrays of forty bytes.
  One more is counted.
  What holds while Read goes through a text.
  How far Read has come in a text.
  Read: the tokens of a text.
  What is asked for, as it is come to: plain mathematics, and what holds while it is gathered.
  What is asked for, gathered: the contract of the closure of Refs.
  What is asked for: the contract of Refs.
  keyOf: a name as a key.
  Who asks for a name: a map of rows in memory.
-/
import Derived.Test.YtdenddknbmiboaaDoorG1
import Derived.Deep.RegionHeld3
import Derived.Laws.Tables
import Derived.WalkSmall
import Derived.WalkMore
import Derived.Great.BuildSlice
import Derived.DeepKeys4
import Derived.Maps.Keyed
import Derived.Laws.CopyRow
import Derived.Maps.AppendAt
import Derived.Laws.OwnMore
import Derived.Deep.Cut
import Derived.Laws.EntriesVeiled
import Derived.Maps.Views
import Derived.WideKeyEntry
namespace Go.Proofs.YtdenddknbmiboaaDoor.Lex
open Go.ChangeShapes Go.WideShapes Go.ChangeAt Go.RowKit Go.Joins
theorem two_boxes (w w3 : World) (c d : Array Value) (t : TypeId) (hb : Below (((w.alloc (.cells c t)).alloc (.cells d t)).drew).heap.size ((w.alloc (.cells c t)).alloc (.cells d t)).drew w3) :
    (∀ j v, c[j]? = some v → w3.cell? ⟨w.heap.size, j, none⟩ = some v) ∧ (∀ j v, d[j]? = some v → w3.cell? ⟨w.heap.size + 1, j, none⟩ = some v) ∧ w3.heap[w.heap.size + 1]? = some (.cells d t (0, 0)) := by
  have e : (w.alloc (.cells c t)).heap.size = w.heap.size + 1 := by simp
  have h1 : ((w.alloc (.cells c t)).alloc (.cells d t)).heap[w.heap.size]? = some (.cells c t (0, 0)) := by
    rw [Below.heap_alloc _ _ _ (by rw [e]; omega)]; exact heap_alloc_new w _
  have h2 : ((w.alloc (.cells c t)).alloc (.cells d t)).heap[w.heap.size + 1]? = some (.cells d t (0, 0)) := by
    have := heap_alloc_new (w.alloc (.cells c t)) (.cells d t)
    rwa [e] at this
  have hl1 := (Array.getElem?_eq_some_iff.1 h1).1
  have hl2 := (Array.getElem?_eq_some_iff.1 h2).1
  have k1 : w3.heap[w.heap.size]? = some (.cells c t (0, 0)) := (hb.block _ hl1).trans h1
  have k2 : w3.heap[w.heap.size + 1]? = some (.cells d t (0, 0)) := (hb.block _ hl2).trans h2
  exact ⟨fun j v h => by rw [cell_of_row _ _ _ _ t (0, 0) k1]; exact h, fun j v h => by rw [cell_of_row _ _ _ _ t (0, 0) k2]; exact h, k2⟩
theorem if_take {c : Prop} [Decidable c] {p q : Prop} (hc : c) (h : p) : if c then p else q := by rw [if_pos hc]; exact h
theorem info25 : (Tryd.prog.info? 70).map (·.size) = some 4 := by kernel_rfl
theorem box_first (w : World) (c d : Array Value) (t : TypeId) : ∀ j v, c[j]? = some v → ((w.alloc (.cells c t)).alloc (.cells d t)).drew.cell? ⟨w.heap.size, j, none⟩ = some v := fun j v h =>
  (two_boxes w _ c d t (Below.refl _ _)).1 j v h
end Go.Proofs.YtdenddknbmiboaaDoor.Lex
namespace Go.Proofs.YtdenddknbmiboaaDoor.Lex
open Go.ChangeShapes Go.WideShapes Go.ChangeAt Go.RowKit Go.Joins
/-- What reading answers: it, and the place behind it; or an error, and its place. -/
abbrev Res := Except (Nat × Nat) (Ex × Nat)
/-- A panic with an error of the language. -/
abbrev panicE (e : Nat) : Ending := .panicked [{ v := .iface 49 (.int .i64 (e : Int)), recovered := false }]
end Go.Proofs.YtdenddknbmiboaaDoor.Lex
namespace Go.Proofs.YtdenddknbmiboaaDoor.Lex
open Go.ChangeShapes Go.WideShapes Go.ChangeAt Go.RowKit Go.Joins
/-- Is a mark this kind and text? -/
def isMk (m : Mark) (kind : Nat) (text : ByteArray) : Bool := m.kind == kind && m.text.toList == text.toList
theorem isMk_no {m : Mark} {kind : Nat} {text : ByteArray} (h : isMk m kind text = false) : (¬ (m.kind : Int) = (kind : Int)) ∨ ((m.kind : Int) = (kind : Int) ∧ ¬ m.text.toList = text.toList) := by
  unfold isMk at h
  by_cases e : m.kind = kind
  · refine .inr ⟨by omega, ?_⟩
    rw [e] at h
    simpa using h
  · exact .inl (by omega)
theorem isMk_yes {m : Mark} {kind : Nat} {text : ByteArray} (h : isMk m kind text = true) : (m.kind : Int) = (kind : Int) ∧ m.text.toList = text.toList := by
  unfold isMk at h
  have := h
  simp at this
  exact ⟨by omega, this.2⟩
theorem grown_below {w w1 : World} (h : Below w.heap.size w w1) (r : Option Nat) : w.grownBy w1 r := ⟨h.os, h.tape, h.output, h.size, fun k hk _ => h.block k hk⟩
theorem grown_on {a b c : World} {r : Option Nat} (h : a.grownBy b r) (k : b.grownBy c r) : a.grownBy c r :=
  ⟨k.os.trans h.os, k.tape.trans h.tape, k.output.trans h.output, Nat.le_trans h.size k.size, fun i hi hr => (k.block i (Nat.lt_of_lt_of_le hi h.size) hr).trans (h.block i hi hr)⟩
theorem markAt_lt {ts : List Mark} {p : Nat} (hl : p ≤ ts.length) (h : (markAt ts p).kind ≠ 0) : p < ts.length := by
  by_cases e : p < ts.length
  · exact e
  · exfalso
    apply h
    unfold markAt
    rw [List.getD_eq_getElem?_getD, List.getElem?_eq_none (by omega)]
    rfl
theorem numN_range (s : ByteArray) : -9223372036854775808 ≤ numN s ∧ numN s ≤ 9223372036854775807 := by
  unfold numN
  split
  · omega
  · cases e : mag 0 s.data.toList with
    | none => simp [outN]
    | some k =>
      have := mag_top _ 0 k (by omega) e
      simp only [outN]
      omega
theorem numE_nat (s : ByteArray) : ((numE s).toNat : Int) = numE s := by
  have : 0 ≤ numE s := by
    unfold numE
    split
    · omega
    · cases mag 0 s.data.toList <;> simp [outE]
  omega
end Go.Proofs.YtdenddknbmiboaaDoor.Lex
namespace Go.Proofs.YtdenddknbmiboaaDoor.Lex
open Go.ChangeShapes Go.WideShapes Go.ChangeAt Go.RowKit Go.Joins
theorem StP.form {ok : Nat → Prop} {w : World} {x : Ex} {s : Value} (h : StP ok w x s) : ∃ ao cap, s = .slice ao x.args.length cap := by
  obtain ⟨ao, cap, _, hs, _⟩ := h.out
  exact ⟨ao, cap, hs⟩
abbrev z25 : Value := .agg #[.int .u8 0, .int .i64 0, .string ⟨#[]⟩, .slice none 0 0]
theorem inf25 : ∃ ie, Tryd.prog.info? 70 = some ie ∧ ie.zero = some z25 ∧ ie.size = 4 := by
  have h : (Tryd.prog.info? 70).map (fun i => (i.zero, i.size)) = some (some z25, 4) := by kernel_rfl
  obtain ⟨ie, h1, h2⟩ := Option.map_eq_some_iff.1 h
  injection h2 with h2 h3
  exact ⟨ie, h1, h2, h3⟩
abbrev ex4 (x : Ex) (s : Value) : Array Value := #[.int .u8 (x.op : Int), .int .i64 x.n, .string x.name, s]
theorem fill1 (x : Ex) (ao : Option Addr) (n cap : Nat) : Instr.fill (fun i => some (i * 4, 4)) ((Array.range (1 * 4)).map (z25.cells[· % z25.cells.size]!)) [(0, exV x (.slice ao n cap))] = some (ex4 x (.slice ao n cap)) := by
  have e : ((Array.range (1 * 4)).map (z25.cells[· % z25.cells.size]!)) = #[.int .u8 0, .int .i64 0, .string ⟨#[]⟩, .slice none 0 0] := by kernel_rfl
  rw [e]
  simp [Instr.fill]
  exact ⟨⟨rfl, Nat.le_refl 4⟩, rfl⟩
theorem grown_setRow {w W : World} {r : Option Nat} (g : w.grownBy W r) (d : Array Value) : w.grownBy (W.setRow w.heap.size d) r :=
  ⟨g.os, g.tape, g.output, by have := g.size; simpa [World.setRow] using this, fun k hk hkr => (setRow_other _ _ _ _ (by omega)).trans (g.block k hk hkr)⟩
/-- A box stays where others are written. -/
theorem box_kept {w w2 : World} {r : Nat} {c : Array Value} {t : TypeId} {u : Value} (hr : r < w.heap.size) (g : ((w.alloc (.cells c t)).setCell ⟨r, 1, none⟩ u).grownBy w2 (some r)) : w2.heap[w.heap.size]? = some (.cells c t (0, 0)) := by
  rw [g.block _ (by simp [World.setCell]) (fun e => by injection e; omega), Below.heap_setCell _ _ _ _ (by show w.heap.size ≠ r; omega)]
  exact heap_alloc_new w _
/-- What has one part, in new memory. -/
theorem StP.one {ok : Nat → Prop} {W : World} {x : Ex} {s : Value} (op : Nat) (hop : op < 256) (g : Nat) (hg : ok g) (hst : StP ok W x s) (hc : W.heap[g]? = some (.cells (ex4 x s) 70 (0, 0))) : StP ok W ⟨op, 0, ByteArray.empty, [x]⟩ (.slice (some ⟨g, 0, none⟩) 1 1) := by
  refine StP.intro ⟨op, 0, ByteArray.empty, [x]⟩ (some ⟨g, 0, none⟩) 1 (fun _ => s) hop (by simp) (by show ByteArray.empty.size ≤ _; decide) (by simp) (by simp) (.inr ⟨g, 0, rfl, hg, fun i hi => ?_⟩) (fun i hi => ?_)
  · obtain rfl : i = 0 := by simpa using hi
    refine ⟨?_, ?_, ?_, ?_⟩ <;> (rw [cell_of_row _ _ _ _ 70 (0, 0) hc]; rfl)
  · obtain rfl : i = 0 := by simpa using hi
    exact hst
end Go.Proofs.YtdenddknbmiboaaDoor.Lex
namespace Go.Proofs.YtdenddknbmiboaaDoor.Lex
open Go.ChangeShapes Go.WideShapes Go.ChangeAt Go.RowKit Go.Joins
theorem box_there {w w2 : World} {r : Nat} {c : Array Value} {t : TypeId} (hr : r < w.heap.size) (g : (w.alloc (.cells c t)).grownBy w2 (some r)) : w2.heap[w.heap.size]? = some (.cells c t (0, 0)) := by
  rw [g.block _ (by simp) (fun e => by injection e; omega)]
  exact heap_alloc_new w _
end Go.Proofs.YtdenddknbmiboaaDoor.Lex
namespace Go.Proofs.YtdenddknbmiboaaDoor.Lex
open Go.ChangeShapes Go.WideShapes Go.ChangeAt Go.RowKit Go.Joins
theorem kept {W W' : World} {r k : Nat} {o : Obj} (h : W.heap[k]? = some o) (g : W.grownBy W' (some r)) (hk : r < k) : W'.heap[k]? = some o :=
  (g.block k (Array.getElem?_eq_some_iff.1 h).1 (fun e => by injection e; omega)).trans h
/-- A part that was read, in a row of its own behind a place. -/
structure Keep (N : Nat) (W : World) (b : Nat) (x : Ex) (s : Value) : Prop where
  row : W.heap[b]? = some (.cells (ex4 x s) 70 (0, 0))
  st : StP (fun k => N < k) W x s
  lt : N < b
theorem Keep.grown {N : Nat} {W W' : World} {b : Nat} {x : Ex} {s : Value} {r : Nat} (h : Keep N W b x s) (g : W.grownBy W' (some r)) (hr : r < N) : Keep N W' b x s :=
  ⟨kept h.row g (by have := h.lt; omega), h.st.carry fun k hk hl => g.block k hl (fun e => by injection e; omega), h.lt⟩
theorem Keep.new {N : Nat} {W0 w2 : World} {x : Ex} {s : Value} (h : StP (fun b => W0.heap.size ≤ b) w2 x s) (hN : N < W0.heap.size) (hl : W0.heap.size ≤ w2.heap.size) : Keep N (w2.alloc (.cells (ex4 x s) 70)) w2.heap.size x s :=
  ⟨heap_alloc_new w2 _, StP.carryN (fun k _ hk => Below.heap_alloc _ _ _ hk) (fun k _ hk => by show N < k; have : W0.heap.size ≤ k := hk; omega) _ x s (Nat.le_refl _) h, by omega⟩
theorem fold4 (c : Array Value) (o : Nat) (a b d e : Value) : Array.foldl (fun cs (x : Value × Nat) => cs.setIfInBounds (o + x.snd) x.fst) c (#[a, b, d, e].zipIdx) = (((c.setIfInBounds (o + 0) a).setIfInBounds (o + 1) b).setIfInBounds (o + 2) d).setIfInBounds (o + 3) e := by rfl
theorem fill3 (x y z : Ex) (a b c : Option Addr) (l m n i j k : Nat) : Instr.fill (fun i => some (i * 4, 4)) ((Array.range (3 * 4)).map (z25.cells[· % z25.cells.size]!)) [(0, exV x (.slice a l i)), (1, exV y (.slice b m j)), (2, exV z (.slice c n k))] = some (ex4 x (.slice a l i) ++ ex4 y (.slice b m j) ++ ex4 z (.slice c n k)) := by
  have e : ((Array.range (3 * 4)).map (z25.cells[· % z25.cells.size]!)) = #[.int .u8 0, .int .i64 0, .string ⟨#[]⟩, .slice none 0 0, .int .u8 0, .int .i64 0, .string ⟨#[]⟩, .slice none 0 0, .int .u8 0, .int .i64 0, .string ⟨#[]⟩, .slice none 0 0] := by kernel_rfl
  rw [e]
  simp only [Instr.fill, show (exV x (.slice a l i)).cells = ex4 x (.slice a l i) from rfl, show (exV y (.slice b m j)).cells = ex4 y (.slice b m j) from rfl, show (exV z (.slice c n k)).cells = ex4 z (.slice c n k) from rfl, ex4, fold4]
  simp
/-- What has three parts, in new memory. -/
theorem StP.three {ok : Nat → Prop} {W : World} {x y z : Ex} {s t u : Value} (op : Nat) (hop : op < 256) (g : Nat) (hg : ok g) (hx : StP ok W x s) (hy : StP ok W y t) (hz : StP ok W z u) (hc : W.heap[g]? = some (.cells (ex4 x s ++ ex4 y t ++ ex4 z u) 70 (0, 0))) : StP ok W ⟨op, 0, ByteArray.empty, [x, y, z]⟩ (.slice (some ⟨g, 0, none⟩) 3 3) := by
  refine StP.intro ⟨op, 0, ByteArray.empty, [x, y, z]⟩ (some ⟨g, 0, none⟩) 3 (fun i => [s, t, u].getD i s) hop (by simp) (by show ByteArray.empty.size ≤ _; decide) (by simp) (by simp) (.inr ⟨g, 0, rfl, hg, fun i hi => ?_⟩) (fun i hi => ?_)
  · have hi3 : i < 3 := hi
    rcases (by omega : i = 0 ∨ i = 1 ∨ i = 2) with rfl | rfl | rfl <;> refine ⟨?_, ?_, ?_, ?_⟩ <;> (rw [cell_of_row _ _ _ _ 70 (0, 0) hc]; rfl)
  · have hi3 : i < 3 := hi
    rcases (by omega : i = 0 ∨ i = 1 ∨ i = 2) with rfl | rfl | rfl
    · exact hx
    · exact hy
    · exact hz
end Go.Proofs.YtdenddknbmiboaaDoor.Lex
namespace Go.Proofs.YtdenddknbmiboaaDoor.Lex
open Go.ChangeShapes Go.WideShapes Go.ChangeAt Go.RowKit Go.Joins Go.WideMaps Go.WideElems Go.Maps
theorem laidOut : laidOutB Tryd.prog = true := by kernel_rfl
theorem row81 : (173 : TypeId) < Tryd.prog.types.size := of_decide_eq_true (by kernel_rfl)
theorem wide81 : (match Tryd.prog.underlying 173 with | some (.array _ _) | some (.struct _) => true | _ => false) = true := by kernel_rfl
theorem deep81 : Tryd.prog.keyTypeAt 3 173 = true := by kernel_rfl
set_option maxRecDepth 100000 in
theorem law81 : KeyLaw Tryd.prog 173 := deep_law_laid laidOut (m := 3) (by omega) row81 deep81 wide81
theorem keyed81 : Keyed Tryd.prog 173 := Keyed.of_law law81
end Go.Proofs.YtdenddknbmiboaaDoor.Lex
namespace Go.Proofs.YtdenddknbmiboaaDoor.Lex
open Go.ChangeShapes Go.WideShapes Go.ChangeAt Go.RowKit Go.Joins Go.WideMaps Go.WideElems Go.Maps
theorem size_types : ∃ n, Tryd.prog.types.size + 1 = n + 2 := ⟨Tryd.prog.types.size - 1, by have : 0 < Tryd.prog.types.size := of_decide_eq_true (by kernel_rfl); omega⟩
theorem keyT81 : Tryd.prog.keyType 173 = true := by kernel_rfl
theorem cells81 : Tryd.prog.cellsOf 173 = 2 := by kernel_rfl
theorem cells5 : Tryd.prog.cellsOf 5 = 1 := by kernel_rfl
theorem cells9 : Tryd.prog.cellsOf 9 = 1 := by kernel_rfl
theorem lits5 (n : Nat) (k : Nat) (hk : k < 256) : Tryd.prog.keyLits (n + 1) 5 [.int .u8 (k : Int)] = some [.int .u8 (k : Int)] := by
  have hwf : (Lit.int .u8 (k : Int)).wf = true := by simp [Lit.wf, IntKind.min, IntKind.max, IntKind.signed, IntKind.bits]; omega
  unfold Program.keyLits
  rw [Tryd.underlying5]
  simp [hwf]
theorem lits9 (n : Nat) (s : ByteArray) (hs : s.size ≤ maxLen) : Tryd.prog.keyLits (n + 1) 9 [.string s] = some [.string s.data.toList] := by
  unfold Program.keyLits
  rw [Tryd.underlying9]
  simp [hs]
theorem key_is (m : Mark) (hk : m.kind < 256) (hs : m.text.size ≤ maxLen) : ∃ l, keyOf Tryd.prog 173 (mkV m) = some l := by
  obtain ⟨n, hn⟩ := size_types
  have hf : (mkV m).formed Tryd.prog 173 = true := by simp [Value.formed, Tryd.underlying173, cells81]
  have h5 := lits5 n m.kind hk
  have h9 := lits9 n m.text hs
  unfold keyOf
  rw [hn, Tryd.underlying173]
  simp only [keyT81, hf]
  unfold Program.keyLits
  rw [Tryd.underlying173]
  simp [Value.cells, cells81, cells5, cells9, h5, h9]
end Go.Proofs.YtdenddknbmiboaaDoor.Lex
namespace Go.Proofs.YtdenddknbmiboaaDoor.Lex
open Go.ChangeShapes Go.WideShapes Go.ChangeAt Go.RowKit Go.Joins Go.WideMaps Go.WideElems Go.Maps
/-- The eight atoms: a token's kind and text, and the function that reads what begins with it. -/
def aT : List (Nat × ByteArray × Nat) := [(1, ⟨#[]⟩, 90), (1, ⟨#[116, 114, 117, 101]⟩, 91), (1, ⟨#[102, 97, 108, 115, 101]⟩, 92), (2, ⟨#[]⟩, 103), (3, ⟨#[40]⟩, 104), (3, ⟨#[45]⟩, 97), (1, ⟨#[110, 111, 116]⟩, 102), (1, ⟨#[112, 114, 101]⟩, 93)]
def aR (k : Nat) : Nat × ByteArray × Nat := aT.getD k (0, ⟨#[]⟩, 0)
def aKey (k : Nat) : Value := .agg #[.int .u8 ((aR k).1 : Int), .string (aR k).2.1]
def aVal (k : Nat) : Value := .func (.func (aR k).2.2) #[] #[]
theorem cases8 {k : Nat} (h : k < 8) : k = 0 ∨ k = 1 ∨ k = 2 ∨ k = 3 ∨ k = 4 ∨ k = 5 ∨ k = 6 ∨ k = 7 := by omega
theorem aKey_mk {k : Nat} {m : Mark} (h : aKey k = mkV m) : (aR k).1 = m.kind ∧ (aR k).2.1 = m.text := by
  unfold aKey at h
  injection h with h
  simp only [Array.mk.injEq, List.cons.injEq, Value.int.injEq, Value.string.injEq, and_true, true_and] at h
  exact ⟨by omega, h.2⟩
theorem aKey_ne {i j : Nat} (hi : i < 8) (hj : j < 8) (h : i ≠ j) : aKey i ≠ aKey j := fun e => by
  have e2 := aKey_mk (m := ⟨(aR j).1, (aR j).2.1⟩) e
  simp only at e2
  rcases cases8 hi with rfl | rfl | rfl | rfl | rfl | rfl | rfl | rfl <;> rcases cases8 hj with rfl | rfl | rfl | rfl | rfl | rfl | rfl | rfl <;> first | omega | exact absurd e2.1 (by decide) | exact absurd (congrArg (fun s => s.data.toList) e2.2) (by decide)
theorem aKey_is {k : Nat} (h : k < 8) : ∃ l, keyOf Tryd.prog 173 (aKey k) = some l := key_is ⟨(aR k).1, (aR k).2.1⟩ (by rcases cases8 h with rfl | rfl | rfl | rfl | rfl | rfl | rfl | rfl <;> decide) (by rcases cases8 h with rfl | rfl | rfl | rfl | rfl | rfl | rfl | rfl <;> decide)
abbrev RA : Value → Option (DataW Unit × List MemPlace) := fun _ => some (.nil, [])
/-- Those of the eight are there that b says. -/
def AtM (b : Nat → Bool) (mp n : Nat) (w : World) : Prop := ∃ es clock, w.heap[mp]? = some (.map es clock) ∧ Fit Tryd.prog 173 RA es clock ∧ es.size + n ≤ 8 ∧
  (∀ x ∈ es.toList, ∃ k, k < 8 ∧ b k = true ∧ x.key = aKey k ∧ x.val = aVal k) ∧ ∀ k, k < 8 → b k = true → ∃ x ∈ es.toList, x.key = aKey k
def upd (b : Nat → Bool) (k : Nat) : Nat → Bool := fun i => if i = k then true else b i
theorem grown_setBlock {w : World} {b : Nat} (o : Obj) : w.grownBy (ChangeMaps.setBlock w b o) (some b) := by
  refine ⟨rfl, rfl, rfl, by simp [ChangeMaps.setBlock], fun k hk hkr => ?_⟩
  have hkr' : k ≠ b := fun e => hkr (by rw [e])
  simp only [ChangeMaps.setBlock]
  rw [Array.getElem?_setIfInBounds_ne (fun e => hkr' e.symm)]
def L35 (b : Nat → Bool) : Array Bool := #[true, true, b 0, true, b 1, true, b 2, true, b 3, true, b 4, true, b 5, true, b 6, true, b 7, false, false]
def left (b : Nat → Bool) : Nat := (!b 0).toNat + (!b 1).toNat + (!b 2).toNat + (!b 3).toNat + (!b 4).toNat + (!b 5).toNat + (!b 6).toNat + (!b 7).toNat
abbrev insOp (k : Nat) (p : String) : Oper := { dst := none, op := Op.insert 133 (.tmp 1) (.tmp (2 + k)) (.func (aR k).2.2), type := 0, pos := p, after := #[⟨0, .data⟩, ⟨1 + 2 * k, .data⟩], guard := none }
end Go.Proofs.YtdenddknbmiboaaDoor.Lex
namespace Go.Proofs.YtdenddknbmiboaaDoor.Lex
open Go.ChangeShapes Go.WideShapes Go.ChangeAt Go.RowKit Go.Joins Go.WideMaps Go.WideElems Go.Maps
theorem left_upd {b : Nat → Bool} {k : Nat} (hk : k < 8) (hb : b k = false) : left b = left (upd b k) + 1 := by
  rcases cases8 hk with rfl | rfl | rfl | rfl | rfl | rfl | rfl | rfl <;> simp [left, upd, hb] <;> omega
theorem left_none {b : Nat → Bool} (h : left b = 0) : ∀ k, k < 8 → b k = true := fun k hk => by
  cases e : b k with
  | true => rfl
  | false => have := left_upd hk e; omega
theorem L35_upd (b : Nat → Bool) {k : Nat} (hk : k < 8) : (L35 b).setIfInBounds (2 + 2 * k) true = L35 (upd b k) := by
  rcases cases8 hk with rfl | rfl | rfl | rfl | rfl | rfl | rfl | rfl <;> simp [L35, upd]
theorem L35_at (b : Nat → Bool) {k : Nat} (hk : k < 8) (d : Bool) : (L35 b).getD (2 + 2 * k) d = b k := by
  rcases cases8 hk with rfl | rfl | rfl | rfl | rfl | rfl | rfl | rfl <;> rfl
def all35 (x y : Bool) : Array Bool := #[true, true, true, true, true, true, true, true, true, true, true, true, true, true, true, true, true, x, y]
theorem all35_at (x y : Bool) {d : Bool} {i : Nat} (h : i < 17) : (all35 x y).getD i d = true := by
  have : i = 0 ∨ i = 1 ∨ i = 2 ∨ i = 3 ∨ i = 4 ∨ i = 5 ∨ i = 6 ∨ i = 7 ∨ i = 8 ∨ i = 9 ∨ i = 10 ∨ i = 11 ∨ i = 12 ∨ i = 13 ∨ i = 14 ∨ i = 15 ∨ i = 16 := by omega
  rcases this with rfl | rfl | rfl | rfl | rfl | rfl | rfl | rfl | rfl | rfl | rfl | rfl | rfl | rfl | rfl | rfl | rfl <;> rfl
theorem all35_at' (y : Bool) {d : Bool} {i : Nat} (h : i < 18) : (all35 true y).getD i d = true := by
  by_cases e : i < 17
  · exact all35_at _ _ e
  · obtain rfl : i = 17 := by omega
    rfl
theorem grownM {a b c : World} {r : Option Nat} (h : a.grownBy b r) (k : b.grownBy c r) : a.grownBy c r := grown_on h k
theorem AtM.none (mp : Nat) (w : World) (h : w.heap[mp]? = some (.map #[] 0)) : AtM (fun _ => false) mp 8 w :=
  ⟨#[], 0, h, ⟨by simp, ⟨fun _ h => by simp at h, by simp, by simp⟩, fun _ h => by simp at h⟩, by simp, fun _ h => by simp at h, fun _ _ h => by cases h⟩
end Go.Proofs.YtdenddknbmiboaaDoor.Lex
namespace Go.Proofs.YtdenddknbmiboaaDoor.Lex
open Go.ChangeShapes Go.WideShapes Go.ChangeAt Go.RowKit Go.Joins Go.WideMaps Go.WideElems Go.Maps
/-- What is asked for: a name, and how long ago. -/
abbrev Rf := ByteArray × Nat
theorem row51 : (109 : TypeId) < Tryd.prog.types.size := of_decide_eq_true (by kernel_rfl)
theorem wide51 : (match Tryd.prog.underlying 109 with | some (.array _ _) | some (.struct _) => true | _ => false) = true := by kernel_rfl
theorem deep51 : Tryd.prog.keyTypeAt 3 109 = true := by kernel_rfl
set_option maxRecDepth 100000 in
theorem keyed51 : Keyed Tryd.prog 109 := Keyed.of_law (deep_law_laid laidOut (m := 3) (by omega) row51 deep51 wide51)
theorem keyT51 : Tryd.prog.keyType 109 = true := by kernel_rfl
theorem cells51 : Tryd.prog.cellsOf 109 = 2 := by kernel_rfl
theorem cells3 : Tryd.prog.cellsOf 3 = 1 := by kernel_rfl
abbrev rV (r : Rf) : Array Value := #[.string r.1, .int .i64 (r.2 : Int)]
abbrev rKey (r : Rf) : Value := .agg (rV r)
/-- One that may be. -/
def RfOk (r : Rf) : Prop := r.1.size ≤ 65536 ∧ r.2 ≤ 1099511627776
theorem lits3 (n : Nat) (k : Nat) (hk : k ≤ 1099511627776) : Tryd.prog.keyLits (n + 1) 3 [.int .i64 (k : Int)] = some [.int .i64 (k : Int)] := by
  have hwf : (Lit.int .i64 (k : Int)).wf = true := by simp [Lit.wf, IntKind.min, IntKind.max, IntKind.signed, IntKind.bits]; omega
  unfold Program.keyLits
  rw [Tryd.underlying3]
  simp [hwf]
theorem rKey_is {r : Rf} (h : RfOk r) : ∃ l, keyOf Tryd.prog 109 (rKey r) = some l := by
  obtain ⟨n, hn⟩ := size_types
  have hf : (rKey r).formed Tryd.prog 109 = true := by simp [Value.formed, Tryd.underlying109, cells51]
  have h3 := lits3 n r.2 h.2
  have h9 := lits9 n r.1 (by have := h.1; unfold maxLen; omega)
  unfold keyOf
  rw [hn, Tryd.underlying109]
  simp only [keyT51, hf]
  unfold Program.keyLits
  rw [Tryd.underlying109]
  simp [Value.cells, cells51, cells3, cells9, h3, h9]
theorem rKey_inj {r q : Rf} (h : rKey r = rKey q) : r = q := by
  unfold rKey at h
  injection h with h
  simp only [Array.mk.injEq, List.cons.injEq, Value.int.injEq, Value.string.injEq, and_true, true_and] at h
  exact Prod.ext h.1 (by omega)
theorem zero3 (w : World) : (zeroValue 3).run Tryd.prog w = .ok (.int .i64 0) w := by kernel_rfl
/-- The map counts what is in a list. -/
def SeenM (acc : List Rf) (N mb : Nat) (w : World) : Prop := ∃ es clock, w.heap[mb]? = some (.map es clock) ∧ Fit Tryd.prog 109 RA es clock ∧ es.size ≤ N ∧
  (∀ x ∈ es.toList, ∃ r, r ∈ acc ∧ x.key = rKey r ∧ ∃ c : Nat, 1 ≤ c ∧ c ≤ N ∧ x.val = .int .i64 (c : Int)) ∧ ∀ r ∈ acc, ∃ x ∈ es.toList, x.key = rKey r
theorem SeenM.kept {acc : List Rf} {N mb : Nat} {w W : World} (h : SeenM acc N mb w) (hb : mb < w.heap.size → W.heap[mb]? = w.heap[mb]?) : SeenM acc N mb W := by
  obtain ⟨es, clock, e1, e2⟩ := h
  exact ⟨es, clock, (hb (Array.getElem?_eq_some_iff.1 e1).1).trans e1, e2⟩
theorem SeenM.none (mb : Nat) (w : World) (h : w.heap[mb]? = some (.map #[] 0)) : SeenM [] 0 mb w :=
  ⟨#[], 0, h, ⟨by simp, ⟨fun _ h => by simp at h, by simp, by simp⟩, fun _ h => by simp at h⟩, by simp, fun _ h => by simp at h, fun _ h => by cases h⟩
theorem look_one {es : Array MapEntry} {clock mb : Nat} {w : World} (hb : w.heap[mb]? = some (.map es clock)) (F : Fit (H := Unit) Tryd.prog 109 RA es clock) {r : Rf} (hr : RfOk r) {x : MapEntry} (hx : x ∈ es.toList) (hk : x.key = rKey r) : (Instr.lookup 162 (.map (some mb)) (rKey r) false).run Tryd.prog w = .ok x.val w := by
  obtain ⟨l, hl⟩ := rKey_is hr
  rcases fit_look false keyed51 Tryd.underlying162 (zero3 w) hb F hl with ⟨_, e2, _⟩ | ⟨e0, y, e1, e2, e3, _⟩
  · exact (e2 x hx hk).elim
  · have he : e0 = x := by
      obtain ⟨i, hi, ei⟩ := List.getElem_of_mem e1
      obtain ⟨j, hj, ej⟩ := List.getElem_of_mem hx
      by_cases hij : i = j
      · subst hij; rw [← ei, ← ej]
      · exfalso
        have := other_key F (j := j) (e0 := x) (by rw [List.getElem?_eq_getElem hj, ej]) (i := i) (x := e0) (by rw [List.getElem?_eq_getElem hi, ei]) hij
        exact this (e2.trans hk.symm)
    rw [e3, he]
    rfl
theorem look_none {es : Array MapEntry} {clock mb : Nat} {w : World} (hb : w.heap[mb]? = some (.map es clock)) (F : Fit (H := Unit) Tryd.prog 109 RA es clock) {r : Rf} (hr : RfOk r) (hn : ∀ x ∈ es.toList, x.key ≠ rKey r) : (Instr.lookup 162 (.map (some mb)) (rKey r) false).run Tryd.prog w = .ok (.int .i64 0) w := by
  obtain ⟨l, hl⟩ := rKey_is hr
  rcases fit_look false keyed51 Tryd.underlying162 (zero3 w) hb F hl with ⟨e1, _, _⟩ | ⟨e0, y, e1, e2, e3, _⟩
  · exact e1
  · exact (hn e0 e1 e2).elim
end Go.Proofs.YtdenddknbmiboaaDoor.Lex
namespace Go.Proofs.YtdenddknbmiboaaDoor.Lex
open Go.ChangeShapes Go.WideShapes Go.ChangeAt Go.RowKit Go.Joins Go.WideMaps Go.WideElems Go.Maps
theorem rowK : (144 : TypeId) < Tryd.prog.types.size := of_decide_eq_true (by kernel_rfl)
theorem wideK : (match Tryd.prog.underlying 144 with | some (.array _ _) | some (.struct _) => true | _ => false) = true := by kernel_rfl
theorem deepK : Tryd.prog.keyTypeAt 3 144 = true := by kernel_rfl
set_option maxRecDepth 100000 in
theorem lawK : KeyLaw Tryd.prog 144 := deep_law_laid laidOut (m := 3) (by omega) rowK deepK wideK
theorem keyedK : Keyed Tryd.prog 144 := Keyed.of_law lawK
theorem keyTK : Tryd.prog.keyType 144 = true := by kernel_rfl
theorem cellsK : Tryd.prog.cellsOf 144 = 40 := by kernel_rfl
def byV (b : UInt8) : Value := .int .u8 (b.toNat : Int)
/-- A name's bytes, and noughts behind them. -/
def kC (nm : ByteArray) : List Value := nm.data.toList.map byV ++ List.replicate (40 - nm.size) (.int .u8 0)
abbrev kV (nm : ByteArray) : Value := .agg (kC nm).toArray
/-- It fits, and has no nought within it. -/
def NmK (nm : ByteArray) : Prop := nm.size ≤ 40 ∧ ∀ b ∈ nm.data.toList, b ≠ 0
theorem kC_len {nm : ByteArray} (h : nm.size ≤ 40) : (kC nm).length = 40 := by
  have e : nm.data.toList.length = nm.size := Array.length_toList
  unfold kC
  rw [List.length_append, List.length_map, List.length_replicate, e]
  omega
theorem kC_one (nm : ByteArray) : ∀ u ∈ kC nm, ∃ b : UInt8, u = byV b := by
  intro u hu
  rcases List.mem_append.1 hu with h | h
  · obtain ⟨b, _, e⟩ := List.mem_map.1 h
    exact ⟨b, e.symm⟩
  · exact ⟨0, List.eq_of_mem_replicate h⟩
theorem byV_inj {a b : UInt8} (h : byV a = byV b) : a = b := by
  unfold byV at h
  injection h with _ h
  exact UInt8.toNat_inj.1 (by omega)
theorem pre_eq : ∀ (a b : List UInt8) (m n : Nat), (∀ x ∈ a, x ≠ 0) → (∀ x ∈ b, x ≠ 0) → a.map byV ++ List.replicate m (.int .u8 0) = b.map byV ++ List.replicate n (.int .u8 0) → a = b
  | [], [], _, _, _, _, _ => rfl
  | [], y :: b, 0, n, _, _, h => by simp at h
  | [], y :: b, m + 1, n, _, hb, h => by
    simp only [List.map_nil, List.nil_append, List.replicate_succ, List.map_cons, List.cons_append, List.cons.injEq] at h
    have h0 : byV 0 = byV y := h.1
    exact (hb y (by simp) (byV_inj h0).symm).elim
  | x :: a, [], m, 0, _, _, h => by simp at h
  | x :: a, [], m, n + 1, ha, _, h => by
    simp only [List.map_nil, List.nil_append, List.replicate_succ, List.map_cons, List.cons_append, List.cons.injEq] at h
    have h0 : byV x = byV 0 := h.1
    exact (ha x (by simp) (byV_inj h0)).elim
  | x :: a, y :: b, m, n, ha, hb, h => by
    simp only [List.map_cons, List.cons_append, List.cons.injEq] at h
    rw [byV_inj h.1, pre_eq a b m n (fun x hx => ha x (by simp [hx])) (fun x hx => hb x (by simp [hx])) h.2]
theorem kV_inj {a b : ByteArray} (ha : NmK a) (hb : NmK b) (h : kV a = kV b) : a = b := by
  have h1 : kC a = kC b := by simpa using h
  have h2 := pre_eq _ _ _ _ ha.2 hb.2 h1
  obtain ⟨⟨l⟩⟩ := a
  obtain ⟨⟨l'⟩⟩ := b
  simp only at h2
  rw [h2]
theorem litsB (n : Nat) (b : UInt8) : Tryd.prog.keyLits (n + 1) 5 [byV b] = some [.int .u8 (b.toNat : Int)] := by
  have hb := b.toNat_lt
  have hwf : (Lit.int .u8 (b.toNat : Int)).wf = true := by simp [Lit.wf, IntKind.min, IntKind.max, IntKind.signed, IntKind.bits]; omega
  unfold Program.keyLits byV
  rw [Tryd.underlying5]
  simp [hwf]
theorem mapM_some {α β : Type} (f : α → Option β) (g : α → β) : ∀ l : List α, (∀ x ∈ l, f x = some (g x)) → l.mapM f = some (l.map g)
  | [], _ => rfl
  | x :: l, h => by
    rw [List.mapM_cons, h x (by simp), mapM_some f g l (fun y hy => h y (by simp [hy]))]
    rfl
theorem kV_is {nm : ByteArray} (h : nm.size ≤ 40) : ∃ l, keyOf Tryd.prog 144 (kV nm) = some l := by
  obtain ⟨n, hn⟩ := size_types
  have hl := kC_len h
  have hf : (kV nm).formed Tryd.prog 144 = true := by simp [Value.formed, Tryd.underlying144, cellsK, hl]
  have hlit : ∃ ls, (List.range 40).mapM (fun i => Tryd.prog.keyLits (n + 1) 5 (((kC nm).drop (i * 1)).take 1)) = some ls := by
    refine ⟨_, mapM_some _ (fun i => [.int .u8 (match (kC nm)[i]? with | some (.int _ z) => z | _ => 0)]) _ (fun i hi => ?_)⟩
    have hi' : i < (kC nm).length := by rw [hl]; exact List.mem_range.1 hi
    obtain ⟨b, hb⟩ := kC_one nm _ (List.getElem_mem hi')
    have e : ((kC nm).drop (i * 1)).take 1 = [byV b] := by
      rw [Nat.mul_one, List.drop_eq_getElem_cons hi', hb]
      rfl
    rw [e, litsB, List.getElem?_eq_getElem hi', hb]
    rfl
  obtain ⟨ls, hls⟩ := hlit
  unfold keyOf
  rw [hn, Tryd.underlying144]
  simp only [keyTK, hf]
  unfold Program.keyLits
  rw [Tryd.underlying144]
  simp only [Value.cells, hl, cellsK, cells5, if_true, hls]
  simp
end Go.Proofs.YtdenddknbmiboaaDoor.Lex
namespace Go.Proofs.YtdenddknbmiboaaDoor.Lex
open Go.ChangeShapes Go.WideShapes Go.ChangeAt Go.RowKit Go.Joins Go.WideMaps Go.WideElems Go.Maps
def rIn (acc : List Rf) (r : Rf) : Bool := acc.any fun q => q.1.data.toList == r.1.data.toList && q.2 == r.2
def addR (acc : List Rf) (r : Rf) : List Rf := if rIn acc r then acc else acc ++ [r]
theorem rIn_mem {acc : List Rf} {r : Rf} : rIn acc r = true ↔ r ∈ acc := by
  unfold rIn
  rw [List.any_eq_true]
  constructor
  · rintro ⟨q, hq, e⟩
    simp only [Bool.and_eq_true, beq_iff_eq] at e
    have : q = r := Prod.ext (by
      obtain ⟨⟨⟨l⟩⟩, n⟩ := q
      obtain ⟨⟨⟨l'⟩⟩, n'⟩ := r
      simp only at e ⊢
      rw [e.1]) e.2
    rw [← this]
    exact hq
  · intro h
    exact ⟨r, h, by simp⟩
theorem modify_last {es : Array MapEntry} {x : MapEntry} (f : MapEntry → MapEntry) : (es.push x).modify es.size f = es.push (f x) := by
  apply Array.ext
  · simp
  · intro i h1 h2
    have hi : i < es.size + 1 := by simpa using h2
    by_cases e : es.size = i
    · subst e
      rw [Array.getElem_modify_self]
      simp
    · rw [Array.getElem_modify_of_ne e, Array.getElem_push_lt (by omega), Array.getElem_push_lt (by omega)]
theorem find_last {es : Array MapEntry} {x : MapEntry} {p : MapEntry → Bool} (h1 : ∀ e ∈ es.toList, p e = false) (h2 : p x = true) : (es.push x).findIdx? p = some es.size := by
  rw [Array.findIdx?_eq_some_iff_getElem]
  refine ⟨by simp, by simpa using h2, fun j hj => ?_⟩
  rw [Array.getElem_push_lt hj]
  have := h1 es[j] (by simp)
  simp [this]
theorem born_at {es : Array MapEntry} {j : Nat} {e0 : MapEntry} (h : es.toList[j]? = some e0) (hn : (es.toList.map (·.born)).Nodup) : es.findIdx? (fun e => (e.born : Int) == (e0.born : Int)) = some j := by
  obtain ⟨hj, ej⟩ := List.getElem?_eq_some_iff.1 h
  have hj' : j < es.size := by simpa using hj
  rw [Array.findIdx?_eq_some_iff_getElem]
  refine ⟨hj', ?_, fun i hi => ?_⟩
  · have : es[j] = e0 := by simpa using ej
    simp [this]
  · have hne := (List.pairwise_iff_getElem.1 hn) i j (by simp; omega) (by simp; omega) hi
    simp only [List.getElem_map, ej] at hne
    simp only [Array.getElem_toList] at hne
    simp
    omega
theorem modify_same {es : Array MapEntry} {j : Nat} {e0 : MapEntry} (h : es.toList[j]? = some e0) (f : MapEntry → MapEntry) (hf : f e0 = e0) : es.modify j f = es := by
  obtain ⟨hj, ej⟩ := List.getElem?_eq_some_iff.1 h
  apply Array.ext
  · simp
  · intro i h1 h2
    by_cases e : j = i
    · subst e
      rw [Array.getElem_modify_self]
      have : es[j] = e0 := by simpa using ej
      rw [this, hf]
    · rw [Array.getElem_modify_of_ne e]
theorem heap_block {w : World} {b : Nat} {o : Obj} (h : b < w.heap.size) : (ChangeMaps.setBlock w b o).heap[b]? = some o := by
  simp [ChangeMaps.setBlock, h]
set_option maxRecDepth 100000 in
theorem SeenM.bump {acc : List Rf} {N mb : Nat} {w : World} (h : SeenM acc N mb w) (hN : N < 1099511627776) {r : Rf} (hr : RfOk r) : ∃ (c : Nat) (W1 W2 : World) (born : Nat), c ≤ N ∧ (c = 0 ↔ rIn acc r = false) ∧ (Instr.lookup 162 (.map (some mb)) (rKey r) false).run Tryd.prog w = .ok (.int .i64 (c : Int)) w ∧
    (Instr.mapEntry 162 (.map (some mb)) (rKey r)).run Tryd.prog w = .ok (.tuple #[.int .i64 (c : Int), .int .i64 (born : Int)]) W1 ∧ (Instr.lookup 162 (.map (some mb)) (rKey r) false).run Tryd.prog W1 = .ok (.int .i64 (c : Int)) W1 ∧
    (Instr.entryStore 162 (.map (some mb)) (.int .i64 (born : Int)) (.int .i64 ((c : Int) + 1))).run Tryd.prog W1 = .ok () W2 ∧ (Instr.lookup 162 (.map (some mb)) (rKey r) false).run Tryd.prog W2 = .ok (.int .i64 ((c : Int) + 1)) W2 ∧ SeenM (addR acc r) (N + 1) mb W2 ∧ w.grownBy W1 (some mb) ∧ W1.grownBy W2 (some mb) := by
  obtain ⟨es, clock, hh, F, hs, h1, h2⟩ := h
  obtain ⟨l, hl⟩ := rKey_is hr
  have hlt := (Array.getElem?_eq_some_iff.1 hh).1
  cases hin : rIn acc r with
  | false =>
    have hno : ∀ x ∈ es.toList, x.key ≠ rKey r := fun x hx e => by
      obtain ⟨q, hq, ek, _⟩ := h1 x hx
      have e2 := rKey_inj (ek.symm.trans e)
      rw [e2, ← rIn_mem, hin] at hq
      cases hq
    have fitP : ∀ v, Fit (H := Unit) Tryd.prog 109 RA (es.push ⟨rKey r, v, clock⟩) (clock + 1) := fun v => ⟨by simp; unfold maxLen; omega, MapKept.stamped_push F.stamped hno, fun x hx => by
      simp only [Array.toList_push, List.mem_append, List.mem_singleton] at hx
      rcases hx with hx | rfl
      · exact F.reads x hx
      · exact ⟨_, rd_mk hl rfl⟩⟩
    have hh1 : (ChangeMaps.setBlock w mb (.map (es.push ⟨rKey r, .int .i64 0, clock⟩) (clock + 1))).heap[mb]? = some (.map (es.push ⟨rKey r, .int .i64 0, clock⟩) (clock + 1)) := heap_block hlt
    have hlt1 := (Array.getElem?_eq_some_iff.1 hh1).1
    have hh2 : (ChangeMaps.setBlock (ChangeMaps.setBlock w mb (.map (es.push ⟨rKey r, .int .i64 0, clock⟩) (clock + 1))) mb (.map (es.push ⟨rKey r, .int .i64 1, clock⟩) (clock + 1))).heap[mb]? = some (.map (es.push ⟨rKey r, .int .i64 1, clock⟩) (clock + 1)) := heap_block hlt1
    refine ⟨0, _, _, clock, Nat.zero_le _, by simp, look_none hh F hr hno, ?_, look_one hh1 (fitP _) hr (x := ⟨rKey r, .int .i64 0, clock⟩) (by simp) rfl, ?_, look_one hh2 (fitP _) hr (x := ⟨rKey r, .int .i64 1, clock⟩) (by simp) rfl, ⟨_, _, hh2, fitP _, by simp; omega, ?_, ?_⟩, grown_setBlock _, grown_setBlock _⟩
    · rcases keyed51.find w hl es.toList F.keys with ⟨f1, _⟩ | ⟨j, e, _, f2, f3⟩
      · simp [Instr.mapEntry, run_underlying Tryd.underlying162, MapKept.run_getObj_map hh, keyed51.check w false hl, f1, MapKept.run_setObj_map _ hh, Result.andThen, ChangeMaps.setBlock, goInt]
      · exact (hno e (List.mem_of_getElem? f2) f3).elim
    · have hf := find_last (es := es) (x := ⟨rKey r, .int .i64 0, clock⟩) (p := fun e => (e.born : Int) == (clock : Int)) (fun e he => by have := F.stamped.1 e he; simp; omega) (by simp)
      simp [Instr.entryStore, MapKept.run_getObj_map hh1, asInt, asIntOf, hf, MapKept.run_setObj_map _ hh1, Result.andThen, modify_last]
      rfl
    · intro x hx
      simp only [Array.toList_push, List.mem_append, List.mem_singleton] at hx
      unfold addR
      rw [hin]
      rcases hx with hx | rfl
      · obtain ⟨q, hq, ek, c, c1, c2, ev⟩ := h1 x hx
        exact ⟨q, by simp [hq], ek, c, c1, by omega, ev⟩
      · exact ⟨r, by simp, rfl, 1, by omega, by omega, rfl⟩
    · intro q hq
      unfold addR at hq
      rw [hin] at hq
      simp only [Bool.false_eq_true, if_false, List.mem_append, List.mem_singleton] at hq
      simp only [Array.toList_push, List.mem_append, List.mem_singleton]
      rcases hq with hq | rfl
      · obtain ⟨x, hx, ek⟩ := h2 q hq
        exact ⟨x, .inl hx, ek⟩
      · exact ⟨_, .inr rfl, rfl⟩
  | true =>
    obtain ⟨x0, hx0, ek0⟩ := h2 r (rIn_mem.1 hin)
    rcases keyed51.find w hl es.toList F.keys with ⟨_, f2⟩ | ⟨j, e0, f1, f2, f3⟩
    · exact (f2 x0 hx0 ek0).elim
    · have he0 := List.mem_of_getElem? f2
      obtain ⟨q, hq, ek, c, c1, c2, ev⟩ := h1 e0 he0
      have hj : es[j]? = some e0 := by simpa using f2
      have hms : es.modify j (fun e => { e with key := rKey r }) = es := modify_same f2 _ (by rw [← f3])
      have hh1 : (ChangeMaps.setBlock w mb (.map es clock)).heap[mb]? = some (.map es clock) := heap_block hlt
      have hlt1 := (Array.getElem?_eq_some_iff.1 hh1).1
      have hh2 : (ChangeMaps.setBlock (ChangeMaps.setBlock w mb (.map es clock)) mb (.map (es.modify j (fun e => { e with val := .int .i64 ((c : Int) + 1) })) clock)).heap[mb]? = some (.map (es.modify j (fun e => { e with val := .int .i64 ((c : Int) + 1) })) clock) := heap_block hlt1
      have hlist : (es.modify j (fun e => { e with val := .int .i64 ((c : Int) + 1) })).toList = es.toList.set j { e0 with val := .int .i64 ((c : Int) + 1) } := by rw [Array.toList_modify, ChangeMaps.modify_eq_set _ _ _ _ f2]
      have hjl : j < es.toList.length := (List.getElem?_eq_some_iff.1 f2).1
      have fit2 : Fit (H := Unit) Tryd.prog 109 RA (es.modify j (fun e => { e with val := .int .i64 ((c : Int) + 1) })) clock := ⟨by simpa using F.size, MapKept.stamped_modify F.stamped _ _ (fun _ _ => rfl) (fun _ _ _ => rfl), fun x hx => by
        rw [hlist] at hx
        rcases List.mem_or_eq_of_mem_set hx with hx | rfl
        · exact F.reads x hx
        · refine ⟨(l, .nil), ?_⟩
          show (keyOf Tryd.prog 109 e0.key).bind _ = _
          rw [f3, hl]
          rfl⟩
      have hmem : ({ e0 with val := .int .i64 ((c : Int) + 1) } : MapEntry) ∈ (es.modify j (fun e => { e with val := .int .i64 ((c : Int) + 1) })).toList := by
        rw [hlist]
        exact List.mem_iff_getElem.2 ⟨j, by simpa using hjl, by simp⟩
      refine ⟨c, _, _, e0.born, c2, ⟨fun e => by omega, fun e => by cases e⟩, by rw [look_one hh F hr he0 f3, ev], ?_, by rw [look_one hh1 F hr he0 f3, ev], ?_, look_one hh2 fit2 hr hmem f3, ⟨_, _, hh2, fit2, by simp; omega, ?_, ?_⟩, grown_setBlock _, grown_setBlock _⟩
      · simp [Instr.mapEntry, run_underlying Tryd.underlying162, MapKept.run_getObj_map hh, keyed51.check w false hl, f1, hj, f3, keyed51.stays w hl, MapKept.run_setObj_map _ hh, Result.andThen, ChangeMaps.setBlock, goInt, hms, ev]
      · have hf := born_at f2 F.stamped.2.1
        simp [Instr.entryStore, MapKept.run_getObj_map hh1, asInt, asIntOf, hf, MapKept.run_setObj_map _ hh1, Result.andThen]
        rfl
      · intro x hx
        unfold addR
        rw [hin, if_pos rfl]
        rw [hlist] at hx
        rcases List.mem_or_eq_of_mem_set hx with hx | rfl
        · obtain ⟨q', hq', ek', c', c1', c2', ev'⟩ := h1 x hx
          exact ⟨q', hq', ek', c', c1', by omega, ev'⟩
        · exact ⟨q, hq, ek, c + 1, by omega, by omega, by simp⟩
      · intro q' hq'
        unfold addR at hq'
        rw [hin, if_pos rfl] at hq'
        obtain ⟨x, hx, ekx⟩ := h2 q' hq'
        obtain ⟨i, hi, ei⟩ := List.getElem_of_mem hx
        by_cases hij : j = i
        · subst hij
          refine ⟨_, hmem, ?_⟩
          have : e0 = x := by rw [List.getElem?_eq_getElem hi, ei] at f2; injection f2 with f2; exact f2.symm
          rw [this]
          exact ekx
        · refine ⟨x, ?_, ekx⟩
          rw [hlist]
          exact List.mem_iff_getElem.2 ⟨i, by simpa using hi, by rw [List.getElem_set_ne hij]; exact ei⟩
end Go.Proofs.YtdenddknbmiboaaDoor.Lex
namespace Go.Proofs.YtdenddknbmiboaaDoor.Lex
open Go.RowKit
/-- A token's cells. -/
def tokV (t : Tok) : List Value := [.int .u8 (t.kind : Int), .string ⟨t.text.toArray⟩, .int .i64 (t.at_ : Int)]
def toksV (ts : List Tok) : List Value := ts.flatMap tokV
theorem toksV_app (ts us : List Tok) : toksV (ts ++ us) = toksV ts ++ toksV us := by simp [toksV]
theorem toksV_len (ts : List Tok) : (toksV ts).length = ts.length * 3 := by
  induction ts with
  | nil => rfl
  | cons t ts ih => simp only [toksV, List.flatMap_cons, List.length_append, List.length_cons] at ih ⊢; rw [ih]; simp [tokV]; omega
theorem ownsRow_below {w w' : World} {base e size n : Nat} {v : Value} {xs : List Value} (h : w.ownsRow base e size v n xs) (hb : Below w.heap.size w w') : w'.ownsRow base e size v n xs := by
  refine ⟨h.1, ?_⟩
  rcases h.2 with hn | ⟨g, cap, cur, rfl, hg0, hg, rest⟩
  · exact .inl hn
  · exact .inr ⟨g, cap, cur, rfl, hg0, (hb.block g (Array.getElem?_eq_some_iff.1 hg).1).trans hg, rest⟩
end Go.Proofs.YtdenddknbmiboaaDoor.Lex
namespace Go.Proofs.YtdenddknbmiboaaDoor.Lex
open Go.RowKit
theorem bytes_drop (s : ByteArray) (i : Nat) : (s.extract i s.size).data.toList = s.data.toList.drop i := by
  have := Lib.size_eq s
  simp [ByteArray.data_extract]
  exact List.take_of_length_le (by simp [← this])
theorem bytes_part (s : ByteArray) (i n : Nat) : (s.extract i (i + n)) = ⟨((s.data.toList.drop i).take n).toArray⟩ := by
  apply ByteArray.ext
  apply Array.toList_inj.1
  simp [ByteArray.data_extract]
def lenK : Nat → List UInt8 → Nat
  | 0, l => silLen l
  | 1, l => wordLen l
  | 2, l => numLen l
  | _, l => signLen l
theorem step_at {l : List UInt8} {k : Nat} (hk : k < 4) (h : ∀ j, j < k → lenK j l = 0) (hn : lenK k l ≠ 0) : step l = some (k, lenK k l) := by
  have h0 := h 0
  have h1 := h 1
  have h2 := h 2
  simp only [lenK] at h0 h1 h2
  unfold step
  obtain rfl | rfl | rfl | rfl : k = 0 ∨ k = 1 ∨ k = 2 ∨ k = 3 := by omega
  · simp only [lenK] at hn ⊢; simp [hn]
  · simp only [lenK] at hn ⊢; simp [hn, h0]
  · simp only [lenK] at hn ⊢; simp [hn, h0, h1]
  · simp only [lenK] at hn ⊢; simp [hn, h0, h1, h2]
theorem step_zero {l : List UInt8} (h : ∀ j, j < 4 → lenK j l = 0) : step l = none := by
  have h0 := h 0
  have h1 := h 1
  have h2 := h 2
  have h3 := h 3
  simp only [lenK] at h0 h1 h2 h3
  unfold step
  simp [h0, h1, h2, h3]
theorem ahead_nil (r : Except Nat (List Tok)) : ahead [] r = r := by cases r <;> rfl
/-- How far Read has come. -/
structure Come (L : List UInt8) (pos next : Nat) (ts : List Tok) : Prop where
  so : toks 0 L = ahead ts (toks next (L.drop next))
  edge : pos = next ∨ next = L.length ∨ (L.getD next 0).toNat < 128 ∨ (L.getD (next - 1) 0).toNat < 128
  few : ts.length ≤ next
theorem Come.start (L : List UInt8) : Come L 0 0 [] := ⟨by rw [ahead_nil, List.drop_zero], .inl rfl, Nat.le_refl _⟩
/-- A rune within what is gone by ends within it. -/
theorem Come.skip {s : ByteArray} {pos next : Nat} {ts : List Tok} (h : Come s.data.toList pos next ts) (hlt : pos < next) (hle : next ≤ s.size) :
    pos + (Utf8.decode s pos).2 ≤ next ∧ Come s.data.toList (pos + (Utf8.decode s pos).2) next ts := by
  have hp : pos < s.size := by omega
  have hg := getD_get s pos hp
  have key : pos + (Utf8.decode s pos).2 ≤ next := by
    by_cases hc : (s[pos]'hp).toNat < 128
    · rw [decode_ascii s pos hp hc]; show pos + 1 ≤ next; omega
    · have hc' : 128 ≤ (s.data.toList.getD pos 0).toNat := by rw [hg]; omega
      have hr := fun i hi hl => decode_range s pos i hp hc' hi hl
      by_cases hk : pos + (Utf8.decode s pos).2 ≤ next
      · exact hk
      · exfalso
        have h1 := hr next (by omega) (by omega)
        have h2 := hr (next - 1) (by omega) (by omega)
        rcases h.edge with e | e | e | e
        · omega
        · rw [← Lib.size_eq] at e; omega
        · omega
        · omega
  exact ⟨key, h.so, .inr (h.edge.resolve_left (by omega)), h.few⟩
/-- A step. -/
theorem Come.go {s : ByteArray} {pos : Nat} {ts : List Tok} (h : Come s.data.toList pos pos ts) (hp : pos < s.size) {k n : Nat} (hs : step (s.data.toList.drop pos) = some (k, n)) :
    pos + (Utf8.decode s pos).2 ≤ pos + n ∧ pos + n ≤ s.size ∧ 1 ≤ n ∧ Come s.data.toList (pos + (Utf8.decode s pos).2) (pos + n) (ts ++ if k = 0 then [] else [⟨k, (s.data.toList.drop pos).take n, pos⟩]) := by
  have hL : s.data.toList.length = s.size := (Lib.size_eq s).symm
  obtain ⟨h1, h2, h3⟩ := step_le hs
  rw [List.length_drop, hL] at h2
  have hg := getD_get s pos hp
  have hlow : (s[pos]'hp).toNat < 128 := by
    by_cases hc : (s[pos]'hp).toNat < 128
    · exact hc
    · have := step_high (l := s.data.toList.drop pos) (by rw [drop_getD, Nat.add_zero, hg]; omega)
      rw [this] at hs
      cases hs
  have hd : (Utf8.decode s pos).2 = 1 := by rw [decode_ascii s pos hp hlow]
  refine ⟨by omega, by omega, h1, ?_, ?_, ?_⟩
  · rw [h.so, toks_some (fun e => by have := congrArg List.length e; simp [hL] at this; omega) hs, ahead_app, List.drop_drop]
  · have he := step_end hs
    rw [drop_getD, drop_getD, List.length_drop, hL] at he
    right
    rcases he with e | e | e
    · left; omega
    · exact .inr (.inl e)
    · refine .inr (.inr ?_)
      rw [show pos + n - 1 = pos + (n - 1) by omega]
      exact e
  · have := h.few
    rw [List.length_append]
    split
    · simp; omega
    · simp; omega
theorem Come.stop {s : ByteArray} {pos : Nat} {ts : List Tok} (h : Come s.data.toList pos pos ts) (hp : pos < s.size) (hs : step (s.data.toList.drop pos) = none) : toks 0 s.data.toList = .error pos := by
  have hL : s.data.toList.length = s.size := (Lib.size_eq s).symm
  rw [h.so, toks_none (fun e => by have := congrArg List.length e; simp [hL] at this; omega) hs]
  rfl
theorem Come.done {s : ByteArray} {pos : Nat} {ts : List Tok} (h : Come s.data.toList pos s.size ts) : toks 0 s.data.toList = .ok ts := by
  have hL : s.data.toList.length = s.size := (Lib.size_eq s).symm
  rw [h.so, List.drop_eq_nil_of_le (by omega), toks_nil]
  simp [ahead]
end Go.Proofs.YtdenddknbmiboaaDoor.Lex
namespace Go.Proofs.YtdenddknbmiboaaDoor.Lex
open Go.RowKit
theorem ownsRow_mono {w : World} {B B' e size n : Nat} {v : Value} {xs : List Value} (h : w.ownsRow B e size v n xs) (hle : B' ≤ B) : w.ownsRow B' e size v n xs := by
  refine ⟨h.1, ?_⟩
  rcases h.2 with hn | ⟨g, cap, cur, e1, hg0, rest⟩
  · exact .inl hn
  · exact .inr ⟨g, cap, cur, e1, by omega, rest⟩
end Go.Proofs.YtdenddknbmiboaaDoor.Lex
namespace Go.Proofs.YtdenddknbmiboaaDoor.Lex
open Go.ChangeShapes Go.WideShapes Go.ChangeAt Go.RowKit Go.Joins Go.WideMaps Go.WideElems Go.Maps
def refsV (acc : List Rf) : List Value := acc.flatMap fun r => [.string r.1, .int .i64 (r.2 : Int)]
def nextAgo (x : Ex) (ago : Nat) : Nat := if x.op = 19 then ago + 1 else ago
def ownRefs (x : Ex) (ago : Nat) (acc : List Rf) : List Rf := if x.op = 3 then addR acc (x.name, ago) else acc
/-- What it asks for, looked at so deep. -/
def gat : Nat → Ex → Nat → List Rf → List Rf
  | 0, _, _, acc => acc
  | k + 1, x, ago, acc => x.args.foldl (fun acc y => gat k y (nextAgo x ago) acc) (ownRefs x ago acc)
/-- How many parts it has, itself with them, looked at so deep. -/
def cnt : Nat → Ex → Nat
  | 0, _ => 1
  | k + 1, x => x.args.foldl (fun n y => n + cnt k y) 1
/-- It is no deeper, and its names may be gathered. -/
def NmOk : Nat → Ex → Prop
  | 0, _ => False
  | k + 1, x => x.name.size ≤ 65536 ∧ ∀ y ∈ x.args, NmOk k y
abbrev ptr (b : Nat) : Value := .pointer (some ⟨b, 0, none⟩)
/-- What holds while it is gathered: the map, the list, the closure, in their variables. -/
structure GI (w0 : World) (bs bl bg mb b0 : Nat) (acc accM : List Rf) (N : Nat) (W : World) : Prop where
  below : Below w0.heap.size w0 W
  seen : W.heap[bs]? = some (.cells #[.map (some mb)] 162 (0, 0))
  self : W.heap[bg]? = some (.cells #[.func (.func 86) #[] #[ptr bs, ptr bl, ptr bg]] 92 (0, 0))
  list : ∃ v, W.heap[bl]? = some (.cells #[v] 141 (0, 0)) ∧ W.ownsRow b0 109 2 v acc.length (refsV acc)
  map : SeenM accM N mb W
  few : acc.length ≤ N
  ord : w0.heap.size ≤ bs ∧ w0.heap.size ≤ bl ∧ w0.heap.size ≤ bg ∧ w0.heap.size ≤ mb ∧ bs < b0 ∧ bl < b0 ∧ bg < b0 ∧ mb < b0 ∧ b0 ≤ W.heap.size
  ne : bs ≠ bl ∧ bs ≠ bg ∧ bs ≠ mb ∧ bl ≠ bg ∧ bl ≠ mb ∧ bg ≠ mb
theorem GI.step {w0 W W' : World} {bs bl bg mb b0 N : Nat} {acc accM : List Rf} (h : GI w0 bs bl bg mb b0 acc accM N W) (hb : Below W.heap.size W W') : GI w0 bs bl bg mb b0 acc accM N W' := by
  have k : ∀ {b o}, W.heap[b]? = some o → W'.heap[b]? = some o := fun {b o} e => (hb.block b (Array.getElem?_eq_some_iff.1 e).1).trans e
  obtain ⟨v, l1, l2⟩ := h.list
  obtain ⟨o1, o2, o3, o4, o5, o6, o7, o8, o9⟩ := h.ord
  exact ⟨h.below.trans (hb.mono h.below.size), k h.seen, k h.self, ⟨v, k l1, ownsRow_below l2 hb⟩, h.map.kept fun hl => hb.block mb hl, h.few, ⟨o1, o2, o3, o4, o5, o6, o7, o8, Nat.le_trans o9 hb.size⟩, h.ne⟩
theorem own_kept {w w' : World} {base e size n : Nat} {v : Value} {xs : List Value} {b : Nat} (h : w.ownsRow base e size v n xs) (g : w.grownBy w' (some b)) (hb : b < base) : w'.ownsRow base e size v n xs := by
  refine ⟨h.1, ?_⟩
  rcases h.2 with hn | ⟨g', cap, cur, rfl, hg0, hg, rest⟩
  · exact .inl hn
  · exact .inr ⟨g', cap, cur, rfl, hg0, (g.block g' (Array.getElem?_eq_some_iff.1 hg).1 (fun e => by injection e; omega)).trans hg, rest⟩
/-- The map has turned. -/
theorem GI.count {w0 W W' : World} {bs bl bg mb b0 N N' : Nat} {acc accM accM' : List Rf} (h : GI w0 bs bl bg mb b0 acc accM N W) (g : W.grownBy W' (some mb)) (hm : SeenM accM' N' mb W') (hN : N ≤ N') : GI w0 bs bl bg mb b0 acc accM' N' W' := by
  obtain ⟨n1, n2, n3, n4, n5, n6⟩ := h.ne
  have k : ∀ {b o}, W.heap[b]? = some o → b ≠ mb → W'.heap[b]? = some o := fun {b o} e hne => (g.block b (Array.getElem?_eq_some_iff.1 e).1 (fun e => by injection e; omega)).trans e
  obtain ⟨v, l1, l2⟩ := h.list
  obtain ⟨o1, o2, o3, o4, o5, o6, o7, o8, o9⟩ := h.ord
  refine ⟨h.below.grown g h.below.size (fun k e => by injection e; omega), k h.seen n3, k h.self n6, ⟨v, k l1 n5, own_kept l2 g o8⟩, hm, Nat.le_trans h.few hN, ⟨o1, o2, o3, o4, o5, o6, o7, o8, Nat.le_trans o9 g.size⟩, h.ne⟩
theorem refsV_app (a b : List Rf) : refsV (a ++ b) = refsV a ++ refsV b := by simp [refsV]
/-- The list has grown by one, and is laid in its variable. -/
theorem GI.push {w0 W W' : World} {bs bl bg mb b0 N : Nat} {acc accM : List Rf} {v v' : Value} {r : Rf} (h : GI w0 bs bl bg mb b0 acc accM N W) (hv : W.heap[bl]? = some (.cells #[v] 141 (0, 0))) (hr : W.ownsRow b0 109 2 v acc.length (refsV acc)) (g : W.grownBy W' v.ownBlock) (hr' : W'.ownsRow b0 109 2 v' (acc.length + 1) (refsV acc ++ [.string r.1, .int .i64 (r.2 : Int)])) (hN : acc.length + 1 ≤ N) : W'.heap[bl]? = some (.cells #[v] 141 (0, 0)) ∧ GI w0 bs bl bg mb b0 (acc ++ [r]) accM N (W'.setCell ⟨bl, 0, none⟩ v') := by
  obtain ⟨n1, n2, n3, n4, n5, n6⟩ := h.ne
  obtain ⟨o1, o2, o3, o4, o5, o6, o7, o8, o9⟩ := h.ord
  have hlt := hr.lt
  have hne : ∀ k, k < b0 → some k ≠ v.ownBlock := fun k hk e => by have := (hlt k e.symm).1; omega
  have k : ∀ {b o}, W.heap[b]? = some o → b < b0 → W'.heap[b]? = some o := fun {b o} e hb => (g.block b (Array.getElem?_eq_some_iff.1 e).1 (hne b hb)).trans e
  have far : ∀ b, b ≠ bl → (W'.setCell ⟨bl, 0, none⟩ v').heap[b]? = W'.heap[b]? := fun b hb => Below.heap_setCell _ _ _ _ hb
  have hbl := k hv o6
  refine ⟨hbl, ⟨?_, ?_, ?_, ⟨v', ?_, ?_⟩, ?_, ?_, ⟨o1, o2, o3, o4, o5, o6, o7, o8, ?_⟩, h.ne⟩⟩
  · have b1 := h.below.grown g h.below.size (fun k e => by have := (hlt k e).1; omega)
    exact ⟨b1.os, b1.tape, b1.output, by have := b1.size; simpa [World.setCell] using this, fun k hk => (far k (by omega)).trans (b1.block k hk)⟩
  · rw [far _ n1]; exact k h.seen o5
  · rw [far _ (fun e => n4 e.symm)]; exact k h.self o7
  · rw [set_same' hbl 0 v']; rfl
  · rw [List.length_append, refsV_app]
    rw [show refsV [r] = [.string r.1, .int .i64 (r.2 : Int)] by simp [refsV]]
    refine ⟨hr'.1, ?_⟩
    rcases hr'.2 with hn | ⟨g', cap, cur, e1, hg0, hg, rest⟩
    · exact .inl hn
    · exact .inr ⟨g', cap, cur, e1, hg0, (far g' (by omega)).trans hg, rest⟩
  · exact h.map.kept fun hl => (far mb (fun e => n5 e.symm)).trans (g.block mb hl (hne mb o8))
  · rw [List.length_append]; exact hN
  · have := g.size; simp [World.setCell]; omega
theorem i51 : (Tryd.prog.info? 109).map (fun i => (i.zero, i.size, i.bytes)) = some (some (.agg #[.string ByteArray.empty, .int .i64 0]), 2, 24) := by kernel_rfl
theorem info51 : (Tryd.prog.info? 109).map (·.size) = some 2 := by kernel_rfl
theorem GI.mono {w0 W : World} {bs bl bg mb b0 N N' : Nat} {acc accM : List Rf} (h : GI w0 bs bl bg mb b0 acc accM N W) (hN : N ≤ N') : GI w0 bs bl bg mb b0 acc accM N' W := by
  refine ⟨h.below, h.seen, h.self, h.list, ?_, Nat.le_trans h.few hN, h.ord, h.ne⟩
  obtain ⟨es, clock, e1, e2, e3, e4, e5⟩ := h.map
  exact ⟨es, clock, e1, e2, Nat.le_trans e3 hN, fun x hx => by obtain ⟨r, q1, q2, c, q3, q4, q5⟩ := e4 x hx; exact ⟨r, q1, q2, c, q3, Nat.le_trans q4 hN, q5⟩, e5⟩
end Go.Proofs.YtdenddknbmiboaaDoor.Lex
namespace Go.Proofs.YtdenddknbmiboaaDoor.Lex
open Go.ChangeShapes Go.WideShapes Go.ChangeAt Go.RowKit Go.Joins Go.WideMaps Go.WideElems Go.Maps
theorem kept0 {W W' : World} {r k : Nat} {o : Obj} (h : W.heap[k]? = some o) (g : W.grownBy W' (some r)) (hk : k ≠ r) : W'.heap[k]? = some o :=
  (g.block k (Array.getElem?_eq_some_iff.1 h).1 (fun e => by injection e with e; exact hk e)).trans h
def GatC (k : Nat) : Prop := ∀ (x : Ex) (s : Value) (ago : Nat) (w0 W : World) (bs bl bg mb b0 N : Nat) (acc : List Rf), St w0 x s → NmOk k x → ago + k ≤ 1099511627776 → N + cnt k x ≤ 1099511627776 → GI w0 bs bl bg mb b0 acc acc N W →
  Calls Tryd.prog 86 #[exV x s, .int .i64 (ago : Int), ptr bs, ptr bl, ptr bg] W fun e w' => e = .returned (.tuple #[]) ∧ GI w0 bs bl bg mb b0 (gat k x ago acc) (gat k x ago acc) (N + cnt k x) w'
def accAt (k : Nat) (x : Ex) (ago : Nat) (acc : List Rf) (i : Nat) : List Rf := (x.args.take i).foldl (fun acc y => gat k y (nextAgo x ago) acc) (ownRefs x ago acc)
def cntAt (k : Nat) (x : Ex) (i : Nat) : Nat := (x.args.take i).foldl (fun n y => n + cnt k y) 1
theorem accAt_succ {k : Nat} {x : Ex} {ago : Nat} {acc : List Rf} {j : Nat} (h : j < x.args.length) : accAt k x ago acc (j + 1) = gat k x.args[j] (nextAgo x ago) (accAt k x ago acc j) := by
  unfold accAt
  rw [List.take_add_one, List.getElem?_eq_getElem h, Option.toList_some, List.foldl_append]
  rfl
theorem cntAt_succ {k : Nat} {x : Ex} {j : Nat} (h : j < x.args.length) : cntAt k x (j + 1) = cntAt k x j + cnt k x.args[j] := by
  unfold cntAt
  rw [List.take_add_one, List.getElem?_eq_getElem h, Option.toList_some, List.foldl_append]
  rfl
theorem cntAt_le (k : Nat) (x : Ex) : ∀ (n j : Nat), j + n = x.args.length → cntAt k x j ≤ cntAt k x x.args.length
  | 0, j, h => by rw [← h, Nat.add_zero]; exact Nat.le_refl _
  | n + 1, j, h => by
    have h1 := cntAt_le k x n (j + 1) (by omega)
    rw [cntAt_succ (by omega)] at h1
    omega
theorem foldl_ge (f : Ex → Nat) : ∀ (l : List Ex) (n : Nat), n ≤ l.foldl (fun n y => n + f y) n
  | [], _ => Nat.le_refl _
  | a :: l, n => Nat.le_trans (Nat.le_add_right n (f a)) (foldl_ge f l (n + f a))
theorem cnt_pos (k : Nat) (x : Ex) : 1 ≤ cnt k x := by
  cases k with
  | zero => exact Nat.le_refl _
  | succ k => exact foldl_ge (cnt k) x.args 1

theorem nextAgo_le (x : Ex) (ago : Nat) : nextAgo x ago ≤ ago + 1 := by unfold nextAgo; split <;> omega
theorem own_slice {w : World} {base e size n : Nat} {v : Value} {xs : List Value} (h : w.ownsRow base e size v (n + 1) xs) : ∃ g c, v = .slice (some ⟨g, 0, none⟩) (n + 1) c := by
  rcases h.2 with ⟨_, h0⟩ | ⟨g, cap, cur, rfl, _⟩
  · omega
  · exact ⟨g, cap, rfl⟩
theorem inf51 : ∃ ie, Tryd.prog.info? 109 = some ie ∧ ie.zero = some (.agg #[.string ByteArray.empty, .int .i64 0]) ∧ ie.size = 2 := by
  have h : (Tryd.prog.info? 109).map (fun i => (i.zero, i.size)) = some (some (.agg #[.string ByteArray.empty, .int .i64 0]), 2) := by kernel_rfl
  obtain ⟨ie, h1, h2⟩ := Option.map_eq_some_iff.1 h
  injection h2 with h2 h3
  exact ⟨ie, h1, h2, h3⟩
theorem fill51 (r : Rf) : Instr.fill (fun i => some (i * 2, 2)) ((Array.range (1 * 2)).map ((Value.agg #[.string ByteArray.empty, .int .i64 0]).cells[· % (Value.agg #[.string ByteArray.empty, .int .i64 0]).cells.size]!)) [(0, rKey r)] = some (rV r) := by
  have e : ((Array.range (1 * 2)).map ((Value.agg #[.string ByteArray.empty, .int .i64 0]).cells[· % (Value.agg #[.string ByteArray.empty, .int .i64 0]).cells.size]!)) = #[.string ByteArray.empty, .int .i64 0] := by kernel_rfl
  rw [e]
  simp [Instr.fill]
  exact ⟨⟨rfl, Nat.le_refl 2⟩, rfl⟩
theorem two_new (w : World) (x y : Value) : ∀ j u, [x, y][j]? = some u → (w.alloc (.cells #[x, y] 109)).cell? ((⟨w.heap.size, 0, none⟩ : Addr).add j) = some u := by
  intro j u hj
  have hadd : (⟨w.heap.size, 0, none⟩ : Addr).add j = ⟨w.heap.size, j, none⟩ := by unfold Addr.add; split <;> simp_all
  rw [hadd, World.cell?_alloc_at _ _ _ _ rfl]
  rcases j with _ | _ | j
  · simpa using hj
  · simpa using hj
  · simp at hj
set_option maxRecDepth 100000 in
set_option maxHeartbeats 2000000 in
theorem gather_of (k : Nat) (ih : GatC k) : GatC (k + 1) := by
  intro x s ago w0 W bs bl bg mb b0 N acc hS hNm hago hN hG
  obtain ⟨ao, cap, sl, rfl, hop, hn, hnm, hlen, hcap, hc, hs⟩ := hS.out
  have b5 := (Below.refl W.heap.size W).alloc (Nat.le_refl _) (.cells (ex4 x (.slice ao x.args.length cap)) 70)
  have X5 := heap_alloc_new W (.cells (ex4 x (.slice ao x.args.length cap)) 70)
  have G5 := hid (hG.step b5)
  have hG0 := hG
  obtain ⟨y0, y1, y2, y3⟩ : (W.alloc (.cells (ex4 x (.slice ao x.args.length cap)) 70)).cell? ⟨W.heap.size, 0, none⟩ = some (.int .u8 (x.op : Int)) ∧ (W.alloc (.cells (ex4 x (.slice ao x.args.length cap)) 70)).cell? ⟨W.heap.size, 1, none⟩ = some (.int .i64 x.n) ∧ (W.alloc (.cells (ex4 x (.slice ao x.args.length cap)) 70)).cell? ⟨W.heap.size, 2, none⟩ = some (.string x.name) ∧ (W.alloc (.cells (ex4 x (.slice ao x.args.length cap)) 70)).cell? ⟨W.heap.size, 3, none⟩ = some (.slice ao x.args.length cap) := by
    refine ⟨?_, ?_, ?_, ?_⟩ <;> (rw [cell_of_row _ _ _ _ 70 (0, 0) X5]; rfl)
  go_enter Tryd.func86, Tryd.ntmps86
  refine wp_seq_k fun K0 hK0 => ?_
  have HK0 := hid hK0
  clear hK0
  go_wp2
  refine HK0.out _ _ ?_
  clear HK0 K0
  refine wp_seq_k fun K1 hK1 => ?_
  go_cut [1] from 6 (fun ag Wc => ag = .int .i64 (nextAgo x ago : Int) ∧ Hid (GI w0 bs bl bg mb b0 (ownRefs x ago acc) (ownRefs x ago acc) (N + 1) Wc) ∧ Hid (Wc.heap[W.heap.size]? = some (.cells (ex4 x (.slice ao x.args.length cap)) 70 (0, 0))))
  case rest =>
    obtain ⟨rfl, hGc, hXc⟩ := hcut
    have HC := hid hc
    have HS := hid hs
    have HNM := hid hNm
    have z3 : wc.cell? ⟨W.heap.size, 3, none⟩ = some (.slice ao x.args.length cap) := by rw [cell_of_row _ _ _ _ 70 (0, 0) hXc.out]; rfl
    have hg0 : accAt k x ago acc 0 = ownRefs x ago acc := by simp [accAt]
    have hc0 : cntAt k x 0 = 1 := by simp [cntAt]
    have G0 : Hid (GI w0 bs bl bg mb b0 (accAt k x ago acc 0) (accAt k x ago acc 0) (N + cntAt k x 0) wc) := by rw [hg0, hc0]; exact hGc
    have END : Hid (accAt k x ago acc x.args.length = gat (k + 1) x ago acc ∧ cntAt k x x.args.length = cnt (k + 1) x) := hid (by unfold accAt cntAt; rw [List.take_length]; exact ⟨rfl, rfl⟩)
    have HA := hid hago
    have HN := hid hN
    clear hG hG0 b5 X5 G5 y0 y1 y2 y3 hc hs hNm hGc hXc hg0 hc0 hS hago hN hop hn hnm hcap
    refine hK1 _ _ ?_
    clear hK1 K1
    go_wp2
    go_loopw [40] (fun i wr => ∃ j : Nat, j ≤ x.args.length ∧ i = .int .i64 (j : Int) ∧ Hid (GI w0 bs bl bg mb b0 (accAt k x ago acc j) (accAt k x ago acc j) (N + cntAt k x j) wr)) (fun i _ => x.args.length - (intOf i).toNat)
    case atStart => exact ⟨0, Nat.zero_le _, rfl, G0⟩
    case round =>
      obtain ⟨j, hj, rfl, hGj⟩ := hrel
      by_cases hlt : j < x.args.length
      · have hlt' : (j : Int) < (x.args.length : Int) := by omega
        have hj0 : (0 : Int) ≤ (j : Int) := by omega
        obtain ⟨bb, o, rfl, hcc⟩ := HC.out.resolve_left (by omega)
        obtain ⟨a0, a1, a2, a3⟩ := hcc j hlt
        have v0 := cell_kept a0 hGj.out.below
        have v1 := cell_kept a1 hGj.out.below
        have v2 := cell_kept a2 hGj.out.below
        have v3 := cell_kept a3 hGj.out.below
        have hst := HS.out j hlt
        have hnm := HNM.out.2 _ (List.getElem_mem hlt)
        have E1 := hid (accAt_succ (k := k) (ago := ago) (acc := acc) hlt)
        have E2 := hid (cntAt_succ (k := k) hlt)
        have hle := cntAt_le k x (x.args.length - (j + 1)) (j + 1) (by omega)
        rw [END.out.2, E2.out] at hle
        have hna := nextAgo_le x ago
        have HAo := HA.out
        have HNo := HN.out
        generalize x.args[j] = y at *
        clear a0 a1 a2 a3 hcc
        generalize sl j = sv at *
        obtain ⟨a3, c3, _, rfl, _⟩ := hst.out
        have b1 := (Below.refl wr.heap.size wr).alloc (Nat.le_refl _) (.cells (ex4 y (.slice a3 y.args.length c3)) 70)
        have G1 := hGj.out.step b1
        have q4 : (wr.alloc (.cells (ex4 y (.slice a3 y.args.length c3)) 70)).cell? ⟨bg, 0, none⟩ = some (.func (.func 86) #[] #[ptr bs, ptr bl, ptr bg]) := by rw [cell_of_row _ _ _ _ 92 (0, 0) G1.self]; rfl
        have c := ih y _ (nextAgo x ago) w0 _ bs bl bg mb b0 _ _ hst hnm (by omega) (by omega) G1
        clear hst hnm hle hna HAo HNo G1 b1 ih
        generalize nextAgo x ago = ag at *
        go_wp2_with (go_at_call 86; refine c.mono ?_; rintro e w4 ⟨rfl, g4⟩; have G4 := hid g4; clear g4 c)
        go_roundw
        case rel => exact ⟨j + 1, by omega, by go_num, by rw [E1.out, E2.out, ← Nat.add_assoc]; exact G4⟩
        case measure => simp [intOf]; omega
      · have hlt' : ¬ (j : Int) < (x.args.length : Int) := by omega
        obtain rfl : j = x.args.length := by omega
        go_wp2
        refine bodyPost_end (by simp [results]) rfl ⟨rfl, ?_⟩
        have h := hGj.out
        rw [END.out.1, END.out.2] at h
        exact h
  case first =>
    have HW := hid (Array.getElem?_eq_some_iff.1 X5).1
    have X5h := hid X5
    by_cases h3 : x.op = 3
    · have NA : Hid (nextAgo x ago = ago) := hid (by unfold nextAgo; rw [if_neg (by omega)])
      have hop3 : ((x.op : Int) == 3) = true := by simp [h3]
      have hcl := fun V => clone x.name V hNm.1
      have hrok : RfOk (x.name, ago) := ⟨hNm.1, by show ago ≤ _; omega⟩
      have OWN0 : Hid (ownRefs x ago acc = addR acc (x.name, ago)) := hid (by unfold ownRefs; rw [if_pos h3])
      obtain ⟨i0, hi, hi0, hi1, hi2⟩ := info_parts i51
      have HNs := hid hN
      have H3 := hid h3
      clear ih hc hs hS hG b5 X5 hop hn hnm hlen hcap hago hN hNm h3 hK1
      go_wp2_with (go_at_call 53; refine (hcl _).mono ?_; rintro e w2 ⟨rfl, b2⟩; have B2 := hid b2; clear b2 hcl)
      have b3 := (Below.refl w2.heap.size w2).alloc (Nat.le_refl _) (.cells #[.string x.name, .int .i64 (ago : Int)] 109)
      have b23 := bstep B2.out b3
      have G3 := (G5.out.step b23).step (show Below _ (w2.alloc (.cells #[.string x.name, .int .i64 (ago : Int)] 109)) (w2.alloc (.cells #[.string x.name, .int .i64 (ago : Int)] 109)).drew from below_drewN (Below.refl _ _) 1)
      have X3 := heap_alloc_new w2 (.cells #[.string x.name, .int .i64 (ago : Int)] 109)
      have XB0 : (w2.alloc (.cells #[.string x.name, .int .i64 (ago : Int)] 109)).drew.heap[W.heap.size]? = some (.cells (ex4 x (.slice ao x.args.length cap)) 70 (0, 0)) := (b23.block _ HW.out).trans X5h.out
      have hlt2 : w2.heap.size < (w2.alloc (.cells #[.string x.name, .int .i64 (ago : Int)] 109)).drew.heap.size := (Array.getElem?_eq_some_iff.1 X3).1
      have hw2 : (W.alloc (.cells (ex4 x (.slice ao x.args.length cap)) 70)).heap.size ≤ w2.heap.size := B2.out.size
      obtain ⟨o1, o2, o3, o4, o5, o6, o7, o8, o9⟩ := G5.out.ord
      have hmb2 : w2.heap.size ≠ mb := by omega
      have hmbW : W.heap.size ≠ mb := by have := hG0.ord.2.2.2.2.2.2.2; omega
      obtain ⟨c, W1, W2, born, hcN, hc0, l0, m1, l1, s1, l2, M2, g1, g2⟩ := G3.map.bump (by have := HNs.out; have := cnt_pos (k + 1) x; omega) hrok
      simp only [rKey, rV] at l0 m1 l1 s1 l2
      have k1 : ∀ {b o}, (w2.alloc (.cells #[.string x.name, .int .i64 (ago : Int)] 109)).drew.heap[b]? = some o → b ≠ mb → W1.heap[b]? = some o := fun {b o} e hne => kept0 e g1 hne
      have k2 : ∀ {b o}, W1.heap[b]? = some o → b ≠ mb → W2.heap[b]? = some o := fun {b o} e hne => kept0 e g2 hne
      have n3 := hG0.ne.2.2.1
      have sS : ∀ {V : World}, V.heap[bs]? = some (.cells #[.map (some mb)] 162 (0, 0)) → V.heap[w2.heap.size]? = some (.cells #[.string x.name, .int .i64 (ago : Int)] 109 (0, 0)) → V.cell? ⟨bs, 0, none⟩ = some (.map (some mb)) ∧ V.cell? ⟨w2.heap.size, 0, none⟩ = some (.string x.name) ∧ V.cell? ⟨w2.heap.size, 1, none⟩ = some (.int .i64 (ago : Int)) := fun {V} e1 e2 => ⟨(cell_of_row _ _ _ _ 162 (0, 0) e1).trans rfl, (cell_of_row _ _ _ _ 109 (0, 0) e2).trans rfl, (cell_of_row _ _ _ _ 109 (0, 0) e2).trans rfl⟩
      have S0 := sS (V := (w2.alloc (.cells #[.string x.name, .int .i64 (ago : Int)] 109)).drew) G3.seen X3
      have S1 := sS (k1 G3.seen n3) (k1 (b := w2.heap.size) X3 hmb2)
      have S2 := sS (k2 (k1 G3.seen n3) n3) (k2 (k1 (b := w2.heap.size) X3 hmb2) hmb2)
      have XB := hid (k2 (k1 XB0 hmbW) hmbW)
      have GP := hid (G3.count (grown_on g1 g2) M2 (Nat.le_succ N))
      obtain ⟨lv0, hv0, hr0⟩ := hG0.list
      obtain ⟨lv, hv, hr⟩ := GP.out.list
      have hv1 : W2.heap[bl]? = some (.cells #[lv0] 141 (0, 0)) := k2 (k1 ((b23.block bl (Nat.lt_of_lt_of_le (Array.getElem?_eq_some_iff.1 hv0).1 (by simp))).trans ((Below.heap_alloc _ _ _ (Array.getElem?_eq_some_iff.1 hv0).1).trans hv0)) hG0.ne.2.2.2.2.1) hG0.ne.2.2.2.2.1
      rw [hv1] at hv
      injection hv with hv
      injection hv with hv _ _
      simp only [Array.mk.injEq, List.cons.injEq, and_true] at hv
      subst hv
      have hv := hv1
      have NEB : Hid (some W.heap.size ≠ lv0.ownBlock) := hid (fun e => by have := (hr0.lt _ e.symm).2; omega)
      have NB : Hid (W.heap.size ≠ bl) := hid (by have := (Array.getElem?_eq_some_iff.1 hv0).1; omega)
      have HV := hid hv
      have HR := hid hr
      have lbl : W2.cell? ⟨bl, 0, none⟩ = some lv0 := (cell_of_row _ _ _ _ 141 (0, 0) hv).trans rfl
      have FEW : Hid (acc.length ≤ N) := hid hG0.few
      have CN := hid hcN
      have S2c := S2
      obtain ⟨s20, s21, s22⟩ := S2c
      have hcB : (c : Int) ≤ 1099511627776 := by have := HNs.out; omega
      clear G3 X3 b3 b23 XB0 M2 g1 g2 k1 k2 hv hv0 hv1 hr0 hr sS hrok hcN
      cases hin : rIn acc (x.name, ago) with
      | false =>
        obtain rfl : c = 0 := hc0.2 hin
        have OWN : Hid (ownRefs x ago acc = acc ++ [(x.name, ago)]) := hid (by rw [OWN0.out]; unfold addR; rw [hin]; rfl)
        simp only [show ((0 : Nat) : Int) = 0 from rfl, Int.zero_add] at l0 m1 l1 s1 l2
        have hw1 : IntKind.i64.wrap 1 = 1 := by decide
        have b7 := (Below.refl W2.heap.size W2).alloc (Nat.le_refl _) (.cells #[.string x.name, .int .i64 (ago : Int)] 109)
        have eadd : addR acc (x.name, ago) = acc ++ [(x.name, ago)] := by unfold addR; rw [hin]; rfl
        have GP7h := GP.out.step b7
        rw [eadd] at GP7h
        have GP7 := hid GP7h
        clear GP7h eadd
        have HV7 := hid ((b7.block _ (Array.getElem?_eq_some_iff.1 HV.out).1).trans HV.out)
        have HR7 := hid (ownsRow_below HR.out b7)
        have XB7 := hid ((b7.block _ (Array.getElem?_eq_some_iff.1 XB.out).1).trans XB.out)
        have LTB := hid (Array.getElem?_eq_some_iff.1 XB7.out).1
        have FEW2 : Hid (acc.length + 1 ≤ N + 1) := hid (Nat.succ_le_succ FEW.out)
        have ORD := hid (GP7.out.ord.2.2.2.2.2.2.2.2)
        have FEW : Hid (acc.length + 1 ≤ 1099511627776) := hid (by have := FEW.out; have := HNs.out; have := cnt_pos (k + 1) x; omega)
        clear b7
        refine wp_region_held_drew (S := fun V => V.cell? ⟨bs, 0, none⟩ = some (.map (some mb)) ∧ V.cell? ⟨w2.heap.size, 0, none⟩ = some (.string x.name) ∧ V.cell? ⟨w2.heap.size, 1, none⟩ = some (.int .i64 (ago : Int))) (by kernel_rfl) ?_ (fun hHeld => ?_)
        · exact S0
        refine wpAnyH_take (i := 0) (oi := { dst := some 19, op := Go.Op.load 162 (Go.Operand.tmp 2), type := 162, pos := _, after := #[], guard := none }) (v := ?_) rfl (by kernel_rfl) (by kernel_rfl) (by kernel_rfl) (fun _ _ _ h => h) (Or.inl ⟨by rfl, ?_⟩) (by assumption) ?_
        rotate_left
        · intro w hSw; (try dsimp only at hSw); go_simp <;> with_reducible rfl
        simp only [Act.put, List.setIfInBounds_toArray, List.set_cons_zero, List.set_cons_succ]
        refine wpAnyH_take (i := 1) (oi := { dst := some 20, op := Go.Op.load 109 (Go.Operand.tmp 7), type := 109, pos := _, after := #[], guard := none }) (v := ?_) rfl (by kernel_rfl) (by kernel_rfl) (by kernel_rfl) (fun _ _ _ h => h) (Or.inl ⟨by rfl, ?_⟩) (by assumption) ?_
        rotate_left
        · intro w hSw; (try dsimp only at hSw); go_simp <;> with_reducible rfl
        simp only [Act.put, List.setIfInBounds_toArray, List.set_cons_zero, List.set_cons_succ]
        refine wpAnyH_ready (rs := [2, 4]) (by kernel_rfl) (by simp) ?_
        refine AllReadyH.cons (o := { dst := some 21, op := Go.Op.lookup 162 (Go.Operand.tmp 19) (Go.Operand.tmp 20) false, type := 3, pos := _, after := #[{ on := 0, ground := Go.Ground.data }, { on := 1, ground := Go.Ground.data }], guard := none }) rfl (fun K hK => ?_) (AllReadyH.cons (o := { dst := some 23, op := Go.Op.mapEntry 162 (Go.Operand.tmp 19) (Go.Operand.tmp 20), type := 0, pos := _, after := #[{ on := 0, ground := Go.Ground.data }, { on := 1, ground := Go.Ground.data }, { on := 0, ground := Go.Ground.phase }, { on := 1, ground := Go.Ground.phase }, { on := 2, ground := Go.Ground.textOnly Go.Departure.mapOpAssignEntry }, { on := 3, ground := Go.Ground.textOnly Go.Departure.mapOpAssignEntry }], guard := none }) rfl (fun K hK => ?_) AllReadyH.nil)
        · go_simp
          refine hK.out _ _ S0 (fun _ => ?_)
          clear hK K
          refine wpAnyH_take (i := 3) (oi := { dst := some 22, op := Go.Op.binOp Go.BinOp.add 3 (Go.Operand.tmp 21) (Go.Operand.const (Go.Value.int Go.IntKind.i64 1)) 3, type := 3, pos := _, after := #[{ on := 2, ground := Go.Ground.data }], guard := none }) (v := ?_) rfl (by kernel_rfl) (by kernel_rfl) (by kernel_rfl) (fun _ _ _ h => h) (Or.inl ⟨by rfl, ?_⟩) (by assumption) ?_
          rotate_left
          · intro w hSw; (try dsimp only at hSw); go_simp <;> with_reducible rfl
          simp only [Act.put, List.setIfInBounds_toArray, List.set_cons_zero, List.set_cons_succ]
          refine wpAnyH_ready (rs := [4]) (by kernel_rfl) (by simp) ?_
          refine AllReadyH.cons (o := { dst := some 23, op := Go.Op.mapEntry 162 (Go.Operand.tmp 19) (Go.Operand.tmp 20), type := 0, pos := _, after := #[{ on := 0, ground := Go.Ground.data }, { on := 1, ground := Go.Ground.data }, { on := 0, ground := Go.Ground.phase }, { on := 1, ground := Go.Ground.phase }, { on := 2, ground := Go.Ground.textOnly Go.Departure.mapOpAssignEntry }, { on := 3, ground := Go.Ground.textOnly Go.Departure.mapOpAssignEntry }], guard := none }) rfl (fun K hK => ?_) AllReadyH.nil
          go_simp
          refine hK.out _ _ S1 (fun _ => ?_)
          clear hK K
          refine wpAnyH_take (i := 5) (oi := { dst := some 24, op := Go.Op.extract (Go.Operand.tmp 23) 1, type := 3, pos := _, after := #[{ on := 4, ground := Go.Ground.data }], guard := none }) (v := ?_) rfl (by kernel_rfl) (by kernel_rfl) (by kernel_rfl) (fun _ _ _ h => h) (Or.inl ⟨by rfl, ?_⟩) (by assumption) ?_
          rotate_left
          · intro w hSw; (try dsimp only at hSw); go_simp <;> with_reducible rfl
          simp only [Act.put, List.setIfInBounds_toArray, List.set_cons_zero, List.set_cons_succ]
          refine wpAnyH_ready (rs := [6]) (by kernel_rfl) (by simp) ?_
          refine AllReadyH.cons (o := { dst := none, op := Go.Op.entryStore 162 (Go.Operand.tmp 19) (Go.Operand.tmp 24) (Go.Operand.tmp 22), type := 0, pos := _, after := #[{ on := 0, ground := Go.Ground.data }, { on := 5, ground := Go.Ground.data }, { on := 3, ground := Go.Ground.data }, { on := 4, ground := Go.Ground.chain }, { on := 0, ground := Go.Ground.phase }, { on := 1, ground := Go.Ground.phase }, { on := 2, ground := Go.Ground.phase }, { on := 3, ground := Go.Ground.phase }, { on := 4, ground := Go.Ground.phase }, { on := 5, ground := Go.Ground.phase }], guard := none }) rfl (fun K hK => ?_) AllReadyH.nil
          go_simp
          refine hK.out _ _ S2 (fun _ => ?_)
          clear hK K
          refine wpAnyH_done (by kernel_rfl) ?_ _
          go_wp2_with (first
            | (obtain ⟨ie, hie, hz, hsz⟩ := inf51; refine wpList_buildSlice rfl 141 109 1 _ rfl (rV (x.name, ago)) ie (.agg #[.string ByteArray.empty, .int .i64 0]) Tryd.underlying141 hie hz (by rw [hsz]; decide) (by rw [hsz]; decide) (by rw [hsz]; simp only [List.map_toArray, List.map_cons, List.map_nil]; exact fill51 (x.name, ago)) ?_; clear hie hz hsz)
            | (at_builtin; refine wpList_append_own _ rfl (.tmp 29) (.tmp 31) 141 rfl b0 109 i0 (.agg #[.string ByteArray.empty, .int .i64 0]) 2 24 Tryd.underlying141 hi hi0 hi1 hi2 rfl (by decide) _ _ _ rfl HR7.out ⟨W2.heap.size, 0, none⟩ 1 1 [.string x.name, .int .i64 (ago : Int)] rfl rfl (two_new _ _ _) (by simp [Value.oneCell']) (by have := FEW.out; unfold maxLen; omega) (by have := FEW.out; omega) ORD.out ?_; intro v' w' hown1 hgrow1 _; obtain ⟨gv, cv, rfl⟩ := own_slice hown1; obtain ⟨hbl, gi⟩ := GP7.out.push (r := (x.name, ago)) HV7.out HR7.out hgrow1 hown1 FEW2.out; have t0 : w'.cell? ⟨bl, 0, none⟩ = some lv0 := (cell_of_row _ _ _ _ 141 (0, 0) hbl).trans rfl; have t1 : w'.frozen? ⟨bl, 0, none⟩ = false := frozen_of_row _ _ _ _ _ hbl; have GF := hid gi; have XF := hid ((Below.heap_setCell w' ⟨bl, 0, none⟩ (.slice (some ⟨gv, 0, none⟩) (acc.length + 1) cv) W.heap.size NB.out).trans ((hgrow1.block _ LTB.out NEB.out).trans XB7.out)); clear hown1 hgrow1 gi))
          go_meet
          case rel => exact ⟨by rw [NA.out], by rw [OWN.out]; exact GF, XF⟩
        · go_simp
          refine hK.out _ _ S1 (fun _ => ?_)
          clear hK K
          refine wpAnyH_take (i := 5) (oi := { dst := some 24, op := Go.Op.extract (Go.Operand.tmp 23) 1, type := 3, pos := _, after := #[{ on := 4, ground := Go.Ground.data }], guard := none }) (v := ?_) rfl (by kernel_rfl) (by kernel_rfl) (by kernel_rfl) (fun _ _ _ h => h) (Or.inl ⟨by rfl, ?_⟩) (by assumption) ?_
          rotate_left
          · intro w hSw; (try dsimp only at hSw); go_simp <;> with_reducible rfl
          simp only [Act.put, List.setIfInBounds_toArray, List.set_cons_zero, List.set_cons_succ]
          refine wpAnyH_ready (rs := [2]) (by kernel_rfl) (by simp) ?_
          refine AllReadyH.cons (o := { dst := some 21, op := Go.Op.lookup 162 (Go.Operand.tmp 19) (Go.Operand.tmp 20) false, type := 3, pos := _, after := #[{ on := 0, ground := Go.Ground.data }, { on := 1, ground := Go.Ground.data }], guard := none }) rfl (fun K hK => ?_) AllReadyH.nil
          go_simp
          refine hK.out _ _ S1 (fun _ => ?_)
          clear hK K
          refine wpAnyH_take (i := 3) (oi := { dst := some 22, op := Go.Op.binOp Go.BinOp.add 3 (Go.Operand.tmp 21) (Go.Operand.const (Go.Value.int Go.IntKind.i64 1)) 3, type := 3, pos := _, after := #[{ on := 2, ground := Go.Ground.data }], guard := none }) (v := ?_) rfl (by kernel_rfl) (by kernel_rfl) (by kernel_rfl) (fun _ _ _ h => h) (Or.inl ⟨by rfl, ?_⟩) (by assumption) ?_
          rotate_left
          · intro w hSw; (try dsimp only at hSw); go_simp <;> with_reducible rfl
          simp only [Act.put, List.setIfInBounds_toArray, List.set_cons_zero, List.set_cons_succ]
          refine wpAnyH_ready (rs := [6]) (by kernel_rfl) (by simp) ?_
          refine AllReadyH.cons (o := { dst := none, op := Go.Op.entryStore 162 (Go.Operand.tmp 19) (Go.Operand.tmp 24) (Go.Operand.tmp 22), type := 0, pos := _, after := #[{ on := 0, ground := Go.Ground.data }, { on := 5, ground := Go.Ground.data }, { on := 3, ground := Go.Ground.data }, { on := 4, ground := Go.Ground.chain }, { on := 0, ground := Go.Ground.phase }, { on := 1, ground := Go.Ground.phase }, { on := 2, ground := Go.Ground.phase }, { on := 3, ground := Go.Ground.phase }, { on := 4, ground := Go.Ground.phase }, { on := 5, ground := Go.Ground.phase }], guard := none }) rfl (fun K hK => ?_) AllReadyH.nil
          go_simp
          refine hK.out _ _ S2 (fun _ => ?_)
          clear hK K
          refine wpAnyH_done (by kernel_rfl) ?_ _
          go_wp2_with (first
            | (obtain ⟨ie, hie, hz, hsz⟩ := inf51; refine wpList_buildSlice rfl 141 109 1 _ rfl (rV (x.name, ago)) ie (.agg #[.string ByteArray.empty, .int .i64 0]) Tryd.underlying141 hie hz (by rw [hsz]; decide) (by rw [hsz]; decide) (by rw [hsz]; simp only [List.map_toArray, List.map_cons, List.map_nil]; exact fill51 (x.name, ago)) ?_; clear hie hz hsz)
            | (at_builtin; refine wpList_append_own _ rfl (.tmp 29) (.tmp 31) 141 rfl b0 109 i0 (.agg #[.string ByteArray.empty, .int .i64 0]) 2 24 Tryd.underlying141 hi hi0 hi1 hi2 rfl (by decide) _ _ _ rfl HR7.out ⟨W2.heap.size, 0, none⟩ 1 1 [.string x.name, .int .i64 (ago : Int)] rfl rfl (two_new _ _ _) (by simp [Value.oneCell']) (by have := FEW.out; unfold maxLen; omega) (by have := FEW.out; omega) ORD.out ?_; intro v' w' hown1 hgrow1 _; obtain ⟨gv, cv, rfl⟩ := own_slice hown1; obtain ⟨hbl, gi⟩ := GP7.out.push (r := (x.name, ago)) HV7.out HR7.out hgrow1 hown1 FEW2.out; have t0 : w'.cell? ⟨bl, 0, none⟩ = some lv0 := (cell_of_row _ _ _ _ 141 (0, 0) hbl).trans rfl; have t1 : w'.frozen? ⟨bl, 0, none⟩ = false := frozen_of_row _ _ _ _ _ hbl; have GF := hid gi; have XF := hid ((Below.heap_setCell w' ⟨bl, 0, none⟩ (.slice (some ⟨gv, 0, none⟩) (acc.length + 1) cv) W.heap.size NB.out).trans ((hgrow1.block _ LTB.out NEB.out).trans XB7.out)); clear hown1 hgrow1 gi))
          go_meet
          case rel => exact ⟨by rw [NA.out], by rw [OWN.out]; exact GF, XF⟩
      | true =>
        have OWN : Hid (ownRefs x ago acc = acc) := hid (by rw [OWN0.out]; unfold addR; rw [hin]; rfl)
        have GPo : Hid (GI w0 bs bl bg mb b0 acc acc (N + 1) W2) := by
          have h := GP.out
          have e : addR acc (x.name, ago) = acc := by unfold addR; rw [hin]; rfl
          rw [e] at h
          exact hid h
        have hc1 : 1 ≤ c := by
          by_cases e : c = 0
          · rw [hc0.1 e] at hin; cases hin
          · omega
        have hc1' : (1 : Int) ≤ (c : Int) := by omega
        have hcc : (((c : Int) + 1) == 1) = false := by simp; omega
        have hw1 : IntKind.i64.wrap ((c : Int) + 1) = (c : Int) + 1 := by rw [IntKind.wrap_i64]; omega
        refine wp_region_held_drew (S := fun V => V.cell? ⟨bs, 0, none⟩ = some (.map (some mb)) ∧ V.cell? ⟨w2.heap.size, 0, none⟩ = some (.string x.name) ∧ V.cell? ⟨w2.heap.size, 1, none⟩ = some (.int .i64 (ago : Int))) (by kernel_rfl) ?_ (fun hHeld => ?_)
        · exact S0
        refine wpAnyH_take (i := 0) (oi := { dst := some 19, op := Go.Op.load 162 (Go.Operand.tmp 2), type := 162, pos := _, after := #[], guard := none }) (v := ?_) rfl (by kernel_rfl) (by kernel_rfl) (by kernel_rfl) (fun _ _ _ h => h) (Or.inl ⟨by rfl, ?_⟩) (by assumption) ?_
        rotate_left
        · intro w hSw; (try dsimp only at hSw); go_simp <;> with_reducible rfl
        simp only [Act.put, List.setIfInBounds_toArray, List.set_cons_zero, List.set_cons_succ]
        refine wpAnyH_take (i := 1) (oi := { dst := some 20, op := Go.Op.load 109 (Go.Operand.tmp 7), type := 109, pos := _, after := #[], guard := none }) (v := ?_) rfl (by kernel_rfl) (by kernel_rfl) (by kernel_rfl) (fun _ _ _ h => h) (Or.inl ⟨by rfl, ?_⟩) (by assumption) ?_
        rotate_left
        · intro w hSw; (try dsimp only at hSw); go_simp <;> with_reducible rfl
        simp only [Act.put, List.setIfInBounds_toArray, List.set_cons_zero, List.set_cons_succ]
        refine wpAnyH_ready (rs := [2, 4]) (by kernel_rfl) (by simp) ?_
        refine AllReadyH.cons (o := { dst := some 21, op := Go.Op.lookup 162 (Go.Operand.tmp 19) (Go.Operand.tmp 20) false, type := 3, pos := _, after := #[{ on := 0, ground := Go.Ground.data }, { on := 1, ground := Go.Ground.data }], guard := none }) rfl (fun K hK => ?_) (AllReadyH.cons (o := { dst := some 23, op := Go.Op.mapEntry 162 (Go.Operand.tmp 19) (Go.Operand.tmp 20), type := 0, pos := _, after := #[{ on := 0, ground := Go.Ground.data }, { on := 1, ground := Go.Ground.data }, { on := 0, ground := Go.Ground.phase }, { on := 1, ground := Go.Ground.phase }, { on := 2, ground := Go.Ground.textOnly Go.Departure.mapOpAssignEntry }, { on := 3, ground := Go.Ground.textOnly Go.Departure.mapOpAssignEntry }], guard := none }) rfl (fun K hK => ?_) AllReadyH.nil)
        · go_simp
          refine hK.out _ _ S0 (fun _ => ?_)
          clear hK K
          refine wpAnyH_take (i := 3) (oi := { dst := some 22, op := Go.Op.binOp Go.BinOp.add 3 (Go.Operand.tmp 21) (Go.Operand.const (Go.Value.int Go.IntKind.i64 1)) 3, type := 3, pos := _, after := #[{ on := 2, ground := Go.Ground.data }], guard := none }) (v := ?_) rfl (by kernel_rfl) (by kernel_rfl) (by kernel_rfl) (fun _ _ _ h => h) (Or.inl ⟨by rfl, ?_⟩) (by assumption) ?_
          rotate_left
          · intro w hSw; (try dsimp only at hSw); go_simp <;> with_reducible rfl
          simp only [Act.put, List.setIfInBounds_toArray, List.set_cons_zero, List.set_cons_succ]
          refine wpAnyH_ready (rs := [4]) (by kernel_rfl) (by simp) ?_
          refine AllReadyH.cons (o := { dst := some 23, op := Go.Op.mapEntry 162 (Go.Operand.tmp 19) (Go.Operand.tmp 20), type := 0, pos := _, after := #[{ on := 0, ground := Go.Ground.data }, { on := 1, ground := Go.Ground.data }, { on := 0, ground := Go.Ground.phase }, { on := 1, ground := Go.Ground.phase }, { on := 2, ground := Go.Ground.textOnly Go.Departure.mapOpAssignEntry }, { on := 3, ground := Go.Ground.textOnly Go.Departure.mapOpAssignEntry }], guard := none }) rfl (fun K hK => ?_) AllReadyH.nil
          go_simp
          refine hK.out _ _ S1 (fun _ => ?_)
          clear hK K
          refine wpAnyH_take (i := 5) (oi := { dst := some 24, op := Go.Op.extract (Go.Operand.tmp 23) 1, type := 3, pos := _, after := #[{ on := 4, ground := Go.Ground.data }], guard := none }) (v := ?_) rfl (by kernel_rfl) (by kernel_rfl) (by kernel_rfl) (fun _ _ _ h => h) (Or.inl ⟨by rfl, ?_⟩) (by assumption) ?_
          rotate_left
          · intro w hSw; (try dsimp only at hSw); go_simp <;> with_reducible rfl
          simp only [Act.put, List.setIfInBounds_toArray, List.set_cons_zero, List.set_cons_succ]
          refine wpAnyH_ready (rs := [6]) (by kernel_rfl) (by simp) ?_
          refine AllReadyH.cons (o := { dst := none, op := Go.Op.entryStore 162 (Go.Operand.tmp 19) (Go.Operand.tmp 24) (Go.Operand.tmp 22), type := 0, pos := _, after := #[{ on := 0, ground := Go.Ground.data }, { on := 5, ground := Go.Ground.data }, { on := 3, ground := Go.Ground.data }, { on := 4, ground := Go.Ground.chain }, { on := 0, ground := Go.Ground.phase }, { on := 1, ground := Go.Ground.phase }, { on := 2, ground := Go.Ground.phase }, { on := 3, ground := Go.Ground.phase }, { on := 4, ground := Go.Ground.phase }, { on := 5, ground := Go.Ground.phase }], guard := none }) rfl (fun K hK => ?_) AllReadyH.nil
          go_simp
          refine hK.out _ _ S2 (fun _ => ?_)
          clear hK K
          refine wpAnyH_done (by kernel_rfl) ?_ _
          go_wp2
          go_meet
          case rel => exact ⟨by rw [NA.out], by rw [OWN.out]; exact GPo, XB⟩
        · go_simp
          refine hK.out _ _ S1 (fun _ => ?_)
          clear hK K
          refine wpAnyH_take (i := 5) (oi := { dst := some 24, op := Go.Op.extract (Go.Operand.tmp 23) 1, type := 3, pos := _, after := #[{ on := 4, ground := Go.Ground.data }], guard := none }) (v := ?_) rfl (by kernel_rfl) (by kernel_rfl) (by kernel_rfl) (fun _ _ _ h => h) (Or.inl ⟨by rfl, ?_⟩) (by assumption) ?_
          rotate_left
          · intro w hSw; (try dsimp only at hSw); go_simp <;> with_reducible rfl
          simp only [Act.put, List.setIfInBounds_toArray, List.set_cons_zero, List.set_cons_succ]
          refine wpAnyH_ready (rs := [2]) (by kernel_rfl) (by simp) ?_
          refine AllReadyH.cons (o := { dst := some 21, op := Go.Op.lookup 162 (Go.Operand.tmp 19) (Go.Operand.tmp 20) false, type := 3, pos := _, after := #[{ on := 0, ground := Go.Ground.data }, { on := 1, ground := Go.Ground.data }], guard := none }) rfl (fun K hK => ?_) AllReadyH.nil
          go_simp
          refine hK.out _ _ S1 (fun _ => ?_)
          clear hK K
          refine wpAnyH_take (i := 3) (oi := { dst := some 22, op := Go.Op.binOp Go.BinOp.add 3 (Go.Operand.tmp 21) (Go.Operand.const (Go.Value.int Go.IntKind.i64 1)) 3, type := 3, pos := _, after := #[{ on := 2, ground := Go.Ground.data }], guard := none }) (v := ?_) rfl (by kernel_rfl) (by kernel_rfl) (by kernel_rfl) (fun _ _ _ h => h) (Or.inl ⟨by rfl, ?_⟩) (by assumption) ?_
          rotate_left
          · intro w hSw; (try dsimp only at hSw); go_simp <;> with_reducible rfl
          simp only [Act.put, List.setIfInBounds_toArray, List.set_cons_zero, List.set_cons_succ]
          refine wpAnyH_ready (rs := [6]) (by kernel_rfl) (by simp) ?_
          refine AllReadyH.cons (o := { dst := none, op := Go.Op.entryStore 162 (Go.Operand.tmp 19) (Go.Operand.tmp 24) (Go.Operand.tmp 22), type := 0, pos := _, after := #[{ on := 0, ground := Go.Ground.data }, { on := 5, ground := Go.Ground.data }, { on := 3, ground := Go.Ground.data }, { on := 4, ground := Go.Ground.chain }, { on := 0, ground := Go.Ground.phase }, { on := 1, ground := Go.Ground.phase }, { on := 2, ground := Go.Ground.phase }, { on := 3, ground := Go.Ground.phase }, { on := 4, ground := Go.Ground.phase }, { on := 5, ground := Go.Ground.phase }], guard := none }) rfl (fun K hK => ?_) AllReadyH.nil
          go_simp
          refine hK.out _ _ S2 (fun _ => ?_)
          clear hK K
          refine wpAnyH_done (by kernel_rfl) ?_ _
          go_wp2
          go_meet
          case rel => exact ⟨by rw [NA.out], by rw [OWN.out]; exact GPo, XB⟩
    · by_cases h19 : x.op = 19
      · have NA : Hid (nextAgo x ago = ago + 1) := hid (by unfold nextAgo; rw [if_pos h19])
        have OWN : Hid (ownRefs x ago acc = acc) := hid (by unfold ownRefs; rw [if_neg h3])
        have hop3 : ((x.op : Int) == 3) = false := by simp; omega
        have hop19 : ((x.op : Int) == 19) = true := by simp [h19]
        have hab : (ago : Int) ≤ 1099511627776 := by omega
        have GF := hid (G5.out.mono (Nat.le_succ N))
        clear ih hc hs hS hG hG0 b5 hop hn hnm hlen hcap hago hN hNm h3 h19 hK1 G5
        go_wp2
        go_meet
        case rel => exact ⟨by rw [NA.out]; go_num, by rw [OWN.out]; exact GF, X5h⟩
      · have NA : Hid (nextAgo x ago = ago) := hid (by unfold nextAgo; rw [if_neg h19])
        have OWN : Hid (ownRefs x ago acc = acc) := hid (by unfold ownRefs; rw [if_neg h3])
        have hop3 : ((x.op : Int) == 3) = false := by simp; omega
        have hop19 : ((x.op : Int) == 19) = false := by simp; omega
        have GF := hid (G5.out.mono (Nat.le_succ N))
        clear ih hc hs hS hG hG0 b5 hop hn hnm hlen hcap hago hN hNm h3 h19 hK1 G5
        go_wp2
        go_meet
        case rel => exact ⟨by rw [NA.out], by rw [OWN.out]; exact GF, X5h⟩
/-- The closure of Refs, whatever it is called with. -/
theorem gather_any : ∀ k, GatC k
  | 0 => fun _ _ _ _ _ _ _ _ _ _ _ _ _ h => h.elim
  | k + 1 => gather_of k (gather_any k)
end Go.Proofs.YtdenddknbmiboaaDoor.Lex
namespace Go.Proofs.YtdenddknbmiboaaDoor.Lex
open Go.ChangeShapes Go.WideShapes Go.ChangeAt Go.RowKit Go.Joins Go.WideMaps Go.WideElems Go.Maps
theorem push_old {w : World} {b : Nat} {o o' : Obj} (h : w.heap[b]? = some o) : (w.alloc o').heap[b]? = some o := (Below.heap_alloc _ _ _ (Array.getElem?_eq_some_iff.1 h).1).trans h
theorem push_new (w : World) (o : Obj) (n : Nat) (h : w.heap.size = n) : (w.alloc o).heap[n]? = some o := by subst h; exact (MapKept.heap_alloc w o).1
theorem gi_start (w : World) (c : Array Value) : GI w (w.heap.size + 1 + 1 + 1) (w.heap.size + 1) (w.heap.size + 1 + 1 + 1 + 1) (w.heap.size + 1 + 1) (w.heap.size + 5) [] [] 0 (((((w.alloc (.cells c 70)).alloc (.cells #[.slice none 0 0] 141)).alloc (.map #[] 0)).alloc (.cells #[.map (some (w.heap.size + 1 + 1))] 162)).alloc (.cells #[.func (.func 86) #[] #[ptr (w.heap.size + 1 + 1 + 1), ptr (w.heap.size + 1), ptr (w.heap.size + 1 + 1 + 1 + 1)]] 92)) := by
  have s1 : (w.alloc (.cells c 70)).heap.size = w.heap.size + 1 := by simp
  have s2 : ((w.alloc (.cells c 70)).alloc (.cells #[.slice none 0 0] 141)).heap.size = w.heap.size + 1 + 1 := by simp
  have s3 : (((w.alloc (.cells c 70)).alloc (.cells #[.slice none 0 0] 141)).alloc (.map #[] 0)).heap.size = w.heap.size + 1 + 1 + 1 := by simp
  have s4 : ((((w.alloc (.cells c 70)).alloc (.cells #[.slice none 0 0] 141)).alloc (.map #[] 0)).alloc (.cells #[.map (some (w.heap.size + 1 + 1))] 162)).heap.size = w.heap.size + 1 + 1 + 1 + 1 := by simp
  have b1 := (Below.refl w.heap.size w).alloc (Nat.le_refl _) (.cells c 70)
  have b2 := bstep b1 ((Below.refl _ _).alloc (Nat.le_refl _) (.cells #[.slice none 0 0] 141))
  have b3 := bstep b2 ((Below.refl _ _).alloc (Nat.le_refl _) (.map #[] 0))
  have b4 := bstep b3 ((Below.refl _ _).alloc (Nat.le_refl _) (.cells #[.map (some (w.heap.size + 1 + 1))] 162))
  have b5 := bstep b4 ((Below.refl _ _).alloc (Nat.le_refl _) (.cells #[.func (.func 86) #[] #[ptr (w.heap.size + 1 + 1 + 1), ptr (w.heap.size + 1), ptr (w.heap.size + 1 + 1 + 1 + 1)]] 92))
  refine ⟨b5, push_old (push_new _ _ _ s3), push_new _ _ _ s4, ⟨_, push_old (push_old (push_old (push_new _ _ _ s1))), ⟨rfl, .inl ⟨rfl, rfl⟩⟩⟩, SeenM.none _ _ (push_old (push_old (push_new _ _ _ s2))), Nat.le_refl _, ⟨by omega, by omega, by omega, by omega, by omega, by omega, by omega, by omega, by simp⟩, ⟨by omega, by omega, by omega, by omega, by omega, by omega⟩⟩
set_option maxRecDepth 100000 in
set_option maxHeartbeats 1000000 in
theorem refs (k : Nat) (x : Ex) (s : Value) (w : World) (hS : St w x s) (hNm : NmOk k x) (hk : k ≤ 1099511627776) (hc : cnt k x ≤ 1099511627776) : Calls Tryd.prog 65 #[exV x s] w fun e w' => ∃ v, e = .returned v ∧ w'.ownsRow w.heap.size 109 2 v (gat k x 0 []).length (refsV (gat k x 0 [])) ∧ Below w.heap.size w w' := by
  obtain ⟨ao, cap, sl, rfl, _⟩ := hS.out
  have hmm := @run_makeMap Tryd.prog
  have hmf : ∀ (fn : Fn) (first cap : Array Value) (w : World), (Instr.makeFunc fn first cap).run Tryd.prog w = .ok (.func fn first cap) w := fun _ _ _ _ => rfl
  have c37 := gather_any k x (.slice ao x.args.length cap) 0 w _ _ _ _ _ _ 0 [] hS hNm (by omega) (by omega) (gi_start w (ex4 x (.slice ao x.args.length cap)))
  generalize hL : gat k x 0 [] = L at *
  generalize hN : cnt k x = N at *
  clear hS hNm hk hc hL hN
  go_enter Tryd.func65, Tryd.ntmps65
  go_wp2_with (go_at_call 86; refine c37.mono ?_; rintro e w2 ⟨rfl, g2⟩; obtain ⟨v, hv, hr⟩ := g2.list; have t0 : w2.cell? ⟨w.heap.size + 1, 0, none⟩ = some v := (cell_of_row _ _ _ _ 141 (0, 0) hv).trans rfl; have HR := hid hr; have HB := hid g2.below; clear g2 hv hr c37)
  go_ret
  exact ⟨v, rfl, ownsRow_mono HR.out (by omega), HB.out⟩
end Go.Proofs.YtdenddknbmiboaaDoor.Lex
namespace Go.Proofs.YtdenddknbmiboaaDoor.Lex
open Go.ChangeShapes Go.WideShapes Go.ChangeAt Go.RowKit Go.Joins
theorem run_copy_str {P : Program} (w : World) (dT sT ty elem : TypeId) (g dLen dCap : Nat) (cur : Array Value) (t : TypeId) (s : ByteArray) (hu : P.underlying dT = some (.slice elem)) (hs : (P.info? elem).map (·.size) = some 1)
    (hg : w.heap[g]? = some (.cells cur t (0, 0))) (hn : s.size ≤ dLen) (hfit : s.size ≤ cur.size) :
    (Builtin.copy_ #[dT, sT] ty #[.slice (some ⟨g, 0, none⟩) dLen dCap, .string s]).run P w = .ok (goInt s.size) (w.setRow g (s.data.toList.map byV ++ cur.toList.drop s.size).toArray) := by
  have hst := run_storeCells_at P g 0 t (s.data.toList.map byV) 0 cur w hg (by rw [List.length_map, Array.length_toList]; simpa using hfit) (fun v hv => by obtain ⟨b, _, rfl⟩ := List.mem_map.1 hv; rfl)
  have hm : Nat.min s.size dLen = s.size := Nat.min_eq_left hn
  have hf : (Builtin.firstCells 1 s.size (.string s)).run P w = .ok (s.data.map fun b => .int .u8 (b.toNat : Int)) w := by
    have he : (s.extract 0 s.size) = s := by simp
    show Result.ok ((s.extract 0 s.size).data.map fun b => Value.int .u8 (b.toNat : Int)) w = _
    rw [he]
  have e2 : (Array.map (fun b : UInt8 => Value.int .u8 (b.toNat : Int)) s.data).toList = s.data.toList.map byV := by simp only [Array.toList_map]; rfl
  cases hq : P.info? elem with
  | none => simp [hq] at hs
  | some i =>
    have hi : i.size = 1 := by simpa [hq] using hs
    simp only [Nat.zero_add, Nat.add_zero, List.take_zero, List.nil_append, List.length_map, Array.length_toList] at hst
    have hsz : (sizeOf elem).run P w = .ok 1 w := by simp [sizeOf, typeInfo, hq, hi]
    have hst2 : (storeCells ⟨g, 0, none⟩ (s.data.toList.map byV)).run P w = .ok () (w.setRow g (s.data.toList.map byV ++ cur.toList.drop s.size).toArray) := hst
    simp only [Builtin.copy_, List.getElem?_toArray, List.getElem?_cons_zero, List.getElem?_cons_succ, Sem.run_bind, Sem.run_pure, run_underlying hu, Builtin.lenOf, Result.andThen_ok, hsz, hm, hf, e2, hst2]
abbrev zK : Array Value := #[.int .u8 0, .int .u8 0, .int .u8 0, .int .u8 0, .int .u8 0, .int .u8 0, .int .u8 0, .int .u8 0, .int .u8 0, .int .u8 0, .int .u8 0, .int .u8 0, .int .u8 0, .int .u8 0, .int .u8 0, .int .u8 0, .int .u8 0, .int .u8 0, .int .u8 0, .int .u8 0, .int .u8 0, .int .u8 0, .int .u8 0, .int .u8 0, .int .u8 0, .int .u8 0, .int .u8 0, .int .u8 0, .int .u8 0, .int .u8 0, .int .u8 0, .int .u8 0, .int .u8 0, .int .u8 0, .int .u8 0, .int .u8 0, .int .u8 0, .int .u8 0, .int .u8 0, .int .u8 0]
theorem kV_size {nm : ByteArray} (h : nm.size ≤ 40) : (kC nm).toArray.size = 40 := by rw [List.size_toArray, kC_len h]
theorem infK : (Tryd.prog.info? 144).map (·.size) = some 40 := by kernel_rfl
theorem inf5 : (Tryd.prog.info? 5).map (·.size) = some 1 := by kernel_rfl
theorem kC_oneCell (nm : ByteArray) : (kC nm).toArray.all (·.oneCell') = true := by
  rw [Array.all_eq_true_iff_forall_mem]
  intro x hx
  obtain ⟨b, rfl⟩ := kC_one nm x (by simpa using hx)
  rfl
set_option maxRecDepth 100000 in
set_option maxHeartbeats 1000000 in
theorem key_of (nm : ByteArray) (w : World) (h : nm.size ≤ 40) : Calls Tryd.prog 66 #[.string nm] w fun e w' => e = .returned (kV nm) ∧ Below w.heap.size w w' := by
  have hb2 : Below w.heap.size w ((w.alloc (.cells zK 144)).alloc (.cells zK 144)) := ((Below.refl _ w).alloc (Nat.le_refl _) _).alloc (by simp) _
  have h0 : ((w.alloc (.cells zK 144)).alloc (.cells zK 144)).heap[w.heap.size]? = some (.cells zK 144 (0, 0)) := push_old (heap_alloc_new w _)
  have h1 : ((w.alloc (.cells zK 144)).alloc (.cells zK 144)).heap[w.heap.size + 1]? = some (.cells zK 144 (0, 0)) := by
    have := heap_alloc_new (w.alloc (.cells zK 144)) (.cells zK 144)
    rwa [World.size_alloc] at this
  obtain ⟨W3, hrun, r0, r1, hb3⟩ : ∃ W3, (Builtin.copy_ #[163, 9] 3 #[.slice (some ⟨w.heap.size + 1, 0, none⟩) 40 40, .string nm]).run Tryd.prog ((w.alloc (.cells #[.int .u8 0, .int .u8 0, .int .u8 0, .int .u8 0, .int .u8 0, .int .u8 0, .int .u8 0, .int .u8 0, .int .u8 0, .int .u8 0, .int .u8 0, .int .u8 0, .int .u8 0, .int .u8 0, .int .u8 0, .int .u8 0, .int .u8 0, .int .u8 0, .int .u8 0, .int .u8 0, .int .u8 0, .int .u8 0, .int .u8 0, .int .u8 0, .int .u8 0, .int .u8 0, .int .u8 0, .int .u8 0, .int .u8 0, .int .u8 0, .int .u8 0, .int .u8 0, .int .u8 0, .int .u8 0, .int .u8 0, .int .u8 0, .int .u8 0, .int .u8 0, .int .u8 0, .int .u8 0] 144)).alloc (.cells #[.int .u8 0, .int .u8 0, .int .u8 0, .int .u8 0, .int .u8 0, .int .u8 0, .int .u8 0, .int .u8 0, .int .u8 0, .int .u8 0, .int .u8 0, .int .u8 0, .int .u8 0, .int .u8 0, .int .u8 0, .int .u8 0, .int .u8 0, .int .u8 0, .int .u8 0, .int .u8 0, .int .u8 0, .int .u8 0, .int .u8 0, .int .u8 0, .int .u8 0, .int .u8 0, .int .u8 0, .int .u8 0, .int .u8 0, .int .u8 0, .int .u8 0, .int .u8 0, .int .u8 0, .int .u8 0, .int .u8 0, .int .u8 0, .int .u8 0, .int .u8 0, .int .u8 0, .int .u8 0] 144)) = .ok (.int .i64 (nm.size : Int)) W3 ∧
      W3.heap[w.heap.size]? = some (.cells zK 144 (0, 0)) ∧ W3.heap[w.heap.size + 1]? = some (.cells (kC nm).toArray 144 (0, 0)) ∧ Below w.heap.size w W3 := by
    have hr := run_copy_str (P := Tryd.prog) _ 163 9 3 5 (w.heap.size + 1) 40 40 zK 144 nm Tryd.underlying163 inf5 h1 h h
    have e : nm.data.toList.map byV ++ zK.toList.drop nm.size = kC nm := by
      unfold kC
      have : zK.toList = List.replicate 40 (.int .u8 0) := rfl
      rw [this, List.drop_replicate]
    rw [e] at hr
    exact ⟨_, hr, (setRow_other _ _ _ _ (by omega)).trans h0, setRow_heap _ _ _ _ _ _ h1, below_row hb2 hb2.size (by omega) _⟩
  have R0 := hid r0
  have R1 := hid r1
  have HB := hid hb3
  have HO := hid (kC_oneCell nm)
  have HS := hid (kV_size h)
  clear h0 h1 hb2 r0 r1 hb3
  have hz : Hid (∀ v : Array Value, v = (kC nm).toArray → (Tryd.prog.info? 144).map (·.size) = some v.size) := hid (fun v e => by rw [e, HS.out]; exact infK)
  have HE : Hid (kV nm = .agg (kC nm).toArray) := hid rfl
  rw [HE.out]
  clear HE
  generalize (kC nm).toArray = kc at *
  go_enter Tryd.func66, Tryd.ntmps66
  go_wp2_with (first
    | (refine wpList_load_row rfl 144 _ rfl (w.heap.size + 1) rfl 144 kc (0, 0) _ R1.out Tryd.underlying144 rfl (hz.out _ rfl) ?_)
    | (refine wpList_store_row rfl 144 _ _ rfl w.heap.size kc rfl rfl 144 _ R0.out (hz.out _ rfl) (by rw [HS.out]; rfl) HO.out ?_))
  refine bodyPost_ret (results_cell_row rfl _ _ w.heap.size 144 kc (0, 0) _ rfl (setRow_heap _ _ _ _ _ _ R0.out) Tryd.underlying144 rfl (hz.out _ rfl)) rfl ⟨rfl, below_row HB.out HB.out.size (Nat.le_refl _) _⟩
end Go.Proofs.YtdenddknbmiboaaDoor.Lex
namespace Go.Proofs.YtdenddknbmiboaaDoor.Lex
open Go.ChangeShapes Go.WideShapes Go.ChangeAt Go.RowKit Go.Joins Go.WideMaps Go.WideElems Go.Maps
structure Sl where
  g : Nat
  n : Nat
  c : Nat
def slV : Option Sl → Value
  | none => .slice none 0 0
  | some s => .slice (some ⟨s.g, 0, none⟩) s.n s.c
abbrev nD (k : Nat) : DataW Unit := .lit (.int .i64 (k : Int))
def sD : Option Sl → DataW Unit
  | none => .nil
  | some s => .agg [nD s.g, nD s.n, nD s.c]
/-- How such a value reads. -/
def sR (v : Value) : Option (DataW Unit × List MemPlace) := match v with
  | .slice none 0 0 => some (.nil, [])
  | .slice (some ⟨g, 0, none⟩) n c => some (.agg [nD g, nD n, nD c], [])
  | _ => none
theorem sR_mk (o : Option Sl) : sR (slV o) = some (sD o, []) := by cases o <;> rfl
theorem sR_inv {v : Value} {o : Option Sl} {ps : List MemPlace} (h : sR v = some (sD o, ps)) : v = slV o := by
  unfold sR at h
  split at h
  · cases o with
    | none => rfl
    | some s => simp [sD] at h
  · cases o with
    | none => simp [sD] at h
    | some s =>
      simp only [sD, nD, Option.some.injEq, Prod.mk.injEq, DataW.agg.injEq, List.cons.injEq, DataW.lit.injEq, Lit.int.injEq, true_and, and_true, Int.ofNat_inj] at h
      obtain ⟨⟨h1, h2, h3⟩, _⟩ := h
      rw [h1, h2, h3]
      rfl
  · cases h
theorem own_slV {o : Option Sl} {g : Nat} (h : (slV o).ownBlock = some g) : ∃ s, o = some s ∧ s.g = g := by
  cases o with
  | none => cases h
  | some s => exact ⟨s, rfl, by simpa [slV, Value.ownBlock] using h⟩
/-- A map of slices in memory. -/
def KMap (W : World) (b n : Nat) (V : ByteArray → Option Sl) : Prop := ∃ D : DataW Unit, W.ownsMap Tryd.prog 144 sR b n D ∧ ∀ nm, NmK nm → ∀ l, keyOf Tryd.prog 144 (kV nm) = some l → D.atKey l .nil = sD (V nm)
theorem KMap.lt {W : World} {b n : Nat} {V : ByteArray → Option Sl} (h : KMap W b n V) : b < W.heap.size := by
  obtain ⟨D, h1, _⟩ := h
  exact h1.lt
theorem KMap.block {W W' : World} {b n : Nat} {V : ByteArray → Option Sl} (h : KMap W b n V) (hb : W'.heap[b]? = W.heap[b]?) : KMap W' b n V := by
  obtain ⟨D, ⟨es, clock, h1, h2⟩, h3⟩ := h
  exact ⟨D, ⟨es, clock, hb.trans h1, h2⟩, h3⟩
theorem KMap.new (W : World) : KMap (W.alloc (.map #[] 0)) W.heap.size 0 (fun _ => none) := ⟨.map [], World.ownsMap_made W _ _ _, fun _ _ _ _ => rfl⟩
theorem zeroA (w : World) : (zeroValue 146).run Tryd.prog w = .ok (slV none) w := by kernel_rfl
theorem KMap.look {W : World} {b n : Nat} {V : ByteArray → Option Sl} (h : KMap W b n V) {nm : ByteArray} (hn : NmK nm) : (Instr.lookup 77 (.map (some b)) (kV nm) false).run Tryd.prog W = .ok (slV (V nm)) W := by
  obtain ⟨D, h1, h2⟩ := h
  obtain ⟨l, hl⟩ := kV_is hn.1
  obtain ⟨v, ps, hrun, hv⟩ := h1.lookup keyedK Tryd.underlying77 (zeroA W) (sR_mk none) hl
  rw [show (sD none) = .nil from rfl, h2 nm hn l hl] at hv
  rw [hrun, sR_inv hv]
theorem KMap.update {W : World} {b n : Nat} {V : ByteArray → Option Sl} (h : KMap W b n V) (hn : n < maxLen) {nm : ByteArray} (hnm : NmK nm) (o : Option Sl) :
    ∃ W', (Instr.mapUpdate 77 (.map (some b)) (kV nm) (slV o)).run Tryd.prog W = .ok () W' ∧ KMap W' b (n + 1) (fun u => if u = nm then o else V u) ∧ W.grownBy W' (some b) := by
  obtain ⟨D, h1, h2⟩ := h
  obtain ⟨l, hl⟩ := kV_is hnm.1
  obtain ⟨W', hrun, r1, r2⟩ := h1.update keyedK Tryd.underlying77 hn hl (sR_mk o)
  refine ⟨W', hrun, ⟨_, r1, fun u hu k hk => ?_⟩, r2⟩
  dsimp only
  by_cases e : u = nm
  · subst e
    rw [hl] at hk
    cases hk
    rw [if_pos rfl, Maps.atKey_put_same h1.isMap (keyedK.key hl)]
  · have hne : k ≠ l := fun ek => by
      subst ek
      exact e (kV_inj hu hnm (keyedK.inj hk hl))
    rw [if_neg e, Maps.atKey_put_other (fun h => hne (by first | exact h | exact h.symm))]
    exact h2 u hu k hk
/-- The look-up ahead of a store at one key, and the store. -/
theorem KMap.entry {W : World} {b n : Nat} {V : ByteArray → Option Sl} (h : KMap W b n V) (hn : n < maxLen) {nm : ByteArray} (hnm : NmK nm) :
    ∃ (st : Nat) (W1 : World), (Instr.mapEntry 77 (.map (some b)) (kV nm)).run Tryd.prog W = .ok (.tuple #[slV (V nm), .int .i64 (st : Int)]) W1 ∧ W.grownBy W1 (some b) ∧ b < W1.heap.size ∧
      ∀ (W2 : World) (o : Option Sl), W2.heap[b]? = W1.heap[b]? → ∃ W3, (Instr.entryStore 77 (.map (some b)) (.int .i64 (st : Int)) (slV o)).run Tryd.prog W2 = .ok () W3 ∧ KMap W3 b (n + 1) (fun u => if u = nm then o else V u) ∧ W2.grownBy W3 (some b) := by
  have hlook := h.look hnm
  obtain ⟨D, hD, h2⟩ := h
  obtain ⟨es, clock, hh, F, hs, rfl⟩ := hD
  obtain ⟨l, hl⟩ := kV_is hnm.1
  have hlt := (Array.getElem?_eq_some_iff.1 hh).1
  obtain ⟨v0, st, es1, clock1, hrun, hv0, hst⟩ := entry_then_store lawK Tryd.underlying77 zeroA hh F hl
  have hv : v0 = slV (V nm) := by
    rcases fit_look false keyedK Tryd.underlying77 (zeroA W) hh F hl with ⟨e1, e2, _⟩ | ⟨e0, y, e1, e2, e3, _⟩
    · rcases hv0 with ⟨x, hx, hk, _⟩ | ⟨_, rfl⟩
      · exact (e2 x hx hk).elim
      · rw [e1] at hlook
        simp only [Bool.false_eq_true, if_false, Result.ok.injEq, and_true] at hlook
        exact hlook
    · rcases hv0 with ⟨x, hx, hk, rfl⟩ | ⟨hno, _⟩
      · have he : e0 = x := by
          obtain ⟨i, hi, ei⟩ := List.getElem_of_mem e1
          obtain ⟨j, hj, ej⟩ := List.getElem_of_mem hx
          by_cases hij : i = j
          · subst hij; rw [← ei, ← ej]
          · exfalso
            have := other_key F (j := j) (e0 := x) (by rw [List.getElem?_eq_getElem hj, ej]) (i := i) (x := e0) (by rw [List.getElem?_eq_getElem hi, ei]) hij
            exact this (e2.trans hk.symm)
        rw [e3] at hlook
        simp only [Bool.false_eq_true, if_false, Result.ok.injEq, and_true] at hlook
        rw [← he]
        exact hlook
      · exact (hno e0 e1 e2).elim
  subst hv
  have hh1 : (ChangeMaps.setBlock W b (.map es1 clock1)).heap[b]? = some (.map es1 clock1) := heap_block hlt
  refine ⟨st, _, hrun, grown_setBlock _, (Array.getElem?_eq_some_iff.1 hh1).1, fun W2 o hb2 => ?_⟩
  obtain ⟨es', clock', h3, h4⟩ := hst W2 (slV o) (hb2.trans hh1)
  have hK : KMap W b n V := ⟨_, ⟨es, clock, hh, F, hs, rfl⟩, h2⟩
  obtain ⟨W', h5, h6, _⟩ := hK.update hn hnm o
  rw [h4] at h5
  have e : ChangeMaps.setBlock W b (.map es' clock') = W' := by
    injection h5
  have hb2' := hb2.trans hh1
  refine ⟨_, h3, h6.block ?_, grown_setBlock _⟩
  rw [← e, heap_block hlt, heap_block (Array.getElem?_eq_some_iff.1 hb2').1]
end Go.Proofs.YtdenddknbmiboaaDoor.Lex
