/-
  What has been asked for, counted in a map.
-/
import Derived.Test.YtkieljleopbhoaaDoorAtomsR
namespace Go.Proofs.YtkieljleopbhoaaDoor.Lex
open Go.ChangeShapes Go.WideShapes Go.ChangeAt Go.RowKit Go.Joins Go.WideMaps Go.WideElems Go.Maps
/-- What is asked for: a name, and how long ago. -/
abbrev Rf := ByteArray × Nat
theorem row51 : (51 : TypeId) < Tryd.prog.types.size := of_decide_eq_true (by kernel_rfl)
theorem wide51 : (match Tryd.prog.underlying 51 with | some (.array _ _) | some (.struct _) => true | _ => false) = true := by kernel_rfl
theorem deep51 : Tryd.prog.keyTypeAt 3 51 = true := by kernel_rfl
set_option maxRecDepth 100000 in
theorem keyed51 : Keyed Tryd.prog 51 := Keyed.of_law (deep_law_laid laidOut (m := 3) (by omega) row51 deep51 wide51)
theorem keyT51 : Tryd.prog.keyType 51 = true := by kernel_rfl
theorem cells51 : Tryd.prog.cellsOf 51 = 2 := by kernel_rfl
theorem cells3 : Tryd.prog.cellsOf 3 = 1 := by kernel_rfl
abbrev rV (r : Rf) : Array Value := #[.string r.1, .int .i64 (r.2 : Int)]
abbrev rKey (r : Rf) : Value := .agg (rV r)
/-- One that may be. -/
def RfOk (r : Rf) : Prop := r.1.size ≤ 65536 ∧ r.2 ≤ 1099511627776
theorem lits3 (n : Nat) (k : Nat) (hk : k ≤ 1099511627776) : Tryd.prog.keyLits (n + 1) 3 [.int .i64 (k : Int)] = some [.int .i64 (k : Int)] := by
  have hwf : (Lit.int .i64 (k : Int)).wf = true := by simp [Lit.wf, IntKind.min, IntKind.max, IntKind.signed, IntKind.bits]; omega
  unfold Program.keyLits
  rw [Tryd.underlying3]
  simp [hwf]
theorem rKey_is {r : Rf} (h : RfOk r) : ∃ l, keyOf Tryd.prog 51 (rKey r) = some l := by
  obtain ⟨n, hn⟩ := size_types
  have hf : (rKey r).formed Tryd.prog 51 = true := by simp [Value.formed, Tryd.underlying51, cells51]
  have h3 := lits3 n r.2 h.2
  have h9 := lits9 n r.1 (by have := h.1; unfold maxLen; omega)
  unfold keyOf
  rw [hn, Tryd.underlying51]
  simp only [keyT51, hf]
  unfold Program.keyLits
  rw [Tryd.underlying51]
  simp [Value.cells, cells51, cells3, cells9, h3, h9]
theorem rKey_inj {r q : Rf} (h : rKey r = rKey q) : r = q := by
  unfold rKey at h
  injection h with h
  simp only [Array.mk.injEq, List.cons.injEq, Value.int.injEq, Value.string.injEq, and_true, true_and] at h
  exact Prod.ext h.1 (by omega)
theorem zero3 (w : World) : (zeroValue 3).run Tryd.prog w = .ok (.int .i64 0) w := by kernel_rfl
/-- The map counts what is in a list. -/
def SeenM (acc : List Rf) (N mb : Nat) (w : World) : Prop := ∃ es clock, w.heap[mb]? = some (.map es clock) ∧ Fit Tryd.prog 51 RA es clock ∧ es.size ≤ N ∧
  (∀ x ∈ es.toList, ∃ r, r ∈ acc ∧ x.key = rKey r ∧ ∃ c : Nat, 1 ≤ c ∧ c ≤ N ∧ x.val = .int .i64 (c : Int)) ∧ ∀ r ∈ acc, ∃ x ∈ es.toList, x.key = rKey r
theorem SeenM.kept {acc : List Rf} {N mb : Nat} {w W : World} (h : SeenM acc N mb w) (hb : mb < w.heap.size → W.heap[mb]? = w.heap[mb]?) : SeenM acc N mb W := by
  obtain ⟨es, clock, e1, e2⟩ := h
  exact ⟨es, clock, (hb (Array.getElem?_eq_some_iff.1 e1).1).trans e1, e2⟩
theorem SeenM.none (mb : Nat) (w : World) (h : w.heap[mb]? = some (.map #[] 0)) : SeenM [] 0 mb w :=
  ⟨#[], 0, h, ⟨by simp, ⟨fun _ h => by simp at h, by simp, by simp⟩, fun _ h => by simp at h⟩, by simp, fun _ h => by simp at h, fun _ h => by cases h⟩
theorem look_one {es : Array MapEntry} {clock mb : Nat} {w : World} (hb : w.heap[mb]? = some (.map es clock)) (F : Fit (H := Unit) Tryd.prog 51 RA es clock) {r : Rf} (hr : RfOk r) {x : MapEntry} (hx : x ∈ es.toList) (hk : x.key = rKey r) : (Instr.lookup 74 (.map (some mb)) (rKey r) false).run Tryd.prog w = .ok x.val w := by
  obtain ⟨l, hl⟩ := rKey_is hr
  rcases fit_look false keyed51 Tryd.underlying74 (zero3 w) hb F hl with ⟨_, e2, _⟩ | ⟨e0, y, e1, e2, e3, _⟩
  · exact (e2 x hx hk).elim
  · have he : e0 = x := by
      obtain ⟨i, hi, ei⟩ := List.getElem_of_mem e1
      obtain ⟨j, hj, ej⟩ := List.getElem_of_mem hx
      by_cases hij : i = j
      · subst hij; rw [← ei, ← ej]
      · exfalso
        have := other_key F (j := j) (e0 := x) (by rw [List.getElem?_eq_getElem hj, ej]) (i := i) (x := e0) (by rw [List.getElem?_eq_getElem hi, ei]) hij
        exact this (e2.trans hk.symm)
    rw [e3, he]
    rfl
theorem look_none {es : Array MapEntry} {clock mb : Nat} {w : World} (hb : w.heap[mb]? = some (.map es clock)) (F : Fit (H := Unit) Tryd.prog 51 RA es clock) {r : Rf} (hr : RfOk r) (hn : ∀ x ∈ es.toList, x.key ≠ rKey r) : (Instr.lookup 74 (.map (some mb)) (rKey r) false).run Tryd.prog w = .ok (.int .i64 0) w := by
  obtain ⟨l, hl⟩ := rKey_is hr
  rcases fit_look false keyed51 Tryd.underlying74 (zero3 w) hb F hl with ⟨e1, _, _⟩ | ⟨e0, y, e1, e2, e3, _⟩
  · exact e1
  · exact (hn e0 e1 e2).elim
end Go.Proofs.YtkieljleopbhoaaDoor.Lex
