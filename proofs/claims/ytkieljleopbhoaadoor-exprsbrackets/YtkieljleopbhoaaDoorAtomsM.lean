/-
  The map of the atoms, as its eight entries are laid in any order.
-/
import Derived.Test.YtkieljleopbhoaaDoorKey2
import Derived.Deep.RegionHeld3
namespace Go.Proofs.YtkieljleopbhoaaDoor.Lex
open Go.ChangeShapes Go.WideShapes Go.ChangeAt Go.RowKit Go.Joins Go.WideMaps Go.WideElems Go.Maps
/-- The eight atoms: a token's kind and text, and the function that reads what begins with it. -/
def aT : List (Nat × ByteArray × Nat) := [(1, ⟨#[]⟩, 55), (1, ⟨#[116, 114, 117, 101]⟩, 56), (1, ⟨#[102, 97, 108, 115, 101]⟩, 57), (2, ⟨#[]⟩, 58), (3, ⟨#[40]⟩, 59), (3, ⟨#[45]⟩, 60), (1, ⟨#[110, 111, 116]⟩, 62), (1, ⟨#[112, 114, 101]⟩, 63)]
def aR (k : Nat) : Nat × ByteArray × Nat := aT.getD k (0, ⟨#[]⟩, 0)
def aKey (k : Nat) : Value := .agg #[.int .u8 ((aR k).1 : Int), .string (aR k).2.1]
def aVal (k : Nat) : Value := .func (.func (aR k).2.2) #[] #[]
theorem cases8 {k : Nat} (h : k < 8) : k = 0 ∨ k = 1 ∨ k = 2 ∨ k = 3 ∨ k = 4 ∨ k = 5 ∨ k = 6 ∨ k = 7 := by omega
theorem aKey_mk {k : Nat} {m : Mark} (h : aKey k = mkV m) : (aR k).1 = m.kind ∧ (aR k).2.1 = m.text := by
  unfold aKey at h
  injection h with h
  simp only [Array.mk.injEq, List.cons.injEq, Value.int.injEq, Value.string.injEq, and_true, true_and] at h
  exact ⟨by omega, h.2⟩
theorem aKey_ne {i j : Nat} (hi : i < 8) (hj : j < 8) (h : i ≠ j) : aKey i ≠ aKey j := fun e => by
  have e2 := aKey_mk (m := ⟨(aR j).1, (aR j).2.1⟩) e
  simp only at e2
  rcases cases8 hi with rfl | rfl | rfl | rfl | rfl | rfl | rfl | rfl <;> rcases cases8 hj with rfl | rfl | rfl | rfl | rfl | rfl | rfl | rfl <;> first | omega | exact absurd e2.1 (by decide) | exact absurd (congrArg (fun s => s.data.toList) e2.2) (by decide)
theorem aKey_is {k : Nat} (h : k < 8) : ∃ l, keyOf Tryd.prog 81 (aKey k) = some l := key_is ⟨(aR k).1, (aR k).2.1⟩ (by rcases cases8 h with rfl | rfl | rfl | rfl | rfl | rfl | rfl | rfl <;> decide) (by rcases cases8 h with rfl | rfl | rfl | rfl | rfl | rfl | rfl | rfl <;> decide)
abbrev RA : Value → Option (DataW Unit × List MemPlace) := fun _ => some (.nil, [])
/-- Those of the eight are there that b says. -/
def AtM (b : Nat → Bool) (mp n : Nat) (w : World) : Prop := ∃ es clock, w.heap[mp]? = some (.map es clock) ∧ Fit Tryd.prog 81 RA es clock ∧ es.size + n ≤ 8 ∧
  (∀ x ∈ es.toList, ∃ k, k < 8 ∧ b k = true ∧ x.key = aKey k ∧ x.val = aVal k) ∧ ∀ k, k < 8 → b k = true → ∃ x ∈ es.toList, x.key = aKey k
def upd (b : Nat → Bool) (k : Nat) : Nat → Bool := fun i => if i = k then true else b i
theorem grown_setBlock {w : World} {b : Nat} (o : Obj) : w.grownBy (ChangeMaps.setBlock w b o) (some b) := by
  refine ⟨rfl, rfl, rfl, by simp [ChangeMaps.setBlock], fun k hk hkr => ?_⟩
  have hkr' : k ≠ b := fun e => hkr (by rw [e])
  simp only [ChangeMaps.setBlock]
  rw [Array.getElem?_setIfInBounds_ne (fun e => hkr' e.symm)]
set_option maxRecDepth 100000 in
/-- One more. -/
theorem AtM.more {b : Nat → Bool} {mp n : Nat} {w : World} (h : AtM b mp (n + 1) w) {k : Nat} (hk : k < 8) (hb : b k = false) : ∃ w', (Instr.mapUpdate 68 (.map (some mp)) (aKey k) (aVal k)).run Tryd.prog w = .ok () w' ∧ AtM (upd b k) mp n w' ∧ w.grownBy w' (some mp) := by
  obtain ⟨es, clock, hh, F, hs, h1, h2⟩ := h
  obtain ⟨l, hl⟩ := aKey_is hk
  have hno : ∀ e ∈ es.toList, e.key ≠ aKey k := fun e he => by
    obtain ⟨i, hi, hbi, e1, _⟩ := h1 e he
    rw [e1]
    exact aKey_ne hi hk (fun e2 => by rw [e2, hb] at hbi; cases hbi)
  rcases keyed81.find w hl es.toList F.keys with ⟨f1, _⟩ | ⟨j, e, _, f2, f3⟩
  · refine ⟨ChangeMaps.setBlock w mp (.map (es.push ⟨aKey k, aVal k, clock⟩) (clock + 1)), ?_, ⟨es.push ⟨aKey k, aVal k, clock⟩, clock + 1, ?_, ⟨?_, MapKept.stamped_push F.stamped hno, ?_⟩, ?_, ?_, ?_⟩, grown_setBlock _⟩
    · simp [Instr.mapUpdate, run_underlying Tryd.underlying68, MapKept.run_getObj_map hh, keyed81.check w false hl, f1, MapKept.run_setObj_map _ hh, Result.andThen, ChangeMaps.setBlock]
    · have hlt := (Array.getElem?_eq_some_iff.1 hh).1
      simp [ChangeMaps.setBlock, hlt]
    · simp; unfold maxLen; omega
    · intro x hx
      simp only [Array.toList_push, List.mem_append, List.mem_singleton] at hx
      rcases hx with hx | rfl
      · exact F.reads x hx
      · exact ⟨_, rd_mk hl rfl⟩
    · simp; omega
    · intro x hx
      simp only [Array.toList_push, List.mem_append, List.mem_singleton] at hx
      rcases hx with hx | rfl
      · obtain ⟨i, hi, hbi, e1, e2⟩ := h1 x hx
        exact ⟨i, hi, by unfold upd; rw [hbi]; simp, e1, e2⟩
      · exact ⟨k, hk, by simp [upd], rfl, rfl⟩
    · intro i hi hbi
      simp only [Array.toList_push, List.mem_append, List.mem_singleton]
      by_cases e : i = k
      · exact ⟨⟨aKey k, aVal k, clock⟩, .inr rfl, by rw [e]⟩
      · obtain ⟨x, hx, e1⟩ := h2 i hi (by unfold upd at hbi; rw [if_neg e] at hbi; exact hbi)
        exact ⟨x, .inl hx, e1⟩
  · exact (hno e (List.mem_of_getElem? f2) f3).elim
def L35 (b : Nat → Bool) : Array Bool := #[true, true, b 0, true, b 1, true, b 2, true, b 3, true, b 4, true, b 5, true, b 6, true, b 7, false, false]
def left (b : Nat → Bool) : Nat := (!b 0).toNat + (!b 1).toNat + (!b 2).toNat + (!b 3).toNat + (!b 4).toNat + (!b 5).toNat + (!b 6).toNat + (!b 7).toNat
abbrev insOp (k : Nat) (p : String) : Oper := { dst := none, op := Op.insert 68 (.tmp 1) (.tmp (2 + k)) (.func (aR k).2.2), type := 0, pos := p, after := #[⟨0, .data⟩, ⟨1 + 2 * k, .data⟩], guard := none }
/-- The operations of the map's region. -/
structure Ops35 (ops : Array Oper) : Prop where
  size : ops.size = 19
  ins : ∀ k, k < 8 → ∃ p, ops[2 + 2 * k]? = some (insOp k p)
  o17 : ∃ p af, ops[17]? = some { dst := some 10, op := Op.move (.tmp 1), type := 68, pos := p, after := af, guard := none } ∧ (∀ k, k < 8 → (⟨2 + 2 * k, .data⟩ : Edge) ∈ af) ∧ ∀ e ∈ af, e.on < 17
  o18 : ∃ p af, ops[18]? = some { dst := some 0, op := Op.assign (.tmp 10), type := 68, pos := p, after := af, guard := none } ∧ (⟨17, .data⟩ : Edge) ∈ af ∧ ∀ e ∈ af, e.on < 18
end Go.Proofs.YtkieljleopbhoaaDoor.Lex
