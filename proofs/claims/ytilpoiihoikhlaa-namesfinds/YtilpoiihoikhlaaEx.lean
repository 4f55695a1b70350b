/-
  What is worked out, as a tree, and how it stands in memory.
-/
import Derived.Test.YtilpoiihoikhlaaBase
namespace Go.Proofs.Ytilpoiihoikhlaa.Lex
open Go.ChangeShapes Go.WideShapes Go.ChangeAt Go.RowKit Go.Joins
theorem hid {p : Prop} (h : p) : Hid p := h
/-- What is worked out. -/
structure Ex where
  op : Nat
  n : Int
  name : ByteArray
  args : List Ex
theorem Ex.part_lt (x : Ex) (i : Nat) (h : i < x.args.length) : SizeOf.sizeOf x.args[i] < SizeOf.sizeOf x := by
  obtain ⟨o, n, s, l⟩ := x
  have := List.sizeOf_lt_of_mem (List.getElem_mem h)
  simp only [Ex.mk.sizeOf_spec] at this ⊢
  omega
theorem Ex.pos (x : Ex) : 1 ≤ SizeOf.sizeOf x := by
  obtain ⟨o, n, s, l⟩ := x
  simp only [Ex.mk.sizeOf_spec]
  omega
/-- It stands in memory, looked at so deep: its parts lie behind the last of its cells. -/
def StN (w : World) : Nat → Ex → Value → Prop
  | 0, _, _ => False
  | k + 1, x, s => ∃ (ao : Option Addr) (cap : Nat) (sl : Nat → Value), s = .slice ao x.args.length cap ∧ x.op < 256 ∧ (-9223372036854775808 ≤ x.n ∧ x.n ≤ 9223372036854775807) ∧ x.name.size ≤ 140737488355328 ∧ x.args.length ≤ 2513169434843 ∧ x.args.length ≤ cap ∧
    (x.args.length = 0 ∨ ∃ b o, ao = some ⟨b, o, none⟩ ∧ ∀ i (h : i < x.args.length), w.cell? ⟨b, o + i * 4, none⟩ = some (.int .u8 (x.args[i].op : Int)) ∧ w.cell? ⟨b, o + i * 4 + 1, none⟩ = some (.int .i64 x.args[i].n) ∧
        w.cell? ⟨b, o + i * 4 + 2, none⟩ = some (.string x.args[i].name) ∧ w.cell? ⟨b, o + i * 4 + 3, none⟩ = some (sl i)) ∧ ∀ i (h : i < x.args.length), StN w k x.args[i] (sl i)
theorem StN.up {w : World} : ∀ (k' k : Nat) (x : Ex) (s : Value), StN w k x s → SizeOf.sizeOf x ≤ k' → StN w k' x s
  | 0, k, x, s, _, hs => by have := x.pos; omega
  | k' + 1, 0, x, s, h, _ => h.elim
  | k' + 1, k + 1, x, s, h, hs => by
    obtain ⟨ao, cap, sl, h1, h2, h3, h4, h5, h6, h7, h8⟩ := h
    exact ⟨ao, cap, sl, h1, h2, h3, h4, h5, h6, h7, fun i hi => StN.up k' k _ _ (h8 i hi) (by have := x.part_lt i hi; omega)⟩
/-- It stands in memory. -/
def St (w : World) (x : Ex) (s : Value) : Prop := StN w (SizeOf.sizeOf x) x s
theorem St.intro {w : World} (x : Ex) (ao : Option Addr) (cap : Nat) (sl : Nat → Value) (hop : x.op < 256) (hn : -9223372036854775808 ≤ x.n ∧ x.n ≤ 9223372036854775807) (hnm : x.name.size ≤ 140737488355328) (hlen : x.args.length ≤ 2513169434843) (hcap : x.args.length ≤ cap)
      (hc : x.args.length = 0 ∨ ∃ b o, ao = some ⟨b, o, none⟩ ∧ ∀ i (h : i < x.args.length), w.cell? ⟨b, o + i * 4, none⟩ = some (.int .u8 (x.args[i].op : Int)) ∧ w.cell? ⟨b, o + i * 4 + 1, none⟩ = some (.int .i64 x.args[i].n) ∧
        w.cell? ⟨b, o + i * 4 + 2, none⟩ = some (.string x.args[i].name) ∧ w.cell? ⟨b, o + i * 4 + 3, none⟩ = some (sl i))
      (hs : ∀ i (h : i < x.args.length), St w x.args[i] (sl i)) : St w x (.slice ao x.args.length cap) := by
  unfold St
  obtain ⟨m, hm⟩ : ∃ m, SizeOf.sizeOf x = m + 1 := ⟨SizeOf.sizeOf x - 1, by have := x.pos; omega⟩
  rw [hm]
  exact ⟨ao, cap, sl, rfl, hop, hn, hnm, hlen, hcap, hc, fun i hi => StN.up m _ _ _ (hs i hi) (by have := x.part_lt i hi; omega)⟩
/-- What is known of it, at hand. -/
theorem St.out {w : World} {x : Ex} {s : Value} (h : St w x s) : ∃ (ao : Option Addr) (cap : Nat) (sl : Nat → Value), s = .slice ao x.args.length cap ∧ x.op < 256 ∧ (-9223372036854775808 ≤ x.n ∧ x.n ≤ 9223372036854775807) ∧ x.name.size ≤ 140737488355328 ∧ x.args.length ≤ 2513169434843 ∧ x.args.length ≤ cap ∧
    (x.args.length = 0 ∨ ∃ b o, ao = some ⟨b, o, none⟩ ∧ ∀ i (h : i < x.args.length), w.cell? ⟨b, o + i * 4, none⟩ = some (.int .u8 (x.args[i].op : Int)) ∧ w.cell? ⟨b, o + i * 4 + 1, none⟩ = some (.int .i64 x.args[i].n) ∧
        w.cell? ⟨b, o + i * 4 + 2, none⟩ = some (.string x.args[i].name) ∧ w.cell? ⟨b, o + i * 4 + 3, none⟩ = some (sl i)) ∧ ∀ i (h : i < x.args.length), St w x.args[i] (sl i) := by
  unfold St at h
  obtain ⟨m, hm⟩ : ∃ m, SizeOf.sizeOf x = m + 1 := ⟨SizeOf.sizeOf x - 1, by have := x.pos; omega⟩
  rw [hm] at h
  obtain ⟨ao, cap, sl, h1, h2, h3, h4, h5, h6, h7, h8⟩ := h
  exact ⟨ao, cap, sl, h1, h2, h3, h4, h5, h6, h7, fun i hi => StN.up _ m _ _ (h8 i hi) (Nat.le_refl _)⟩
theorem cell_kept {w w' : World} {p : Addr} {v : Value} (h : w.cell? p = some v) (hb : Below w.heap.size w w') : w'.cell? p = some v := by
  rw [hb.cell (World.block_lt_of_cell? w _ h)]; exact h
theorem St.keepN {w w' : World} (hb : Below w.heap.size w w') : ∀ (m : Nat) (x : Ex) (s : Value), SizeOf.sizeOf x ≤ m → St w x s → St w' x s
  | 0, x, s, hm, _ => by have := x.pos; omega
  | m + 1, x, s, hm, h => by
    obtain ⟨ao, cap, sl, rfl, hop, hn, hnm, hlen, hcap, hc, hs⟩ := h.out
    refine St.intro x ao cap sl hop hn hnm hlen hcap ?_ (fun i hi => St.keepN hb m _ _ (by have := x.part_lt i hi; omega) (hs i hi))
    rcases hc with h0 | ⟨b, o, ha, hc⟩
    · exact .inl h0
    · refine .inr ⟨b, o, ha, fun i hi => ?_⟩
      obtain ⟨h0, h1, h2, h3⟩ := hc i hi
      exact ⟨cell_kept h0 hb, cell_kept h1 hb, cell_kept h2 hb, cell_kept h3 hb⟩
theorem St.keep {w w' : World} {x : Ex} {s : Value} (h : St w x s) (hb : Below w.heap.size w w') : St w' x s := St.keepN hb _ x s (Nat.le_refl _) h
/-- It as a value. -/
abbrev exV (x : Ex) (s : Value) : Value := .agg #[.int .u8 (x.op : Int), .int .i64 x.n, .string x.name, s]
end Go.Proofs.Ytilpoiihoikhlaa.Lex
