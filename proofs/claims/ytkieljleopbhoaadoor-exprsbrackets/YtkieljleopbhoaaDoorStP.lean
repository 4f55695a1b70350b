/-
  What is worked out, in blocks of which something is known: it stays where others are written.
-/
import Derived.Test.YtkieljleopbhoaaDoorEx
namespace Go.Proofs.YtkieljleopbhoaaDoor.Lex
open Go.ChangeShapes Go.WideShapes Go.ChangeAt Go.RowKit Go.Joins
/-- It stands in memory, in blocks that are so, looked at so deep. -/
def StPN (ok : Nat → Prop) (w : World) : Nat → Ex → Value → Prop
  | 0, _, _ => False
  | k + 1, x, s => ∃ (ao : Option Addr) (cap : Nat) (sl : Nat → Value), s = .slice ao x.args.length cap ∧ x.op < 256 ∧ (-9223372036854775808 ≤ x.n ∧ x.n ≤ 9223372036854775807) ∧ x.name.size ≤ 140737488355328 ∧ x.args.length ≤ 2513169434843 ∧ x.args.length ≤ cap ∧
    (x.args.length = 0 ∨ ∃ b o, ao = some ⟨b, o, none⟩ ∧ ok b ∧ ∀ i (h : i < x.args.length), w.cell? ⟨b, o + i * 4, none⟩ = some (.int .u8 (x.args[i].op : Int)) ∧ w.cell? ⟨b, o + i * 4 + 1, none⟩ = some (.int .i64 x.args[i].n) ∧
        w.cell? ⟨b, o + i * 4 + 2, none⟩ = some (.string x.args[i].name) ∧ w.cell? ⟨b, o + i * 4 + 3, none⟩ = some (sl i)) ∧ ∀ i (h : i < x.args.length), StPN ok w k x.args[i] (sl i)
theorem StPN.up {ok : Nat → Prop} {w : World} : ∀ (k' k : Nat) (x : Ex) (s : Value), StPN ok w k x s → SizeOf.sizeOf x ≤ k' → StPN ok w k' x s
  | 0, k, x, s, _, hs => by have := x.pos; omega
  | k' + 1, 0, x, s, h, _ => h.elim
  | k' + 1, k + 1, x, s, h, hs => by
    obtain ⟨ao, cap, sl, h1, h2, h3, h4, h5, h6, h7, h8⟩ := h
    exact ⟨ao, cap, sl, h1, h2, h3, h4, h5, h6, h7, fun i hi => StPN.up k' k _ _ (h8 i hi) (by have := x.part_lt i hi; omega)⟩
/-- It stands in memory, in blocks that are so. -/
def StP (ok : Nat → Prop) (w : World) (x : Ex) (s : Value) : Prop := StPN ok w (SizeOf.sizeOf x) x s
theorem StP.intro {ok : Nat → Prop} {w : World} (x : Ex) (ao : Option Addr) (cap : Nat) (sl : Nat → Value) (hop : x.op < 256) (hn : -9223372036854775808 ≤ x.n ∧ x.n ≤ 9223372036854775807) (hnm : x.name.size ≤ 140737488355328) (hlen : x.args.length ≤ 2513169434843) (hcap : x.args.length ≤ cap)
      (hc : x.args.length = 0 ∨ ∃ b o, ao = some ⟨b, o, none⟩ ∧ ok b ∧ ∀ i (h : i < x.args.length), w.cell? ⟨b, o + i * 4, none⟩ = some (.int .u8 (x.args[i].op : Int)) ∧ w.cell? ⟨b, o + i * 4 + 1, none⟩ = some (.int .i64 x.args[i].n) ∧
        w.cell? ⟨b, o + i * 4 + 2, none⟩ = some (.string x.args[i].name) ∧ w.cell? ⟨b, o + i * 4 + 3, none⟩ = some (sl i))
      (hs : ∀ i (h : i < x.args.length), StP ok w x.args[i] (sl i)) : StP ok w x (.slice ao x.args.length cap) := by
  unfold StP
  obtain ⟨m, hm⟩ : ∃ m, SizeOf.sizeOf x = m + 1 := ⟨SizeOf.sizeOf x - 1, by have := x.pos; omega⟩
  rw [hm]
  exact ⟨ao, cap, sl, rfl, hop, hn, hnm, hlen, hcap, hc, fun i hi => StPN.up m _ _ _ (hs i hi) (by have := x.part_lt i hi; omega)⟩
theorem StP.out {ok : Nat → Prop} {w : World} {x : Ex} {s : Value} (h : StP ok w x s) : ∃ (ao : Option Addr) (cap : Nat) (sl : Nat → Value), s = .slice ao x.args.length cap ∧ x.op < 256 ∧ (-9223372036854775808 ≤ x.n ∧ x.n ≤ 9223372036854775807) ∧ x.name.size ≤ 140737488355328 ∧ x.args.length ≤ 2513169434843 ∧ x.args.length ≤ cap ∧
    (x.args.length = 0 ∨ ∃ b o, ao = some ⟨b, o, none⟩ ∧ ok b ∧ ∀ i (h : i < x.args.length), w.cell? ⟨b, o + i * 4, none⟩ = some (.int .u8 (x.args[i].op : Int)) ∧ w.cell? ⟨b, o + i * 4 + 1, none⟩ = some (.int .i64 x.args[i].n) ∧
        w.cell? ⟨b, o + i * 4 + 2, none⟩ = some (.string x.args[i].name) ∧ w.cell? ⟨b, o + i * 4 + 3, none⟩ = some (sl i)) ∧ ∀ i (h : i < x.args.length), StP ok w x.args[i] (sl i) := by
  unfold StP at h
  obtain ⟨m, hm⟩ : ∃ m, SizeOf.sizeOf x = m + 1 := ⟨SizeOf.sizeOf x - 1, by have := x.pos; omega⟩
  rw [hm] at h
  obtain ⟨ao, cap, sl, h1, h2, h3, h4, h5, h6, h7, h8⟩ := h
  exact ⟨ao, cap, sl, h1, h2, h3, h4, h5, h6, h7, fun i hi => StPN.up _ m _ _ (h8 i hi) (Nat.le_refl _)⟩
theorem StP.carryN {ok ok' : Nat → Prop} {w w' : World} (hb : ∀ b, ok b → b < w.heap.size → w'.heap[b]? = w.heap[b]?) (ho : ∀ b, b < w.heap.size → ok b → ok' b) : ∀ (m : Nat) (x : Ex) (s : Value), SizeOf.sizeOf x ≤ m → StP ok w x s → StP ok' w' x s
  | 0, x, s, hm, _ => by have := x.pos; omega
  | m + 1, x, s, hm, h => by
    obtain ⟨ao, cap, sl, rfl, hop, hn, hnm, hlen, hcap, hc, hs⟩ := h.out
    refine StP.intro x ao cap sl hop hn hnm hlen hcap ?_ (fun i hi => StP.carryN hb ho m _ _ (by have := x.part_lt i hi; omega) (hs i hi))
    by_cases h00 : x.args.length = 0
    · exact .inl h00
    · obtain ⟨b, o, ha, hok, hc⟩ := hc.resolve_left h00
      have hlt : b < w.heap.size := World.block_lt_of_cell? w ⟨b, o + 0 * 4, none⟩ (hc 0 (by omega)).1
      have hk : ∀ {q v}, w.cell? ⟨b, q, none⟩ = some v → w'.cell? ⟨b, q, none⟩ = some v := fun {q v} h => by
        rw [World.cell?_of_block (w := w) (a := ⟨b, q, none⟩) (hb b hok hlt)]
        exact h
      refine .inr ⟨b, o, ha, ho b hlt hok, fun i hi => ?_⟩
      obtain ⟨h0, h1, h2, h3⟩ := hc i hi
      exact ⟨hk h0, hk h1, hk h2, hk h3⟩
theorem StP.carry {ok : Nat → Prop} {w w' : World} {x : Ex} {s : Value} (h : StP ok w x s) (hb : ∀ b, ok b → b < w.heap.size → w'.heap[b]? = w.heap[b]?) : StP ok w' x s := StP.carryN hb (fun _ _ h => h) _ x s (Nat.le_refl _) h
theorem StP.stN {ok : Nat → Prop} {w : World} : ∀ (m : Nat) (x : Ex) (s : Value), SizeOf.sizeOf x ≤ m → StP ok w x s → St w x s
  | 0, x, s, hm, _ => by have := x.pos; omega
  | m + 1, x, s, hm, h => by
    obtain ⟨ao, cap, sl, rfl, hop, hn, hnm, hlen, hcap, hc, hs⟩ := h.out
    refine St.intro x ao cap sl hop hn hnm hlen hcap ?_ (fun i hi => StP.stN m _ _ (by have := x.part_lt i hi; omega) (hs i hi))
    rcases hc with h0 | ⟨b, o, ha, _, hc⟩
    · exact .inl h0
    · exact .inr ⟨b, o, ha, hc⟩
theorem StP.st {ok : Nat → Prop} {w : World} {x : Ex} {s : Value} (h : StP ok w x s) : St w x s := StP.stN _ x s (Nat.le_refl _) h
/-- What has no parts stands anywhere. -/
theorem StP.leaf {ok : Nat → Prop} {w : World} (op : Nat) (n : Int) (nm : ByteArray) (hop : op < 256) (hn : -9223372036854775808 ≤ n ∧ n ≤ 9223372036854775807) (hnm : nm.size ≤ 140737488355328) : StP ok w ⟨op, n, nm, []⟩ (.slice none 0 0) :=
  StP.intro ⟨op, n, nm, []⟩ none 0 (fun _ => .slice none 0 0) hop hn hnm (Nat.zero_le _) (Nat.le_refl _) (.inl rfl) (fun i hi => by cases hi)
end Go.Proofs.YtkieljleopbhoaaDoor.Lex
