/-
  Numbers as rows of bits, the first one highest; rows of bits as bytes. Plain mathematics, no word of Go.
  A writer's row of bits in memory; what the Go text of (*row).add leaves behind.
  What the Go text of (*row).add leaves behind: one bit more.
  The bits of a number, one by one: the contract of the function that bits.ofNumber hands back.
  (*Writer).Put: the numbers that it takes, those that it refuses, and a writer that is not there.
  A slice of bytes in memory.
  New, Len, Bytes; SameBytes.
  The contracts as told from a law's first world on.
  The document's own writer of bits, each bit a byte of its own: Put and Bytes.
  The document's own Bytes.
  A book that holds lists of bytes: keepByte; the marks.
  The kinds of lists that the book holds none of: there is nothing to fill, to grow, to look at.
-/
import Derived.Test.YtfabpjgnmpkleaaGreatDoorRows
import Derived.WalkKit
import Derived.ProofKit
import Derived.OpenShut
import Derived.ShutString
import Derived.ChangeOld
import Derived.Below
import Derived.BigRegion
import Derived.Maps.AppendAt
import Derived.RangeFuncBox
import Derived.Laws.BitsAllLaws
import Derived.RangeFuncNested
import Derived.RangeFuncBound
import Derived.RangeFuncCalls
import Derived.RangeFuncLeaves
import Derived.Shelf.Abstract
import Derived.Shelf.RegionOpen
import Derived.OwnWalkIn
import Derived.TacticsInMore
import Derived.LoopNIn
import Derived.LoopIn
import Derived.Laws.CopyOwn
import Derived.OwnWalk
import Derived.Deep.QuietTactic
import Derived.BigQuiet
import Derived.Deep.MidRow
import Derived.Deep.RegionHeld3
import Derived.Deep.RegionLaw
import Derived.Deep.AppendLies
namespace Go.Proofs.YtfabpjgnmpkleaaGreatDoor.Bits
/-- The number that a row of bits tells, the first one being the highest. -/
def val (l : List Bool) : Nat := l.foldl (fun n b => 2 * n + b.toNat) 0
/-- So many lowest bits of a number, the highest first. -/
def bitsOf (n k : Nat) : List Bool := (List.range k).map fun i => n.testBit (k - 1 - i)
/-- Byte number j of a row of bits, with noughts behind. -/
def byteAt (L : List Bool) (j : Nat) : Nat := val ((List.range 8).map fun i => L.getD (8 * j + i) false)
/-- A row of bits as bytes. -/
def pack (L : List Bool) : List Int := (List.range ((L.length + 7) / 8)).map fun j => (byteAt L j : Int)
/-- Bit number i of bytes. -/
def bitAt (B : List Int) (i : Nat) : Bool := (B.getD (i / 8) 0).toNat.testBit (7 - i % 8)
/-- So many bits of bytes, from one of them on. -/
def part (B : List Int) (s k : Nat) : List Bool := (List.range k).map fun i => bitAt B (s + i)

theorem snocInd {P : List Bool → Prop} (h0 : P []) (h1 : ∀ l b, P l → P (l ++ [b])) (l : List Bool) : P l := by
  have h : ∀ m : List Bool, P m.reverse := by
    intro m
    induction m with
    | nil => exact h0
    | cons b m ih => rw [List.reverse_cons]; exact h1 _ _ ih
  have := h l.reverse
  rwa [List.reverse_reverse] at this
theorem val_snoc (l : List Bool) (b : Bool) : val (l ++ [b]) = 2 * val l + b.toNat := by simp [val]
theorem val_lt (l : List Bool) : val l < 2 ^ l.length := by
  induction l using snocInd with
  | h0 => simp [val]
  | h1 l b ih =>
    rw [val_snoc, List.length_append, List.length_singleton, Nat.pow_succ]
    cases b <;> simp <;> omega
theorem testBit_val (l : List Bool) (i : Nat) (h : i < l.length) : (val l).testBit i = l.getD (l.length - 1 - i) false := by
  induction l using snocInd generalizing i with
  | h0 => simp at h
  | h1 l b ih =>
    rw [val_snoc]
    simp only [List.length_append, List.length_singleton] at h ⊢
    cases i with
    | zero =>
      rw [Nat.testBit_zero]
      cases b <;> simp [List.getD] <;> omega
    | succ i =>
      rw [Nat.testBit_succ, show (2 * val l + b.toNat) / 2 = val l by cases b <;> simp <;> omega, ih i (by omega)]
      rw [List.getD_eq_getElem?_getD, List.getD_eq_getElem?_getD, List.getElem?_append_left (by omega)]
      congr 2
      omega
theorem testBit_val_ge (l : List Bool) (i : Nat) (h : l.length ≤ i) : (val l).testBit i = false :=
  Nat.testBit_lt_two_pow (Nat.lt_of_lt_of_le (val_lt l) (Nat.pow_le_pow_right (by decide) h))
theorem bitsOf_length (n k : Nat) : (bitsOf n k).length = k := by simp [bitsOf]
theorem bitsOf_getD (n k i : Nat) (h : i < k) : (bitsOf n k).getD i false = n.testBit (k - 1 - i) := by simp [bitsOf, h]
theorem val_bitsOf (n k : Nat) : val (bitsOf n k) = n % 2 ^ k := by
  apply Nat.eq_of_testBit_eq
  intro i
  rw [Nat.testBit_mod_two_pow]
  by_cases h : i < k
  · rw [testBit_val _ _ (by rw [bitsOf_length]; exact h), bitsOf_length, bitsOf_getD _ _ _ (by omega)]
    simp [h]
    congr 1
    omega
  · rw [testBit_val_ge _ _ (by rw [bitsOf_length]; omega)]
    simp [h]
theorem val_append (l m : List Bool) : val (l ++ m) = val l * 2 ^ m.length + val m := by
  induction m using snocInd with
  | h0 => simp [val]
  | h1 m b ih =>
    rw [← List.append_assoc, val_snoc, ih, val_snoc, List.length_append, List.length_singleton, Nat.pow_succ]
    rw [Nat.mul_add, ← Nat.mul_assoc, ← Nat.mul_assoc, Nat.mul_comm 2 (val l), Nat.mul_assoc (val l) 2, Nat.mul_comm 2, ← Nat.mul_assoc]
    omega
theorem byteAt_lt (L : List Bool) (j : Nat) : byteAt L j < 256 := by
  have := val_lt ((List.range 8).map fun i => L.getD (8 * j + i) false)
  rw [List.length_map, List.length_range] at this
  exact this
theorem testBit_byteAt (L : List Bool) (j i : Nat) (h : i < 8) : (byteAt L j).testBit i = L.getD (8 * j + (7 - i)) false := by
  rw [byteAt, testBit_val _ _ (by rw [List.length_map, List.length_range]; exact h), List.length_map, List.length_range, List.getD_eq_getElem?_getD, List.getElem?_map, List.getElem?_range (by omega)]
  rfl
theorem testBit_byteAt_ge (L : List Bool) (j i : Nat) (h : 8 ≤ i) : (byteAt L j).testBit i = false :=
  Nat.testBit_lt_two_pow (Nat.lt_of_lt_of_le (byteAt_lt L j) (show 2 ^ 8 ≤ 2 ^ i from Nat.pow_le_pow_right (by decide) h))
theorem pack_length (L : List Bool) : (pack L).length = (L.length + 7) / 8 := by simp [pack]
theorem pack_getD (L : List Bool) (j : Nat) (h : j < (L.length + 7) / 8) : (pack L).getD j 0 = (byteAt L j : Int) := by simp [pack, h]
theorem bitAt_pack (L : List Bool) (i : Nat) : bitAt (pack L) i = L.getD i false := by
  by_cases h : i / 8 < (L.length + 7) / 8
  · rw [bitAt, pack_getD _ _ h, Int.toNat_natCast, testBit_byteAt _ _ _ (by omega)]
    congr 1
    omega
  · have h1 : (pack L).getD (i / 8) 0 = 0 := by
      rw [List.getD_eq_getElem?_getD, List.getElem?_eq_none (by rw [pack_length]; omega)]; rfl
    have h2 : L.getD i false = false := by
      rw [List.getD_eq_getElem?_getD, List.getElem?_eq_none (by omega)]; rfl
    rw [bitAt, h1, h2]
    simp
/-- The row of bytes that has room for one bit more. -/
theorem room_pack (L : List Bool) : (if L.length % 8 = 0 then pack L ++ [0] else pack L) = (List.range (L.length / 8 + 1)).map fun j => (byteAt L j : Int) := by
  split
  · rename_i h
    rw [List.range_succ, List.map_append, pack, show (L.length + 7) / 8 = L.length / 8 by omega]
    congr 1
    have : byteAt L (L.length / 8) = 0 := by
      apply Nat.eq_of_testBit_eq
      intro i
      by_cases hi : i < 8
      · rw [testBit_byteAt _ _ _ hi, List.getD_eq_getElem?_getD, List.getElem?_eq_none (by omega)]
        simp
      · rw [testBit_byteAt_ge _ _ _ (by omega)]
        simp
    simp [this]
  · rename_i h
    rw [pack, show (L.length + 7) / 8 = L.length / 8 + 1 by omega]
theorem byteAt_before (L : List Bool) (b : Bool) (j : Nat) (h : j < L.length / 8) : byteAt (L ++ [b]) j = byteAt L j := by
  apply Nat.eq_of_testBit_eq
  intro i
  by_cases hi : i < 8
  · rw [testBit_byteAt _ _ _ hi, testBit_byteAt _ _ _ hi, List.getD_eq_getElem?_getD, List.getD_eq_getElem?_getD, List.getElem?_append_left (by omega)]
  · rw [testBit_byteAt_ge _ _ _ (by omega), testBit_byteAt_ge _ _ _ (by omega)]
theorem testBit_bool (b : Bool) (i : Nat) : (b.toNat).testBit i = (decide (i = 0) && b) := by
  cases b
  · simp
  · cases i with
    | zero => simp
    | succ i => rw [Bool.toNat_true, Nat.testBit_succ]; simp
theorem byteAt_last (L : List Bool) (b : Bool) : byteAt (L ++ [b]) (L.length / 8) = byteAt L (L.length / 8) ||| (b.toNat * 2 ^ (7 - L.length % 8)) := by
  rw [← Nat.shiftLeft_eq]
  apply Nat.eq_of_testBit_eq
  intro i
  rw [Nat.testBit_or, Nat.testBit_shiftLeft, testBit_bool]
  by_cases hi : i < 8
  · rw [testBit_byteAt _ _ _ hi, testBit_byteAt _ _ _ hi, List.getD_eq_getElem?_getD, List.getD_eq_getElem?_getD]
    by_cases he : 8 * (L.length / 8) + (7 - i) = L.length
    · rw [he, List.getElem?_append_right (Nat.le_refl _), List.getElem?_eq_none (Nat.le_refl _)]
      simp
      rw [show (decide (7 ≤ i + L.length % 8)) = true by simp; omega, show (decide (i - (7 - L.length % 8) = 0)) = true by simp; omega]
      simp
    · by_cases hl : 8 * (L.length / 8) + (7 - i) < L.length
      · rw [List.getElem?_append_left hl, show (decide (i - (7 - L.length % 8) = 0)) = false by simp; omega]
        simp
      · rw [List.getElem?_eq_none (by simp; omega), List.getElem?_eq_none (by omega), show (decide (i ≥ 7 - L.length % 8)) = false by simp; omega]
        simp
  · rw [testBit_byteAt_ge _ _ _ (by omega), testBit_byteAt_ge _ _ _ (by omega)]
    have : decide (i - (7 - L.length % 8) = 0) = false := by simp; omega
    rw [this]
    simp
/-- One bit more. -/
theorem pack_snoc (L : List Bool) (b : Bool) :
    (if L.length % 8 = 0 then pack L ++ [0] else pack L).set (L.length / 8) ((byteAt L (L.length / 8) ||| (b.toNat * 2 ^ (7 - L.length % 8)) : Nat) : Int) = pack (L ++ [b]) := by
  rw [room_pack, ← byteAt_last]
  apply List.ext_getElem
  · simp [pack_length]
    omega
  · intro i h1 h2
    rw [List.getElem_set]
    simp only [List.length_set, List.length_map, List.length_range] at h1
    split
    · rename_i h
      subst h
      simp [pack]
    · rename_i h
      simp [pack]
      rw [byteAt_before _ _ _ (by omega)]
theorem room_getD (L : List Bool) : (if L.length % 8 = 0 then pack L ++ [0] else pack L).getD (L.length / 8) 0 = (byteAt L (L.length / 8) : Int) := by
  rw [room_pack]
  simp
theorem room_length (L : List Bool) : (if L.length % 8 = 0 then pack L ++ [0] else pack L).length = L.length / 8 + 1 := by
  rw [room_pack]
  simp
theorem part_length (B : List Int) (s k : Nat) : (part B s k).length = k := by simp [part]
theorem part_succ (B : List Int) (s k : Nat) : part B s (k + 1) = part B s k ++ [bitAt B (s + k)] := by simp [part, List.range_succ]
theorem part_add (B : List Int) (s k m : Nat) : part B s (k + m) = part B s k ++ part B (s + k) m := by
  induction m with
  | zero => simp [part]
  | succ m ih => rw [← Nat.add_assoc, part_succ, ih, part_succ, List.append_assoc, Nat.add_assoc]
theorem part_pack (p l q : List Bool) : part (pack (p ++ l ++ q)) p.length l.length = l := by
  apply List.ext_getElem
  · rw [part_length]
  · intro i h1 h2
    simp only [part, List.getElem_map, List.getElem_range, bitAt_pack, List.append_assoc]
    rw [List.getD_eq_getElem?_getD, List.getElem?_append_right (by omega), show p.length + i - p.length = i by omega, List.getElem?_append_left (by omega), List.getElem?_eq_getElem h2]
    rfl
end Go.Proofs.YtfabpjgnmpkleaaGreatDoor.Bits
namespace Go.Proofs.YtfabpjgnmpkleaaGreatDoor.Bits
open Go.ChangeShapes Go.WideShapes Go.ChangeAt Go.RowKit
theorem info5 : (Tryz.prog.info? 5).map (fun i => (i.zero, i.size, i.bytes)) = some (some (.int .u8 0), 1, 1) := by kernel_rfl
/-- Block r is a row of the bits L; v: the slice of its bytes. -/
structure Row (w : World) (r : Nat) (v : Value) (L : List Bool) : Prop where
  row : w.heap[r]? = some (.cells #[v, .int .i64 L.length] 63 (0, 0))
  own : w.ownsRow 0 5 1 v (pack L).length ((pack L).map (Value.int .u8))
/-- Between two worlds the row in block r alone, and the bytes of it, have turned; its bytes lie where they lay, or in new memory. -/
structure Put (r : Nat) (v v' : Value) (w w' : World) : Prop where
  os : w'.os = w.os
  tape : w'.tape = w.tape
  output : w'.output = w.output
  size : w.heap.size ≤ w'.heap.size
  block : ∀ k, k < w.heap.size → k ≠ r → some k ≠ v.ownBlock → w'.heap[k]? = w.heap[k]?
  where_ : v'.ownBlock = v.ownBlock ∨ ∃ g, v'.ownBlock = some g ∧ w.heap.size ≤ g
theorem Put.refl (r : Nat) (v : Value) (w : World) : Put r v v w w := ⟨rfl, rfl, rfl, Nat.le_refl _, fun _ _ _ _ => rfl, .inl rfl⟩
theorem Put.trans {r : Nat} {v v' v2 : Value} {w w' w2 : World} (h : Put r v v' w w') (k : Put r v' v2 w' w2) : Put r v v2 w w2 := by
  refine ⟨k.os.trans h.os, k.tape.trans h.tape, k.output.trans h.output, Nat.le_trans h.size k.size, fun i hi hr hv => ?_, ?_⟩
  · refine (k.block i (Nat.lt_of_lt_of_le hi h.size) hr ?_).trans (h.block i hi hr hv)
    rcases h.where_ with e | ⟨g, e, hg⟩
    · rw [e]; exact hv
    · rw [e]; intro e'; cases e'; omega
  · rcases k.where_ with e | ⟨g, e, hg⟩
    · rw [e]; exact h.where_
    · exact .inr ⟨g, e, Nat.le_trans h.size hg⟩
theorem heap_set_same {w : World} {b : Nat} {c : Array Value} {t : TypeId} {f : Nat × Nat} (h : w.heap[b]? = some (.cells c t f)) (i : Nat) (u : Value) :
    (w.setCell ⟨b, i, none⟩ u).heap[b]? = some (.cells (c.setIfInBounds i u) t f) := by
  obtain ⟨hlt, hk⟩ := Array.getElem?_eq_some_iff.1 h
  show (w.heap.modify b _)[b]? = _
  rw [Array.getElem?_eq_getElem (by rw [Array.size_modify]; exact hlt), Array.getElem_modify_self, hk]
  rfl
theorem heap_set_other (w : World) {b k : Nat} (h : k ≠ b) (i : Nat) (u : Value) : (w.setCell ⟨b, i, none⟩ u).heap[k]? = w.heap[k]? := Below.heap_setCell _ _ _ k h
/-- The row that has room for one bit more. -/
def room (L : List Bool) : List Int := if L.length % 8 = 0 then pack L ++ [0] else pack L
structure Mid (w : World) (r g cap : Nat) (L : List Bool) : Prop where
  row : w.heap[r]? = some (.cells #[.slice (some ⟨g, 0, none⟩) (L.length / 8 + 1) cap, .int .i64 L.length] 63 (0, 0))
  own : w.ownsRow 0 5 1 (.slice (some ⟨g, 0, none⟩) (L.length / 8 + 1) cap) (L.length / 8 + 1) ((room L).map (Value.int .u8))
theorem own_heap {w : World} {g n cap : Nat} {xs : List Value} (h : w.ownsRow 0 5 1 (.slice (some ⟨g, 0, none⟩) n cap) n xs) : ∃ cur : Array Value, w.heap[g]? = some (.cells cur 5 (0, 0)) ∧ n ≤ cap ∧ cap ≤ maxLen ∧ cur.size = cap ∧ cur.toList.take n = xs := by
  rcases h.2 with ⟨h2, _⟩ | ⟨g', cap', cur, hv, _, hh, hn, hm, hs, ht⟩
  · cases h2
  · simp only [Value.slice.injEq, Option.some.injEq, Addr.mk.injEq, and_true, true_and] at hv
    obtain ⟨rfl, rfl⟩ := hv
    exact ⟨cur, hh, hn, hm, by simpa using hs, by simpa using ht⟩
theorem Mid.ne {w : World} {r g cap : Nat} {L : List Bool} (h : Mid w r g cap L) : r ≠ g := by
  intro e
  subst e
  obtain ⟨cur, hh, _⟩ := own_heap h.own
  rw [h.row] at hh
  simp at hh
theorem own_cell' {w : World} {g n cap : Nat} {l : List Int} (h : w.ownsRow 0 5 1 (.slice (some ⟨g, 0, none⟩) n cap) n (l.map (Value.int .u8))) (i : Nat) (hi : i < n) :
    w.cell? ⟨g, i, none⟩ = some (.int .u8 (l.getD i 0)) ∧ w.frozen? ⟨g, i, none⟩ = false := by
  obtain ⟨cur, hh, hn, hm, hs, ht⟩ := own_heap h
  refine ⟨?_, frozen_of_row _ _ _ _ _ hh⟩
  rw [cell_of_row w g i cur 5 (0, 0) hh]
  have hl : l.length = n := by have := h.1; simpa using this
  have e : (cur.toList.take n)[i]? = some (.int .u8 (l.getD i 0)) := by rw [ht]; simp [hl, hi]
  rw [List.getElem?_take, if_pos hi] at e
  simpa using e
/-- A cell of an owned row, stored anew. -/
theorem own_set {w : World} {g n cap : Nat} {l : List Int} (h : w.ownsRow 0 5 1 (.slice (some ⟨g, 0, none⟩) n cap) n (l.map (Value.int .u8))) (i : Nat) (z : Int) :
    (w.setCell ⟨g, i, none⟩ (.int .u8 z)).ownsRow 0 5 1 (.slice (some ⟨g, 0, none⟩) n cap) n ((l.set i z).map (Value.int .u8)) := by
  obtain ⟨cur, hh, hn, hm, hs, ht⟩ := own_heap h
  refine ⟨by have := h.1; simpa using this, .inr ⟨g, cap, _, rfl, Nat.zero_le _, heap_set_same hh i _, hn, hm, by simpa using hs, ?_⟩⟩
  rw [Nat.mul_one, Array.toList_setIfInBounds, List.take_set, ht, List.map_set]
theorem Mid.done {w : World} {r g cap : Nat} {L : List Bool} (h : Mid w r g cap L) (b : Bool) {z c : Int} (hz : z = ((byteAt L (L.length / 8) ||| (b.toNat * 2 ^ (7 - L.length % 8)) : Nat) : Int)) (hc : c = (L.length : Int) + 1) :
    Row ((w.setCell ⟨g, L.length / 8, none⟩ (.int .u8 z)).setCell ⟨r, 1, none⟩ (.int .i64 c)) r (.slice (some ⟨g, 0, none⟩) (L.length / 8 + 1) cap) (L ++ [b]) := by
  subst hz hc
  have hne := h.ne
  refine ⟨?_, ?_⟩
  · rw [heap_set_same (c := #[.slice (some ⟨g, 0, none⟩) (L.length / 8 + 1) cap, .int .i64 L.length]) (t := 63) (f := (0, 0))]
    · simp
    · rw [heap_set_other _ hne]; exact h.row
  · have h1 := own_set h.own (L.length / 8) ((byteAt L (L.length / 8) ||| (b.toNat * 2 ^ (7 - L.length % 8)) : Nat) : Int)
    rw [room, pack_snoc] at h1
    have h2 := h1.kept (w' := (w.setCell ⟨g, L.length / 8, none⟩ (.int .u8 ((byteAt L (L.length / 8) ||| (b.toNat * 2 ^ (7 - L.length % 8)) : Nat) : Int))).setCell ⟨r, 1, none⟩ (.int .i64 ((L.length : Int) + 1))) (row := some r)
      ⟨rfl, rfl, rfl, by simp [World.setCell], fun k _ hk => heap_set_other _ (fun e => hk (by rw [e])) _ _⟩ (.inr (by simp [Value.ownBlock]; exact fun e => hne e.symm))
    have hp : (pack (L ++ [b])).length = L.length / 8 + 1 := by rw [pack_length]; simp; omega
    rw [hp]
    exact h2
theorem Row.drew {w : World} {r : Nat} {v : Value} {L : List Bool} (h : Row w r v L) : Row w.drew r v L := ⟨h.row, h.own⟩
theorem Put.drew {r : Nat} {v v' : Value} {w w' : World} (h : Put r v v' w w') : Put r v v' w w'.drew := ⟨h.os, h.tape, h.output, h.size, h.block, h.where_⟩
/-- A store into the row's own bytes. -/
theorem Put.bytes {r g : Nat} {v v' : Value} {w w' : World} (h : Put r v v' w w') (hv : v'.ownBlock = some g) (i : Nat) (u : Value) : Put r v v' w (w'.setCell ⟨g, i, none⟩ u) := by
  refine ⟨h.os, h.tape, h.output, by have := h.size; simp [World.setCell]; omega, fun k hk hkr hkv => ?_, h.where_⟩
  rw [heap_set_other _ ?_, h.block k hk hkr hkv]
  rintro rfl
  rcases h.where_ with e | ⟨g', e, hg⟩
  · exact hkv (hv.symm.trans e)
  · rw [hv] at e; cases e; omega
/-- A store into the row itself. -/
theorem Put.cell {r : Nat} {v v' : Value} {w w' : World} (h : Put r v v' w w') (i : Nat) (u : Value) : Put r v v' w (w'.setCell ⟨r, i, none⟩ u) :=
  ⟨h.os, h.tape, h.output, by have := h.size; simp [World.setCell]; omega, fun k hk hkr hkv => by rw [heap_set_other _ hkr, h.block k hk hkr hkv], h.where_⟩
theorem grown_row {w w1 : World} {o : Obj} {x : Option Nat} {r : Nat} {v u : Value} (hg : (w.alloc o).grownBy w1 x) (hl : r < w.heap.size) (hx : some r ≠ x) (h : w.heap[r]? = some (.cells #[v, u] 63 (0, 0))) :
    Hid (w1.heap[r]? = some (.cells #[v, u] 63 (0, 0))) ∧ w1.cell? ⟨r, 0, none⟩ = some v ∧ w1.frozen? ⟨r, 0, none⟩ = false := by
  have hr1 : w1.heap[r]? = some (.cells #[v, u] 63 (0, 0)) := (hg.block r (by rw [World.size_alloc]; omega) hx).trans ((Below.heap_alloc _ _ _ hl).trans h)
  exact ⟨hr1, by simp [World.cell?, hr1], by simp [World.frozen?, hr1]⟩
theorem Row.not_own {w : World} {r : Nat} {v : Value} {L : List Bool} (h : Row w r v L) : some r ≠ v.ownBlock := by
  intro e
  rcases h.own.2 with ⟨rfl, _⟩ | ⟨g, cap, cur, rfl, _, hgb, _⟩
  · simp [Value.ownBlock] at e
  · simp only [Value.ownBlock, Option.some.injEq] at e
    subst e
    rw [h.row] at hgb
    simp at hgb
theorem or8 (x y : Nat) (hx : x < 256) (hy : y < 256) : bits .or .u8 (x : Int) (y : Int) = ((x ||| y : Nat) : Int) := by
  show IntKind.u8.wrap ((BitVec.ofInt 8 (x : Int) ||| BitVec.ofInt 8 (y : Int)).toNat : Int) = _
  rw [BitVec.toNat_or, BitVec.toNat_ofInt, BitVec.toNat_ofInt, IntKind.wrap_u8']
  have e1 : ((x : Int) % ((2 ^ 8 : Nat) : Int)).toNat = x := by omega
  have e2 : ((y : Int) % ((2 ^ 8 : Nat) : Int)).toNat = y := by omega
  rw [e1, e2]
  have := Nat.or_lt_two_pow (x := x) (y := y) (n := 8) hx hy
  omega
end Go.Proofs.YtfabpjgnmpkleaaGreatDoor.Bits
namespace Go.Proofs.YtfabpjgnmpkleaaGreatDoor.Bits
open Go.ChangeShapes Go.WideShapes Go.ChangeAt Go.RowKit
theorem shl8_lt (b : Bool) (k : Nat) (hk : k ≤ 7) : b.toNat * 2 ^ k < 256 := by
  have := Nat.pow_le_pow_right (n := 2) (by decide) hk
  cases b <;> simp <;> omega
theorem shl8 (b : Bool) (k : Nat) (hk : k ≤ 7) : (b.toNat : Int) * 2 ^ k % 256 = ((b.toNat * 2 ^ k : Nat) : Int) := by
  have h := shl8_lt b k hk
  have e : (b.toNat : Int) * 2 ^ k = ((b.toNat * 2 ^ k : Nat) : Int) := by simp
  rw [e]
  omega
/-- One bit more, where a byte is full. -/
theorem add1 (r : Nat) (v : Value) (b : Bool) (L : List Bool) (w : World) (hR : Row w r v L) (hL : L.length < 1099511627776) (h8 : L.length % 8 = 0) :
    Calls Tryz.prog 16 #[.pointer (some ⟨r, 0, none⟩), .int .u8 (b.toNat : Int)] w fun e w' => (∃ x, e = .returned x) ∧ ∃ v', Row w' r v' (L ++ [b]) ∧ Put r v v' w w' := by
  obtain ⟨i0, hi, hz0, hz1, hz2⟩ := info_parts info5
  have hr := hR.row
  have hown := hR.own
  have hc0 : w.cell? ⟨r, 0, none⟩ = some v := by simp [World.cell?, hr]
  have hc1 : w.cell? ⟨r, 1, none⟩ = some (.int .i64 L.length) := by simp [World.cell?, hr]
  have hpl := pack_length L
  have hrl : r < w.heap.size := (Array.getElem?_eq_some_iff.1 hr).1
  have hm : (L.length : Int) % 8 = 0 := by omega
  have hroom : Hid ((pack L).map (Value.int .u8) ++ [.int .u8 0] = (room L).map (Value.int .u8)) := by show _ = _; rw [room, if_pos h8]; simp
  have hmm : Hid ((pack L).length + 1 = L.length / 8 + 1) := by show _ = _; omega
  generalize (pack L).map (Value.int .u8) = xs at hown hroom
  generalize (pack L).length = m at hown hpl hmm
  obtain rfl : m = L.length / 8 := by omega
  clear hmm hpl
  have hrv := hR.not_own
  have hR' : Hid (Row w r v L) := hR
  have hr' : Hid (w.heap[r]? = some (.cells #[v, .int .i64 L.length] 63 (0, 0))) := hr
  clear hR hr
  go_enter Tryz.func16, Tryz.ntmps16
  go_wp2_with (at_builtin; refine wpList_append_own_at _ rfl _ _ 26 rfl 0 5 i0 (.int .u8 0) 1 1 Tryz.underlying26 hi hz0 hz1 hz2 rfl (by decide) v (L.length / 8) xs rfl (hown.alloc _) ⟨w.heap.size, 0, none⟩ 1 1 [.int .u8 0] rfl rfl (cell_one_new _ _ _) (by simp [Value.oneCell']) (by unfold maxLen; omega) (by omega) (Nat.zero_le _) ?_; intro v' w1 hown' hgrow hnil hat; obtain ⟨g', cap', rfl⟩ := ownsRow_succ hown'; clear hnil; obtain ⟨Hr1, hc10, hf10⟩ := grown_row hgrow hrl hrv hr'.out)
  have hMid : Mid (w1.setCell ⟨r, 0, none⟩ (.slice (some ⟨g', 0, none⟩) (L.length / 8 + 1) cap')) r g' cap' L := by
    refine ⟨by rw [heap_set_same Hr1.out]; simp, ?_⟩
    rw [← hroom.out]
    refine hown'.kept (grownBy_setCell' _ _ _) (.inr ?_)
    intro e
    simp only [Value.ownBlock, Option.some.injEq] at e
    subst e
    obtain ⟨cur, hh, _⟩ := own_heap hown'
    rw [Hr1.out] at hh
    simp at hh
  have hPut : Put r v (.slice (some ⟨g', 0, none⟩) (L.length / 8 + 1) cap') w (w1.setCell ⟨r, 0, none⟩ (.slice (some ⟨g', 0, none⟩) (L.length / 8 + 1) cap')) := by
    refine ⟨hgrow.os, hgrow.tape, hgrow.output, ?_, ?_, ?_⟩
    · have := hgrow.size; rw [World.size_alloc] at this; simp [World.setCell]; omega
    · intro k hk hkr hkv
      rw [heap_set_other _ hkr, hgrow.block k (by rw [World.size_alloc]; omega) hkv, Below.heap_alloc _ _ _ hk]
    · rcases hat with e | e
      · exact .inl e
      · exact .inr ⟨_, e, by rw [World.size_alloc]; omega⟩
  obtain ⟨W, hW⟩ : ∃ W, w1.setCell ⟨r, 0, none⟩ (.slice (some ⟨g', 0, none⟩) (L.length / 8 + 1) cap') = W := ⟨_, rfl⟩
  rw [hW] at hMid hPut ⊢
  clear hW Hr1 hc10 hf10 hat hown' hgrow hroom hown hc0 hc1 hrv hR' hr' hi hz0 hz1 hz2
  have hc0 : W.cell? ⟨r, 0, none⟩ = some (.slice (some ⟨g', 0, none⟩) (L.length / 8 + 1) cap') := by simp [World.cell?, hMid.row]
  have hc1 : W.cell? ⟨r, 1, none⟩ = some (.int .i64 L.length) := by simp [World.cell?, hMid.row]
  have hf1 : W.frozen? ⟨r, 1, none⟩ = false := by simp [World.frozen?, hMid.row]
  obtain ⟨hg0, hg1⟩ := own_cell' hMid.own (L.length / 8) (by omega)
  rw [room, room_getD] at hg0
  go_region
  have hne := hMid.ne
  have hz : bits BinOp.or IntKind.u8 (byteAt L (L.length / 8) : Int) ((b.toNat : Int) * 128 % 256) = ((byteAt L (L.length / 8) ||| (b.toNat * 2 ^ (7 - L.length % 8)) : Nat) : Int) := by
    have e : (b.toNat : Int) * 128 % 256 = ((b.toNat * 2 ^ (7 - L.length % 8) : Nat) : Int) := by cases b <;> simp [h8]
    rw [e, or8 _ _ (byteAt_lt _ _) (by cases b <;> simp [h8])]
  have HD : Hid (∀ c : Int, c = (L.length : Int) + 1 → Row ((W.setCell ⟨g', L.length / 8, none⟩ (.int .u8 (bits BinOp.or IntKind.u8 (byteAt L (L.length / 8) : Int) ((b.toNat : Int) * 128 % 256)))).setCell ⟨r, 1, none⟩ (.int .i64 c)) r (.slice (some ⟨g', 0, none⟩) (L.length / 8 + 1) cap') (L ++ [b])) := fun c => hMid.done b (c := c) hz
  clear hz
  generalize bits BinOp.or IntKind.u8 (byteAt L (L.length / 8) : Int) ((b.toNat : Int) * 128 % 256) = z at HD ⊢
  have hb1 : (W.setCell ⟨g', L.length / 8, none⟩ (.int .u8 z)).drew.cell? ⟨r, 1, none⟩ = some (.int .i64 L.length) := by
    rw [World.cell?_drew, World.cell?_setCell_other _ _ _ _ (by simp)]; exact hc1
  have hb2 : (W.setCell ⟨g', L.length / 8, none⟩ (.int .u8 z)).drew.frozen? ⟨r, 1, none⟩ = false := by
    rw [World.frozen?_drew, World.frozen?_setCell]; exact hf1
  go_wp2
  go_end0
  exact ⟨⟨_, rfl⟩, _, (HD.out _ rfl).drew, ((hPut.bytes rfl _ _).cell _ _).drew⟩
/-- One bit more, within a byte. -/
theorem add2 (r : Nat) (v : Value) (b : Bool) (L : List Bool) (w : World) (hR : Row w r v L) (hL : L.length < 1099511627776) (h8 : L.length % 8 ≠ 0) :
    Calls Tryz.prog 16 #[.pointer (some ⟨r, 0, none⟩), .int .u8 (b.toNat : Int)] w fun e w' => (∃ x, e = .returned x) ∧ ∃ v', Row w' r v' (L ++ [b]) ∧ Put r v v' w w' := by
  have hpl : (pack L).length = L.length / 8 + 1 := by rw [pack_length]; omega
  obtain ⟨g', cap', rfl⟩ := ownsRow_succ (k := L.length / 8) (by have := hR.own; rw [hpl] at this; exact this)
  have hMid : Mid w r g' cap' L := by
    refine ⟨hR.row, ?_⟩
    have := hR.own
    rw [room, if_neg h8, ← hpl]
    rw [← hpl] at this
    exact this
  have hPut := Put.refl r (.slice (some ⟨g', 0, none⟩) (L.length / 8 + 1) cap') w
  have hc0 : w.cell? ⟨r, 0, none⟩ = some (.slice (some ⟨g', 0, none⟩) (L.length / 8 + 1) cap') := by simp [World.cell?, hMid.row]
  have hc1 : w.cell? ⟨r, 1, none⟩ = some (.int .i64 L.length) := by simp [World.cell?, hMid.row]
  have hf1 : w.frozen? ⟨r, 1, none⟩ = false := by simp [World.frozen?, hMid.row]
  obtain ⟨hg0, hg1⟩ := own_cell' hMid.own (L.length / 8) (by omega)
  rw [room, room_getD] at hg0
  have hm : (L.length : Int) % 8 ≠ 0 := by omega
  clear hR hpl
  go_enter Tryz.func16, Tryz.ntmps16
  go_wp2
  go_region
  have hne := hMid.ne
  have hz : bits BinOp.or IntKind.u8 (byteAt L (L.length / 8) : Int) ((b.toNat : Int) * 2 ^ (7 - L.length % 8) % 256) = ((byteAt L (L.length / 8) ||| (b.toNat * 2 ^ (7 - L.length % 8)) : Nat) : Int) := by
    have e : (b.toNat : Int) * 2 ^ (7 - L.length % 8) % 256 = ((b.toNat * 2 ^ (7 - L.length % 8) : Nat) : Int) := shl8 b _ (by omega)
    rw [e, or8 _ _ (byteAt_lt _ _) (shl8_lt b _ (by omega))]
  have HD : Hid (∀ c : Int, c = (L.length : Int) + 1 → Row ((w.setCell ⟨g', L.length / 8, none⟩ (.int .u8 (bits BinOp.or IntKind.u8 (byteAt L (L.length / 8) : Int) ((b.toNat : Int) * 2 ^ (7 - L.length % 8) % 256)))).setCell ⟨r, 1, none⟩ (.int .i64 c)) r (.slice (some ⟨g', 0, none⟩) (L.length / 8 + 1) cap') (L ++ [b])) := fun c => hMid.done b (c := c) hz
  clear hz
  generalize bits BinOp.or IntKind.u8 (byteAt L (L.length / 8) : Int) ((b.toNat : Int) * 2 ^ (7 - L.length % 8) % 256) = z at HD ⊢
  have hb1 : (w.setCell ⟨g', L.length / 8, none⟩ (.int .u8 z)).drew.cell? ⟨r, 1, none⟩ = some (.int .i64 L.length) := by
    rw [World.cell?_drew, World.cell?_setCell_other _ _ _ _ (by simp)]; exact hc1
  have hb2 : (w.setCell ⟨g', L.length / 8, none⟩ (.int .u8 z)).drew.frozen? ⟨r, 1, none⟩ = false := by
    rw [World.frozen?_drew, World.frozen?_setCell]; exact hf1
  go_wp2
  go_end0
  exact ⟨⟨_, rfl⟩, _, (HD.out _ rfl).drew, ((hPut.bytes rfl _ _).cell _ _).drew⟩
/-- One bit more. -/
theorem add (r : Nat) (v : Value) (b : Bool) (L : List Bool) (w : World) (hR : Row w r v L) (hL : L.length < 1099511627776) :
    Calls Tryz.prog 16 #[.pointer (some ⟨r, 0, none⟩), .int .u8 (b.toNat : Int)] w fun e w' => (∃ x, e = .returned x) ∧ ∃ v', Row w' r v' (L ++ [b]) ∧ Put r v v' w w' := by
  by_cases h8 : L.length % 8 = 0
  · exact add1 r v b L w hR hL h8
  · exact add2 r v b L w hR hL h8
end Go.Proofs.YtfabpjgnmpkleaaGreatDoor.Bits
namespace Go.Proofs.YtfabpjgnmpkleaaGreatDoor.Bits
open Go.ChangeShapes Go.WideShapes Go.ChangeAt Go.RowKit Go.Shelf
attribute [local go_sem] Oper.semAt_some
/-- Blocks that lie as they lay. -/
def Kept (p : Nat → Prop) (W W' : World) : Prop := ∀ b, p b → W'.heap[b]? = W.heap[b]?
theorem bitsOf_take_succ (N k j : Nat) (h : j < k) : (bitsOf N k).take (j + 1) = (bitsOf N k).take j ++ [N.testBit (k - 1 - j)] := by
  rw [List.take_add_one]
  congr 1
  simp [bitsOf, h]
theorem and64 (x : Nat) (hx : x < 2 ^ 64) : bits .and .u64 (x : Int) 1 = ((x % 2 : Nat) : Int) := by
  show IntKind.u64.wrap ((BitVec.ofInt 64 (x : Int) &&& BitVec.ofInt 64 1).toNat : Int) = _
  rw [BitVec.toNat_and, BitVec.toNat_ofInt, BitVec.toNat_ofInt, IntKind.wrap_u64]
  have e1 : ((x : Int) % ((2 ^ 64 : Nat) : Int)).toNat = x := by omega
  have e2 : ((1 : Int) % ((2 ^ 64 : Nat) : Int)).toNat = 1 := by decide
  rw [e1, e2, Nat.and_one_is_mod]
  omega
theorem bit_of (N m : Nat) : N / 2 ^ m % 2 = (N.testBit m).toNat := by
  rw [Nat.testBit_eq_decide_div_mod_eq]
  by_cases h : N / 2 ^ m % 2 = 1
  · simp [h]
  · have : N / 2 ^ m % 2 = 0 := by omega
    simp [this]
theorem num_bit (N m : Nat) (hN : N < 2 ^ 64) : bits .and .u64 ((N : Int) / 2 ^ m) 1 = ((N.testBit m).toNat : Int) := by
  have e : (N : Int) / 2 ^ m = ((N / 2 ^ m : Nat) : Int) := by simp
  rw [e, and64 _ (Nat.lt_of_le_of_lt (Nat.div_le_self _ _) hN), bit_of]
theorem bit_mod (b : Bool) : (b.toNat : Int) % 256 = (b.toNat : Int) := by cases b <;> rfl
theorem ofNum1 (F : Fence) (n : Nat) (h26 : F.fn 69) (hro : F.round = none) (hn : 1 ≤ n) (l Bk Bn N k : Nat) (hk : k ≤ 64) (hN : N < 2 ^ 64) (J Jx : List Bool → World → Prop)
    (hY : ∀ pre x W, J pre W → pre.length < k → YieldAt F (n - 1) Tryz.prog l #[.int .u8 (x.toNat : Int)] W fun e W' =>
      (e = .returned (.bool true) ∧ J (pre ++ [x]) W' ∧ Kept (fun b => b = Bk ∨ b = Bn) W W') ∨ (e = .returned (.bool false) ∧ Jx (pre ++ [x]) W'))
    (W : World) (hBk : W.cell? ⟨Bk, 0, none⟩ = some (.int .i64 k)) (hBn : W.cell? ⟨Bn, 0, none⟩ = some (.int .u64 N)) (h0 : J [] W) :
    CallsIn F n Tryz.prog 69 #[.func (.yield l) #[] #[], .pointer (some ⟨Bk, 0, none⟩), .pointer (some ⟨Bn, 0, none⟩)] W fun e W' => (∃ v, e = .returned v) ∧
      ((∃ ys, ys = bitsOf N k ∧ J ys W') ∨ (∃ pre, True ∧ Jx pre W')) := by
  refine callsIn_of_wp Tryz.func69 rfl h26 ?_ hro
  simp only [Tryz.ntmps69, List.size_toArray, List.length_cons, List.length_nil, Nat.reduceAdd, Nat.reduceSub, Array.replicate_succ, Array.replicate_zero, List.push_toArray, List.append_toArray, List.nil_append, List.cons_append]
  gi_wp2
  gi_loopw [4] (fun p wr => ∃ j : Nat, j ≤ k ∧ p = .int .i64 ((k : Int) - 1 - j) ∧ J ((bitsOf N k).take j) wr ∧ wr.cell? ⟨Bk, 0, none⟩ = some (.int .i64 k) ∧ wr.cell? ⟨Bn, 0, none⟩ = some (.int .u64 N))
    (fun p wr => (intOf p + 1).toNat)
  case atStart => exact ⟨0, Nat.zero_le _, by go_num, h0, hBk, hBn⟩
  case round =>
    obtain ⟨j, hj, rfl, hJ, hBk', hBn'⟩ := hrel
    by_cases hlt : j < k
    · obtain ⟨m, hm⟩ : ∃ m : Nat, m = k - 1 - j := ⟨_, rfl⟩
      have hmi : (k : Int) - 1 - j = (m : Int) := by omega
      rw [hmi]
      obtain ⟨fn, tmps, assign, body, hy, hR⟩ := hY ((bitsOf N k).take j) (N.testBit m) wr hJ (by simp [bitsOf_length]; omega)
      have hm64 : m < 64 := by omega
      have hbit := num_bit N m hN
      have HS : Hid ((bitsOf N k).take (j + 1) = (bitsOf N k).take j ++ [N.testBit m]) := by rw [hm]; exact bitsOf_take_succ N k j hlt
      generalize N.testBit m = x at hbit hy hR HS
      have hx256 := bit_mod x
      have hmh : Hid (m = k - 1 - j) := hm
      clear hm hmi
      gi_wp2
      refine hR.mono ?_
      rintro e W3 (⟨rfl, hJ3, hk3⟩ | ⟨rfl, hJx3⟩)
      · gi_wp2
        go_roundw
        case rel => exact ⟨j + 1, by omega, by have := hmh.out; go_num, by rw [HS.out]; exact hJ3, (World.cell?_of_block (hk3 Bk (.inl rfl))).trans hBk', (World.cell?_of_block (hk3 Bn (.inr rfl))).trans hBn'⟩
        case measure => simp [intOf]
      · gi_wp2
        refine bodyPost_ret (results_none rfl _ _ _) rfl ?_
        exact ⟨⟨_, rfl⟩, .inr ⟨_, trivial, hJx3⟩⟩
    · gi_wp2
      go_end0
      exact ⟨⟨_, rfl⟩, .inl ⟨_, rfl, by rw [show (bitsOf N k) = (bitsOf N k).take j by rw [List.take_of_length_le]; rw [bitsOf_length]; omega]; exact hJ⟩⟩
end Go.Proofs.YtfabpjgnmpkleaaGreatDoor.Bits
namespace Go.Proofs.YtfabpjgnmpkleaaGreatDoor.Bits
open Go.ChangeShapes Go.WideShapes Go.ChangeAt Go.RowKit Go.Shelf
attribute [local go_sem] Oper.semAt_some
/-- A writer: the pointer a, its row r, the slice v of its bytes, its bits L. -/
structure Wr (w : World) (a r : Nat) (v : Value) (L : List Bool) : Prop where
  ptr : w.heap[a]? = some (.cells #[.pointer (some ⟨r, 0, none⟩)] 59 (0, 0))
  row : Row w r v L
theorem there_yes (a r : Nat) (w : World) (hp : w.heap[a]? = some (.cells #[.pointer (some ⟨r, 0, none⟩)] 59 (0, 0))) :
    Calls Tryz.prog 13 #[.pointer (some ⟨a, 0, none⟩)] w fun e w' => e = .returned (.bool true) ∧ w' = w := by
  have hc : w.cell? ⟨a, 0, none⟩ = some (.pointer (some ⟨r, 0, none⟩)) := by simp [World.cell?, hp]
  go_enter Tryz.func13, Tryz.ntmps13
  go_wp2
  go_ret
  exact ⟨rfl, rfl⟩
theorem there_nil (w : World) :
    Calls Tryz.prog 13 #[.pointer none] w fun e w' => e = .returned (.bool false) ∧ w' = w := by
  go_enter Tryz.func13, Tryz.ntmps13
  go_wp2
  go_ret
  exact ⟨rfl, rfl⟩
theorem there_zero (a : Nat) (w : World) (hp : w.heap[a]? = some (.cells #[.pointer none] 59 (0, 0))) :
    Calls Tryz.prog 13 #[.pointer (some ⟨a, 0, none⟩)] w fun e w' => e = .returned (.bool false) ∧ w' = w := by
  have hc : w.cell? ⟨a, 0, none⟩ = some (.pointer none) := by simp [World.cell?, hp]
  go_enter Tryz.func13, Tryz.ntmps13
  go_wp2
  go_ret
  exact ⟨rfl, rfl⟩
theorem isWidth (k : Int) (w : World) :
    Calls Tryz.prog 14 #[.int .i64 k] w fun e w' => e = .returned (.bool (decide (0 ≤ k ∧ k ≤ 64))) ∧ w' = w := by
  by_cases h0 : 0 ≤ k
  · by_cases h1 : k ≤ 64
    · go_enter Tryz.func14, Tryz.ntmps14
      go_wp2
      go_ret
      simp; omega
    · go_enter Tryz.func14, Tryz.ntmps14
      go_wp2
      go_ret
      simp [h1]
  · go_enter Tryz.func14, Tryz.ntmps14
    go_wp2
    go_ret
    simp; omega
theorem ofNumber (N k : Int) (w : World) :
    Calls Tryz.prog 15 #[.int .u64 N, .int .i64 k] w fun e w' => e = .returned (.func (.func 69) #[] #[.pointer (some ⟨w.heap.size + 1, 0, none⟩), .pointer (some ⟨w.heap.size, 0, none⟩)]) ∧
      w' = (w.alloc (.cells #[.int .u64 N] 50)).alloc (.cells #[.int .i64 k] 3) := by
  have hmf : ∀ (fn : Fn) (first cap : Array Value) (w : World), (Instr.makeFunc fn first cap).run Tryz.prog w = .ok (.func fn first cap) w := fun _ _ _ _ => rfl
  go_enter Tryz.func15, Tryz.ntmps15
  go_wp2
  go_ret
  simp
theorem Put.alloc {r : Nat} {v v' : Value} {w w' : World} (h : Put r v v' w w') (o : Obj) : Put r v v' w (w'.alloc o) :=
  ⟨h.os, h.tape, h.output, by have := h.size; rw [World.size_alloc]; omega, fun k hk hkr hkv => by rw [Below.heap_alloc _ _ _ (Nat.lt_of_lt_of_le hk h.size), h.block k hk hkr hkv], h.where_⟩
theorem Row.grown {w w' : World} {r : Nat} {v : Value} {L : List Bool} {x : Option Nat} (h : Row w r v L) (hg : w.grownBy w' x) (hr : some r ≠ x) (hv : v.ownBlock = none ∨ v.ownBlock ≠ x) : Row w' r v L :=
  ⟨(hg.block r (Array.getElem?_eq_some_iff.1 h.row).1 hr).trans h.row, h.own.kept hg hv⟩
theorem Wr.alloc {w : World} {a r : Nat} {v : Value} {L : List Bool} (h : Wr w a r v L) (o : Obj) : Wr (w.alloc o) a r v L :=
  ⟨(Below.heap_alloc _ _ _ (Array.getElem?_eq_some_iff.1 h.ptr).1).trans h.ptr, h.row.grown (World.grownBy_alloc w o none) (by simp) (by cases v.ownBlock <;> simp)⟩
theorem cells_ne {X : World} {B b : Nat} {row : Option Nat} {c : Array Value} {t : TypeId} {f : Nat × Nat} (h : X.heap[b]? = some (.cells c t f)) (hr : ∀ r, row = some r → B ≤ r ∧ ∃ o : Obj, X.heap[r]? = some o ∧ o.isCells = false) : some b ≠ row := by
  intro e
  obtain ⟨_, o, ho, hc⟩ := hr b e.symm
  rw [h] at ho
  cases ho
  cases hc
theorem Row.own_ne {X : World} {B r : Nat} {row : Option Nat} {v : Value} {L : List Bool} (h : Row X r v L) (hr : ∀ r, row = some r → B ≤ r ∧ ∃ o : Obj, X.heap[r]? = some o ∧ o.isCells = false) : v.ownBlock = none ∨ v.ownBlock ≠ row := by
  rcases h.own.2 with ⟨rfl, _⟩ | ⟨g, cap, cur, rfl, _, hgb, _⟩
  · exact .inl rfl
  · exact .inr (cells_ne hgb hr)
theorem Wr.turned {X Y : World} {B a r : Nat} {v : Value} {L : List Bool} {row : Option Nat} (h : Wr X a r v L) (hg : X.grownBy Y row) (hr : ∀ r, row = some r → B ≤ r ∧ ∃ o : Obj, X.heap[r]? = some o ∧ o.isCells = false) : Wr Y a r v L :=
  ⟨(hg.block a (Array.getElem?_eq_some_iff.1 h.ptr).1 (cells_ne h.ptr hr)).trans h.ptr, h.row.grown hg (cells_ne h.row.row hr) (h.row.own_ne hr)⟩
theorem Put.grown {r : Nat} {v v' : Value} {w X Y : World} {row : Option Nat} (h : Put r v v' w X) (hg : X.grownBy Y row) (hr : ∀ k, row = some k → w.heap.size ≤ k) : Put r v v' w Y :=
  ⟨hg.os.trans h.os, hg.tape.trans h.tape, hg.output.trans h.output, Nat.le_trans h.size hg.size, fun k hk hkr hkv => by
    rw [hg.block k (Nat.lt_of_lt_of_le hk h.size) (fun e => by have := hr k e.symm; omega), h.block k hk hkr hkv], h.where_⟩
/-- What a Put leaves of blocks that are neither the row nor its bytes. -/
theorem Put.keeps {r a : Nat} {v v' : Value} {L : List Bool} {w w' : World} (h : Put r v v' w w') (hW : Wr w a r v L) : KeepsOthers w w' :=
  ⟨h.size, fun k o hk ho => (h.block k (Array.getElem?_eq_some_iff.1 hk).1 (fun e => by subst e; rw [hW.row.row] at hk; cases hk; cases ho) (fun e => by
    rcases hW.row.own.2 with ⟨rfl, _⟩ | ⟨g, cap, cur, rfl, _, hgb, _⟩
    · simp [Value.ownBlock] at e
    · simp only [Value.ownBlock, Option.some.injEq] at e
      subst e
      rw [hgb] at hk; cases hk; cases ho)).trans hk⟩
theorem Wr.step {w w' : World} {a r : Nat} {v v' : Value} {L L' : List Bool} (h : Wr w a r v L) (hR : Row w' r v' L') (hP : Put r v v' w w') : Wr w' a r v' L' := by
  refine ⟨(hP.block a (Array.getElem?_eq_some_iff.1 h.ptr).1 ?_ ?_).trans h.ptr, hR⟩
  · rintro rfl
    have := h.ptr.symm.trans h.row.row
    simp at this
  · intro e
    rcases h.row.own.2 with ⟨rfl, _⟩ | ⟨g, cap, cur, rfl, _, hgb, _⟩
    · simp [Value.ownBlock] at e
    · simp only [Value.ownBlock, Option.some.injEq] at e
      subst e
      have := h.ptr.symm.trans hgb
      simp at this
theorem Row.own_lt {w : World} {r : Nat} {v : Value} {L : List Bool} (h : Row w r v L) {g : Nat} (e : v.ownBlock = some g) : g < w.heap.size := (h.own.lt g e).2
theorem put_ok (a r : Nat) (v : Value) (L : List Bool) (N k : Nat) (w : World) (hW : Wr w a r v L) (hk : k ≤ 64) (hN : N < 2 ^ k) (hL : L.length + k < 1099511627776) :
    Calls Tryz.prog 5 #[.pointer (some ⟨a, 0, none⟩), .int .u64 (N : Int), .int .i64 (k : Int)] w fun e w' => e = .returned (.int .i64 0) ∧ ∃ v', Wr w' a r v' (L ++ bitsOf N k) ∧ Put r v v' w w' := by
  have hN64 : N < 2 ^ 64 := Nat.lt_of_lt_of_le hN (Nat.pow_le_pow_right (by decide) hk)
  have hwid : decide ((0 : Int) ≤ (k : Int) ∧ (k : Int) ≤ 64) = true := by simp; omega
  have hdiv : (N : Int) / 2 ^ k = 0 := by
    have e : (N : Int) / 2 ^ k = ((N / 2 ^ k : Nat) : Int) := by simp
    rw [e, Nat.div_eq_of_lt hN]; rfl
  have hp := hW.ptr
  have h20 : Fence.wide.fn 14 := trivial
  have h22 : Fence.wide.fn 13 := trivial
  have h23 : Fence.wide.fn 15 := trivial
  have h24 : Fence.wide.fn 16 := trivial
  refine (callsIn_wide (n := 3)).1 ?_
  refine callsIn_of_wp_marks Tryz.func5 rfl trivial ?_ rfl
  simp only [Tryz.ntmps5, List.size_toArray, List.length_cons, List.length_nil, Nat.reduceAdd, Nat.reduceSub, Array.replicate_succ, Array.replicate_zero, List.push_toArray, List.append_toArray, List.nil_append, List.cons_append]
  gi_wp2_with (first | (gi_at_call 13; refine (callsIn_wide.2 (there_yes a r _ (hW.alloc _).ptr)).mono ?_; rintro e w' ⟨rfl, rfl⟩) | (gi_at_call 14; refine (callsIn_wide.2 (isWidth _ _)).mono ?_; rintro e w' ⟨rfl, rfl⟩; rw [hwid]) | (gi_at_call 15; refine (callsIn_wide.2 (ofNumber _ _ _)).mono ?_; rintro e w' ⟨rfl, rfl⟩))
  have hW0 : Wr (((w.alloc (Obj.cells #[Value.pointer (some ⟨a, 0, none⟩)] 23)).alloc (Obj.cells #[Value.int .u64 N] 50)).alloc (Obj.cells #[Value.int .i64 k] 3)) a r v L := ((hW.alloc _).alloc _).alloc _
  have hP0 : Put r v v w (((w.alloc (Obj.cells #[Value.pointer (some ⟨a, 0, none⟩)] 23)).alloc (Obj.cells #[Value.int .u64 N] 50)).alloc (Obj.cells #[Value.int .i64 k] 3)) := (((Put.refl r v w).alloc _).alloc _).alloc _
  have b0 : Boxed (((w.alloc (Obj.cells #[Value.pointer (some ⟨a, 0, none⟩)] 23)).alloc (Obj.cells #[Value.int .u64 N] 50)).alloc (Obj.cells #[Value.int .i64 k] 3)) w.heap.size 23 (.pointer (some ⟨a, 0, none⟩)) := ((Boxed.new w 23 _).alloc _).alloc _
  have b1 : Boxed (((w.alloc (Obj.cells #[Value.pointer (some ⟨a, 0, none⟩)] 23)).alloc (Obj.cells #[Value.int .u64 N] 50)).alloc (Obj.cells #[Value.int .i64 k] 3)) (w.heap.size + 1) 50 (.int .u64 N) := by
    have := Boxed.new (w.alloc (Obj.cells #[Value.pointer (some ⟨a, 0, none⟩)] 23)) 50 (.int .u64 N)
    rw [World.size_alloc] at this
    exact this.alloc _
  have b2 : Boxed (((w.alloc (Obj.cells #[Value.pointer (some ⟨a, 0, none⟩)] 23)).alloc (Obj.cells #[Value.int .u64 N] 50)).alloc (Obj.cells #[Value.int .i64 k] 3)) (w.heap.size + 1 + 1) 3 (.int .i64 k) := by
    have := Boxed.new ((w.alloc (Obj.cells #[Value.pointer (some ⟨a, 0, none⟩)] 23)).alloc (Obj.cells #[Value.int .u64 N] 50)) 3 (.int .i64 k)
    rw [World.size_alloc, World.size_alloc] at this
    exact this
  have hs0 : (((w.alloc (Obj.cells #[Value.pointer (some ⟨a, 0, none⟩)] 23)).alloc (Obj.cells #[Value.int .u64 N] 50)).alloc (Obj.cells #[Value.int .i64 k] 3)).heap.size = w.heap.size + 3 := by simp
  obtain ⟨W0, hW0e⟩ : ∃ W0, (((w.alloc (Obj.cells #[Value.pointer (some ⟨a, 0, none⟩)] 23)).alloc (Obj.cells #[Value.int .u64 N] 50)).alloc (Obj.cells #[Value.int .i64 k] 3)) = W0 := ⟨_, rfl⟩
  rw [hW0e] at hW0 hP0 b0 b1 b2 hs0 ⊢
  clear hW0e
  have hrl : r < w.heap.size := (Array.getElem?_eq_some_iff.1 hW.row.row).1
  refine wpIn_rangeFunc_ownG rfl (by decide) (gf := 69) (lb := #[.pointer (some ⟨w.heap.size + 1 + 1, 0, none⟩), .pointer (some ⟨w.heap.size + 1, 0, none⟩)]) rfl trivial (enters_of Tryz.func69 (by kernel_rfl) rfl)
    (encs := fun x : Bool => #[Value.int .u8 (x.toNat : Int)]) (Kp := Kept (fun b => b = w.heap.size + 1 + 1 ∨ b = w.heap.size + 1)) (S := fun ys => ys = bitsOf N k) (Sp := fun _ => True) (N := k) (w0 := W0)
    (fun l J Jx W hBW _ _ hY h0 => ofNum1 _ _ trivial rfl (by decide) l _ _ N k hk hN64 J Jx hY W ((hBW.cell (p := ⟨w.heap.size + 1 + 1, 0, none⟩) b2.lt).trans b2.cell) ((hBW.cell (p := ⟨w.heap.size + 1, 0, none⟩) b1.lt).trans b1.cell) h0)
    (fun h k b hb => (k b hb).trans (h b hb)) ?hKb (Below.refl _ _) (fun _ => rfl)
    (fun pre W => ∃ v', Wr W a r v' (L ++ pre) ∧ Put r v v' W0 W ∧ Boxed W w.heap.size 23 (.pointer (some ⟨a, 0, none⟩)))
    (fun _ _ _ => False) ?hI (fun _ _ _ _ _ hs _ _ => hs) ⟨v, by rw [List.append_nil]; exact hW0, Put.refl _ _ _, b0⟩
    (fun x => { tmps := #[Value.pointer (some ⟨a, 0, none⟩), Value.int .u64 N, Value.int .i64 k, Value.pointer (some ⟨w.heap.size, 0, none⟩), undef, undef, Value.int .i64 0, Value.int .u8 (x.toNat : Int),
      Value.pointer (some ⟨a, 0, none⟩), Value.bool true, Value.bool false, Value.int .i64 k, Value.bool true, Value.bool false, Value.bool false, Value.int .u64 N, Value.int .i64 k,
      Value.int .u64 0, Value.bool false, Value.bool false, Value.int .u64 N, Value.int .i64 k,
      Value.func (Fn.func 69) #[] #[Value.pointer (some ⟨w.heap.size + 1 + 1, 0, none⟩), Value.pointer (some ⟨w.heap.size + 1, 0, none⟩)],
      Value.int .u8 (x.toNat : Int), undef, undef, undef, undef, undef, undef], defers := [] }) ?assign ?body ?done ?stop
  case hKb =>
    intro W l o o' hl _ _ _ b hb
    exact World.putObj_heap_other (by omega)
  case hI =>
    rintro pre X Y row ⟨v', hw, hp', hb⟩ hg hrow
    exact ⟨v', hw.turned hg hrow, hp'.grown hg (fun k e => (hrow k e).1), hb.kept hg (cells_ne hb hrow)⟩
  case assign =>
    intro l x W K hK
    gi_wp2
    exact hK
  case body =>
    rintro l pre x W ⟨v', hw, hp', hb⟩ hlt
    have hc := hb.cell
    have hp := hw.ptr
    have hca : W.cell? ⟨a, 0, none⟩ = some (.pointer (some ⟨r, 0, none⟩)) := by simp [World.cell?, hp]
    gi_wp2_with (gi_at_call 16; refine (CallsIn.inRound l (callsIn_wide.2 (add r v' x (L ++ pre) _ hw.row (by simp; omega)))).mono ?_; rintro e W' ⟨⟨u, rfl⟩, v2, hR2, hP2⟩)
    have hkeep : ∀ b, w.heap.size ≤ b → b < w.heap.size + 3 → W'.heap[b]? = W.heap[b]? := fun b h1 h2 => by
      refine hP2.block b (by have := hp'.size; omega) (by omega) (fun e => ?_)
      rcases hp'.where_ with e' | ⟨g, e', hg⟩
      · have := hW.row.own_lt (e'.symm.trans e.symm); omega
      · rw [e'] at e; cases e; omega
    exact ⟨(hP2.keeps hw).from _, fun b hb' => hkeep b (by omega) (by omega), v2, by rw [← List.append_assoc]; exact hw.step hR2 hP2, hp'.trans hP2, (hkeep _ (Nat.le_refl _) (by omega)).trans hb⟩
  case done =>
    rintro D ys W hD rfl ⟨v', hw, hp', hb⟩ hK
    gi_wp2
    refine ⟨by simp, .inl ⟨_, _, rfl, run_takeDeferred hK, ?_⟩⟩
    have hrow : ∀ k, some D = some k → W0.heap.size ≤ k ∧ ∃ o : Obj, W.heap[k]? = some o ∧ o.isCells = false := fun k e => by cases e; exact ⟨hD, _, hK, rfl⟩
    refine ⟨_, results_tmp rfl _ _ _, rfl, v', hw.turned (grownBy_putObj' W D _) hrow, (hP0.trans hp').grown (grownBy_putObj' W D _) (fun k e => by cases e; have := hP0.size; omega)⟩
  case stop =>
    rintro D c pre W _ _ h _
    exact h.elim
/-- A number that it refuses. -/
theorem put_bad (a r : Nat) (v : Value) (L : List Bool) (N : Nat) (k : Int) (w : World) (hW : Wr w a r v L) (hb : ¬ (0 ≤ k ∧ k ≤ 64) ∨ ∃ q : Nat, k = q ∧ q ≤ 64 ∧ 2 ^ q ≤ N) :
    Calls Tryz.prog 5 #[.pointer (some ⟨a, 0, none⟩), .int .u64 (N : Int), .int .i64 k] w fun e w' => e = .returned (.int .i64 1) ∧ ∃ o, w' = w.alloc o := by
  rcases hb with hb | ⟨q, rfl, hq, hN⟩
  · have hwid : decide (0 ≤ k ∧ k ≤ 64) = false := by simp only [decide_eq_false_iff_not]; exact hb
    clear hb
    go_enter Tryz.func5, Tryz.ntmps5
    go_wp2_with (first | (go_at_call 13; refine (there_yes a r _ (hW.alloc _).ptr).mono ?_; rintro e w' ⟨rfl, rfl⟩) | (go_at_call 14; refine (isWidth _ _).mono ?_; rintro e w' ⟨rfl, rfl⟩; rw [hwid]))
    go_ret
    exact ⟨rfl, _, rfl⟩
  · have hwid : decide ((0 : Int) ≤ (q : Int) ∧ (q : Int) ≤ 64) = true := by simp; omega
    have hdiv : ((N : Int) / 2 ^ q != 0) = true := by
      have e : (N : Int) / 2 ^ q = ((N / 2 ^ q : Nat) : Int) := by simp
      have := Nat.div_pos hN (Nat.two_pow_pos q)
      rw [e]
      simp only [bne_iff_ne, ne_eq]
      omega
    have hqi : (q : Int) < 64 ∨ q = 64 := by omega
    clear hN
    go_enter Tryz.func5, Tryz.ntmps5
    go_wp2_with (first | (go_at_call 13; refine (there_yes a r _ (hW.alloc _).ptr).mono ?_; rintro e w' ⟨rfl, rfl⟩) | (go_at_call 14; refine (isWidth _ _).mono ?_; rintro e w' ⟨rfl, rfl⟩; rw [hwid]))
    go_ret
    exact ⟨rfl, _, rfl⟩
/-- A writer that is not there. -/
theorem put_nil (n k : Int) (w : World) :
    Calls Tryz.prog 5 #[.pointer none, .int .u64 n, .int .i64 k] w fun e w' => e = .returned (.int .i64 2) ∧ ∃ o, w' = w.alloc o := by
  go_enter Tryz.func5, Tryz.ntmps5
  go_wp2_with (go_at_call 13; refine (there_nil _).mono ?_; rintro e w' ⟨rfl, rfl⟩)
  go_ret
  exact ⟨rfl, _, rfl⟩
/-- A writer that no call made. -/
theorem put_zero (a : Nat) (n k : Int) (w : World) (hp : w.heap[a]? = some (.cells #[.pointer none] 59 (0, 0))) :
    Calls Tryz.prog 5 #[.pointer (some ⟨a, 0, none⟩), .int .u64 n, .int .i64 k] w fun e w' => e = .returned (.int .i64 2) ∧ ∃ o, w' = w.alloc o := by
  go_enter Tryz.func5, Tryz.ntmps5
  go_wp2_with (go_at_call 13; refine (there_zero a _ ((Below.heap_alloc _ _ _ (Array.getElem?_eq_some_iff.1 hp).1).trans hp)).mono ?_; rintro e w' ⟨rfl, rfl⟩)
  go_ret
  exact ⟨rfl, _, rfl⟩
end Go.Proofs.YtfabpjgnmpkleaaGreatDoor.Bits
namespace Go.Proofs.YtfabpjgnmpkleaaGreatDoor.Bits
open Go.ChangeShapes Go.WideShapes Go.ChangeAt Go.RowKit Go.Shelf
attribute [local go_sem] Oper.semAt_some
/-- A slice of bytes in memory: its elements. -/
def Elems (w : World) (a : Option Addr) (len : Nat) (l : List Int) : Prop :=
  l.length = len ∧ len ≤ 1048576 ∧ (∀ i, i < len → 0 ≤ l.getD i 0 ∧ l.getD i 0 < 256) ∧ (len = 0 ∨ ∃ b o, a = some ⟨b, o, none⟩ ∧ ∀ i, i < len → w.cell? ⟨b, o + i, none⟩ = some (.int .u8 (l.getD i 0)))
theorem Elems.below {w w' : World} {a : Option Addr} {len : Nat} {l : List Int} (h : Elems w a len l) (hb : Below w.heap.size w w') : Elems w' a len l := by
  obtain ⟨h1, h2, h3, h4⟩ := h
  refine ⟨h1, h2, h3, ?_⟩
  rcases h4 with h4 | ⟨b, o, ha, hc⟩
  · exact .inl h4
  · exact .inr ⟨b, o, ha, fun i hi => by rw [hb.cell (World.block_lt_of_cell? w _ (hc i hi))]; exact hc i hi⟩
theorem Kept.trans {p : Nat → Prop} {a b c : World} (h : Kept p a b) (k : Kept p b c) : Kept p a c := fun i hi => (k i hi).trans (h i hi)
theorem Kept.cell {p : Nat → Prop} {a b : World} (h : Kept p a b) {i o : Nat} (hi : p i) : b.cell? ⟨i, o, none⟩ = a.cell? ⟨i, o, none⟩ := World.cell?_of_block (a := ⟨i, o, none⟩) (h i hi)
end Go.Proofs.YtfabpjgnmpkleaaGreatDoor.Bits
namespace Go.Proofs.YtfabpjgnmpkleaaGreatDoor.Bits
open Go.ChangeShapes Go.WideShapes Go.ChangeAt Go.RowKit Go.Shelf
/-- New: a writer of no bits. -/
theorem new (w : World) :
    Calls Tryz.prog 4 #[] w fun e w' => e = .returned (.pointer (some ⟨w.heap.size + 1, 0, none⟩)) ∧ w'.heap.size = w.heap.size + 2 ∧ Wr w' (w.heap.size + 1) w.heap.size (.slice none 0 0) [] ∧ Below w.heap.size w w' := by
  go_enter Tryz.func4, Tryz.ntmps4
  go_wp2
  go_ret
  refine ⟨by simp, by simp, ⟨?_, ⟨?_, World.ownsRow_nil _ _ _ _⟩⟩, ((Below.refl _ w).alloc (Nat.le_refl _) _).alloc (by simp) _⟩
  · have := World.alloc_heap_new (w.alloc (.cells #[.slice none 0 0, .int .i64 0] 63)) (.cells #[.pointer (some ⟨w.heap.size, 0, none⟩)] 59)
    rw [World.size_alloc] at this
    exact this
  · exact (Below.heap_alloc _ _ _ (by simp)).trans (World.alloc_heap_new w _)
/-- Len: how many bits there are. -/
theorem len (a r : Nat) (v : Value) (L : List Bool) (w : World) (hW : Wr w a r v L) :
    Calls Tryz.prog 7 #[.pointer (some ⟨a, 0, none⟩)] w fun e w' => e = .returned (.int .i64 (L.length : Int)) ∧ w' = w := by
  have hca : w.cell? ⟨a, 0, none⟩ = some (.pointer (some ⟨r, 0, none⟩)) := by simp [World.cell?, hW.ptr]
  have hcr : w.cell? ⟨r, 1, none⟩ = some (.int .i64 (L.length : Int)) := by simp [World.cell?, hW.row.row]
  go_enter Tryz.func7, Tryz.ntmps7
  go_wp2_with (go_at_call 13; refine (there_yes a r _ hW.ptr).mono ?_; rintro e w2 ⟨rfl, h2⟩; rw [h2]; clear h2 w2)
  go_ret
  exact ⟨rfl, rfl⟩
/-- A block of bytes. -/
def Blk (w : World) (g : Nat) (l : List Int) : Prop := w.heap[g]? = some (.cells (l.map (Value.int .u8)).toArray 5 (0, 0))
theorem made_row {w w1 : World} {n : Nat} {xs : List Value} (h : w1.ownsRow w.heap.size 5 1 (.slice (some ⟨w.heap.size, 0, none⟩) n n) n xs) : ∃ cur : List Value, w1.heap[w.heap.size]? = some (.cells cur.toArray 5 (0, 0)) ∧ cur.length = n := by
  rcases h.2 with ⟨h2, _⟩ | ⟨g', cap', cur, hv, _, hh, hn, hm, hs, ht⟩
  · cases h2
  · simp only [Value.slice.injEq, Option.some.injEq, Addr.mk.injEq, and_true, true_and] at hv
    obtain ⟨rfl, rfl⟩ := hv
    exact ⟨cur.toList, by simpa using hh, by simpa using hs⟩
/-- Bytes: all of it, in new memory. -/
theorem bytes (a r : Nat) (v : Value) (L : List Bool) (w : World) (hW : Wr w a r v L) (hL : L.length < 1099511627776) :
    Calls Tryz.prog 8 #[.pointer (some ⟨a, 0, none⟩)] w fun e w' => e = .returned (.slice (some ⟨w.heap.size, 0, none⟩) (pack L).length (pack L).length) ∧ Blk w' w.heap.size (pack L) ∧ Below w.heap.size w w' := by
  obtain ⟨i0, hi, hz0, hz1, hz2⟩ := info_parts info5
  have hca : w.cell? ⟨a, 0, none⟩ = some (.pointer (some ⟨r, 0, none⟩)) := by simp [World.cell?, hW.ptr]
  have hcr : w.cell? ⟨r, 0, none⟩ = some v := by simp [World.cell?, hW.row.row]
  have hpl := pack_length L
  obtain ⟨n, hn⟩ : ∃ n, n = (pack L).length := ⟨_, rfl⟩
  obtain ⟨xs, hxs⟩ : ∃ xs, xs = (pack L).map (Value.int .u8) := ⟨_, rfl⟩
  have hown := hW.row.own
  rw [← hn, ← hxs] at hown
  obtain ⟨sp, cap, hv⟩ : ∃ sp cap, v = .slice sp n cap := by
    rcases hown.2 with ⟨rfl, rfl⟩ | ⟨g, cap, cur, rfl, _⟩
    · exact ⟨_, _, rfl⟩
    · exact ⟨_, _, rfl⟩
  subst hv
  have hnb : n ≤ 281474976710656 := by omega
  have Hxs : Hid (xs = (pack L).map (Value.int .u8)) := hxs
  have Hn : Hid (n = (pack L).length) := hn
  have hxl : Hid (xs.length = n) := by show _ = _; have := hown.1; simpa using this
  have hsrc : Hid (0 < n → ∃ ad, sp = some ad ∧ ∀ j u, xs[j]? = some u → w.cell? (ad.add j) = some u) := fun h0 => by
    rcases hown.2 with ⟨_, h⟩ | ⟨g, cap, cur, hv, _⟩
    · omega
    · cases hv
      exact ⟨_, rfl, hown.cells rfl⟩
  have hone : Hid (∀ u ∈ xs, u.oneCell' = true) := fun u hu => by
    rw [hxs] at hu
    obtain ⟨z, _, rfl⟩ := List.mem_map.1 hu
    rfl
  clear hpl hxs hn
  have hwr : Hid (Wr w a r (.slice sp n cap) L) := hW
  go_enter Tryz.func8, Tryz.ntmps8
  go_wp2_with (first | (go_at_call 13; refine (there_yes a r _ hW.ptr).mono ?_; rintro e w2 ⟨rfl, h2⟩; rw [h2]; clear h2 w2) | (at_make; refine wpList_make_full _ rfl _ _ 26 rfl w.heap.size 5 i0 (.int .u8 0) 1 Tryz.underlying26 hi hz0 hz1 _ _ _ _ n rfl rfl rfl rfl (by rw [hz2]; omega) (by unfold maxLen; omega) (Nat.le_refl _) ?_; intro w1 hown1 hgrow1; obtain ⟨cur, hcur, hcl⟩ := made_row hown1; have Hcur : Hid (w1.heap[w.heap.size]? = some (.cells cur.toArray 5 (0, 0))) := hcur; have Hcl : Hid (cur.length = n) := hcl; have hca1 : w1.cell? ⟨a, 0, none⟩ = some (.pointer (some ⟨r, 0, none⟩)) := hgrow1.cell hca (by exact fun h => by cases h); have hcr1 : w1.cell? ⟨r, 0, none⟩ = some (.slice sp n cap) := hgrow1.cell hcr (by exact fun h => by cases h); clear hcur hcl hown1) | (refine wpList_copy_splice rfl _ _ 26 26 rfl 5 Tryz.underlying26 (by kernel_rfl) (some ⟨w.heap.size, 0, none⟩) sp n n n cap rfl rfl w.heap.size 0 cur 5 Hcur.out xs (by rw [hxl.out]; exact (Nat.min_self n).symm) (fun h0 => ⟨rfl, (hsrc.out (by have := hxl.out; omega)).imp fun ad h => ⟨h.1, fun j u hu => hgrow1.cell (h.2 j u hu) (by exact fun h => by cases h)⟩⟩) (by have := hxl.out; have := Hcl.out; omega) hone.out w.heap.size w ((Below.refl _ _).grown hgrow1 (Nat.le_refl _) (fun k h => by cases h)) (Nat.le_refl _) ?_; intro w2 hg2 hb2))
  go_ret
  have hsp : splice cur 0 xs = xs := by
    have h1 := hxl.out
    have h2 := Hcl.out
    rw [splice, List.take_zero, List.nil_append, Nat.zero_add, List.drop_eq_nil_of_le (by omega), List.append_nil]
  refine ⟨by rw [Hn.out]; rfl, ?_, hb2⟩
  have := hg2.out
  rw [hsp, Hxs.out] at this
  exact this
theorem Blk.elems {w : World} {g : Nat} {l : List Int} (h : Blk w g l) (hb : ∀ i, i < l.length → 0 ≤ l.getD i 0 ∧ l.getD i 0 < 256) (hl : l.length ≤ 1048576) : Elems w (some ⟨g, 0, none⟩) l.length l :=
  ⟨rfl, hl, hb, .inr ⟨g, 0, rfl, fun i hi => by rw [Nat.zero_add, cell_of_row w g i _ 5 (0, 0) h]; simp [hi]⟩⟩
theorem pack_bytes (L : List Bool) : ∀ i, i < (pack L).length → 0 ≤ (pack L).getD i 0 ∧ (pack L).getD i 0 < 256 := fun i hi => by
  rw [pack_getD L i (by rw [pack_length] at hi; exact hi)]
  have := byteAt_lt L i
  omega
theorem below_drewN {B : Nat} {a w : World} (h : Below B a w) (n : Nat) : Below B a (w.drewN n) := h.trans ⟨rfl, rfl, rfl, Nat.le_refl _, fun _ _ => rfl⟩
theorem bstep {a w w' : World} (h : Below a.heap.size a w) (k : Below w.heap.size w w') : Below a.heap.size a w' := h.trans (k.mono h.size)
/-- SameBytes of slices whose elements are the same. -/
theorem same (a b : Option Addr) (len ca cb : Nat) (l : List Int) (w : World) (hA : Elems w a len l) (hB : Elems w b len l) :
    Calls Tryz.prog 9 #[.slice a len ca, .slice b len cb] w fun e w' => e = .returned (.bool true) ∧ ∃ n, w' = w.drewN n := by
  have hlm : len ≤ 1048576 := hA.2.1
  have hne : ((len : Int) != (len : Int)) = false := by simp
  go_enter Tryz.func9, Tryz.ntmps9
  go_wp2
  go_loopw [5] (fun i wr => ∃ k n : Nat, k ≤ len ∧ i = .int .i64 k ∧ wr = w.drewN n) (fun i _ => len - (intOf i).toNat)
  case atStart => exact ⟨0, 0, Nat.zero_le _, rfl, rfl⟩
  case round =>
    obtain ⟨k, n, hk, rfl, rfl⟩ := hrel
    by_cases hlt : k < len
    · obtain ⟨b1, o1, rfl, hc1⟩ := hA.2.2.2.resolve_left (by omega)
      obtain ⟨b2, o2, rfl, hc2⟩ := hB.2.2.2.resolve_left (by omega)
      have h1 := hc1 k hlt
      have h2 := hc2 k hlt
      generalize l.getD k 0 = z at h1 h2
      have hlt' : (k : Int) < (len : Int) := by omega
      have hk0 : (0 : Int) ≤ (k : Int) := by omega
      clear hc1 hc2 hA hB
      go_wp2
      go_quiet (fail)
      go_wp2
      go_roundw
      case rel => exact ⟨k + 1, n + nq, by omega, by go_num, rfl⟩
      case measure => simp [intOf]; omega
    · go_wp2
      go_ret
      exact ⟨rfl, n, rfl⟩
theorem same_b (a b : Option Addr) (len ca cb : Nat) (l : List Int) (w : World) (hA : Elems w a len l) (hB : Elems w b len l) :
    Calls Tryz.prog 9 #[.slice a len ca, .slice b len cb] w fun e w' => e = .returned (.bool true) ∧ Below w.heap.size w w' :=
  (same a b len ca cb l w hA hB).mono fun e w' ⟨h1, n, h2⟩ => ⟨h1, by rw [h2]; exact below_drewN (Below.refl _ _) n⟩
end Go.Proofs.YtfabpjgnmpkleaaGreatDoor.Bits
namespace Go.Proofs.YtfabpjgnmpkleaaGreatDoor.Bits
open Go.ChangeShapes Go.WideShapes Go.ChangeAt Go.RowKit Go.Shelf
/-- A writer all of whose memory lies at or beyond block B. -/
structure Pen (B : Nat) (w : World) (a r : Nat) (v : Value) (L : List Bool) : Prop where
  wr : Wr w a r v L
  lo : B ≤ r
  own : ∀ g, v.ownBlock = some g → B ≤ g
theorem Wr.kept {w w' : World} {a r : Nat} {v : Value} {L : List Bool} (h : Wr w a r v L) (hb : Below w.heap.size w w') : Wr w' a r v L := by
  refine ⟨(hb.block a (Array.getElem?_eq_some_iff.1 h.ptr).1).trans h.ptr, (hb.block r (Array.getElem?_eq_some_iff.1 h.row.row).1).trans h.row.row, h.row.own.kept (row := none) ⟨hb.os, hb.tape, hb.output, hb.size, fun k hk _ => hb.block k hk⟩ ?_⟩
  cases v.ownBlock <;> simp
theorem Pen.kept {B : Nat} {w w' : World} {a r : Nat} {v : Value} {L : List Bool} (h : Pen B w a r v L) (hb : Below w.heap.size w w') : Pen B w' a r v L := ⟨h.wr.kept hb, h.lo, h.own⟩
theorem Put.below {B r : Nat} {v v' : Value} {w w' : World} (h : Put r v v' w w') (hB : B ≤ w.heap.size) (hr : B ≤ r) (hv : ∀ g, v.ownBlock = some g → B ≤ g) : Below B w w' :=
  ⟨h.os, h.tape, h.output, h.size, fun k hk => h.block k (by omega) (by omega) (fun e => by have := hv k e.symm; omega)⟩
theorem put_a (w0 : World) (a r : Nat) (v : Value) (L : List Bool) (N k : Nat) (w : World) (hb : Below w0.heap.size w0 w) (hP : Pen w0.heap.size w a r v L) (hk : k ≤ 64) (hN : N < 2 ^ k) (hL : L.length + k < 1099511627776) :
    Calls Tryz.prog 5 #[.pointer (some ⟨a, 0, none⟩), .int .u64 (N : Int), .int .i64 (k : Int)] w fun e w' => e = .returned (.int .i64 0) ∧ ∃ v', Pen w0.heap.size w' a r v' (L ++ bitsOf N k) ∧ Below w0.heap.size w0 w' :=
  (put_ok a r v L N k w hP.wr hk hN hL).mono fun e w' ⟨he, v', hW, hp⟩ => ⟨he, v', ⟨hW, hP.lo, fun g hg => by
    rcases hp.where_ with e | ⟨g', e, hg'⟩
    · exact hP.own g (e ▸ hg)
    · rw [hg] at e; cases e; exact Nat.le_trans hb.size hg'⟩, hb.trans (hp.below hb.size hP.lo hP.own)⟩
theorem below_alloc (w : World) (o : Obj) : Below w.heap.size w (w.alloc o) := (Below.refl _ w).alloc (Nat.le_refl _) o
theorem bad_a (w0 : World) (a r : Nat) (v : Value) (L : List Bool) (N : Nat) (k : Int) (w : World) (hb : Below w0.heap.size w0 w) (hP : Pen w0.heap.size w a r v L) (hbad : ¬ (0 ≤ k ∧ k ≤ 64) ∨ ∃ q : Nat, k = q ∧ q ≤ 64 ∧ 2 ^ q ≤ N) :
    Calls Tryz.prog 5 #[.pointer (some ⟨a, 0, none⟩), .int .u64 (N : Int), .int .i64 k] w fun e w' => e = .returned (.int .i64 1) ∧ Pen w0.heap.size w' a r v L ∧ Below w0.heap.size w0 w' :=
  (put_bad a r v L N k w hP.wr hbad).mono fun e w' ⟨he, o, ho⟩ => by
    subst ho
    exact ⟨he, hP.kept (below_alloc w o), bstep hb (below_alloc w o)⟩
theorem new_a (w0 w : World) (hb : Below w0.heap.size w0 w) :
    Calls Tryz.prog 4 #[] w fun e w' => ∃ a r, e = .returned (.pointer (some ⟨a, 0, none⟩)) ∧ Pen w0.heap.size w' a r (.slice none 0 0) [] ∧ Below w0.heap.size w0 w' :=
  (new w).mono fun e w' ⟨he, _, hW, hb'⟩ => ⟨_, _, he, ⟨hW, hb.size, fun g hg => by simp [Value.ownBlock] at hg⟩, bstep hb hb'⟩
end Go.Proofs.YtfabpjgnmpkleaaGreatDoor.Bits
namespace Go.Proofs.YtfabpjgnmpkleaaGreatDoor.Bits
open Go.ChangeShapes Go.WideShapes Go.ChangeAt Go.RowKit
set_option linter.unusedVariables false
def bitV (b : Bool) : Value := .int .u8 (b.toNat : Int)
/-- The document's writer in block m: its bits L, in the slice v. -/
structure Ref (w : World) (m : Nat) (v : Value) (L : List Bool) : Prop where
  row : w.heap[m]? = some (.cells #[v] 28 (0, 0))
  own : w.ownsRow 0 5 1 v L.length (L.map bitV)
theorem Ref.not_own {w : World} {m : Nat} {v : Value} {L : List Bool} (h : Ref w m v L) : some m ≠ v.ownBlock := by
  intro e
  rcases h.own.2 with ⟨rfl, _⟩ | ⟨g, cap, cur, rfl, _, hgb, _⟩
  · simp [Value.ownBlock] at e
  · simp only [Value.ownBlock, Option.some.injEq] at e
    subst e
    rw [h.row] at hgb
    simp at hgb
theorem grown_ref {w w1 : World} {o : Obj} {x : Option Nat} {m : Nat} {v : Value} (hg : (w.alloc o).grownBy w1 x) (hx : some m ≠ x) (h : w.heap[m]? = some (.cells #[v] 28 (0, 0))) :
    Hid (w1.heap[m]? = some (.cells #[v] 28 (0, 0))) ∧ w1.cell? ⟨m, 0, none⟩ = some v ∧ w1.frozen? ⟨m, 0, none⟩ = false := by
  have hl := (Array.getElem?_eq_some_iff.1 h).1
  have hr1 : w1.heap[m]? = some (.cells #[v] 28 (0, 0)) := (hg.block m (by rw [World.size_alloc]; omega) hx).trans ((Below.heap_alloc _ _ _ hl).trans h)
  exact ⟨hr1, by simp [World.cell?, hr1], by simp [World.frozen?, hr1]⟩
theorem ref_appended {w w1 : World} {o : Obj} {m : Nat} {v : Value} {L : List Bool} {b : Bool} {g cap : Nat} (h : Ref w m v L) (Hr : Hid (w1.heap[m]? = some (.cells #[v] 28 (0, 0))))
    (ho : w1.ownsRow 0 5 1 (.slice (some ⟨g, 0, none⟩) (L.length + 1) cap) (L.length + 1) (L.map bitV ++ [bitV b])) (hg : (w.alloc o).grownBy w1 v.ownBlock) (hat : (Value.slice (some ⟨g, 0, none⟩) (L.length + 1) cap).ownBlock = v.ownBlock ∨ (Value.slice (some ⟨g, 0, none⟩) (L.length + 1) cap).ownBlock = some (w.alloc o).heap.size) :
    Ref (w1.setCell ⟨m, 0, none⟩ (.slice (some ⟨g, 0, none⟩) (L.length + 1) cap)) m (.slice (some ⟨g, 0, none⟩) (L.length + 1) cap) (L ++ [b]) ∧
    Put m v (.slice (some ⟨g, 0, none⟩) (L.length + 1) cap) w (w1.setCell ⟨m, 0, none⟩ (.slice (some ⟨g, 0, none⟩) (L.length + 1) cap)) := by
  refine ⟨⟨by rw [heap_set_same Hr.out]; simp, ?_⟩, ⟨hg.os, hg.tape, hg.output, ?_, ?_, ?_⟩⟩
  · have := ho.kept (grownBy_setCell' w1 m (.slice (some ⟨g, 0, none⟩) (L.length + 1) cap)) (.inr ?_)
    · simpa using this
    · intro e
      simp only [Value.ownBlock, Option.some.injEq] at e
      subst e
      obtain ⟨cur, hh, _⟩ := own_heap ho
      rw [Hr.out] at hh
      simp at hh
  · have := hg.size; rw [World.size_alloc] at this; simp [World.setCell]; omega
  · intro k hk hkr hkv
    rw [heap_set_other _ hkr, hg.block k (by rw [World.size_alloc]; omega) hkv, Below.heap_alloc _ _ _ hk]
  · rcases hat with e | e
    · exact .inl e
    · exact .inr ⟨_, e, by rw [World.size_alloc]; omega⟩
set_option maxRecDepth 100000 in
theorem refput_ok (m : Nat) (v : Value) (L : List Bool) (N k : Nat) (w : World) (hR : Ref w m v L) (hk : k ≤ 64) (hN : N < 2 ^ k) (hL : L.length + k < 1099511627776) :
    Calls Tryz.prog 6 #[.pointer (some ⟨m, 0, none⟩), .int .u64 (N : Int), .int .i64 (k : Int)] w fun e w' => e = .returned (.int .i64 0) ∧ ∃ v', Ref w' m v' (L ++ bitsOf N k) ∧ Put m v v' w w' := by
  obtain ⟨i0, hi, hz0, hz1, hz2⟩ := info_parts info5
  have hN64 : N < 2 ^ 64 := Nat.lt_of_lt_of_le hN (Nat.pow_le_pow_right (by decide) hk)
  have hdiv : (N : Int) / 2 ^ k = 0 := by
    have e : (N : Int) / 2 ^ k = ((N / 2 ^ k : Nat) : Int) := by simp
    rw [e, Nat.div_eq_of_lt hN]; rfl
  have hk64 : (k : Int) ≤ 64 := by omega
  go_enter Tryz.func6, Tryz.ntmps6
  go_wp2
  all_goals
    go_loopw [7] (fun p wr => ∃ (j : Nat) (v' : Value), j ≤ k ∧ p = .int .i64 ((k : Int) - 1 - j) ∧ Ref wr m v' (L ++ (bitsOf N k).take j) ∧ Put m v v' w wr) (fun p _ => (intOf p + 1).toNat)
    case atStart => exact ⟨0, v, Nat.zero_le _, by go_num, by simpa using hR, Put.refl _ _ _⟩
    case round =>
      obtain ⟨j, v', hj, rfl, hRj, hPj⟩ := hrel
      by_cases hlt : j < k
      · obtain ⟨q, hq⟩ : ∃ q : Nat, q = k - 1 - j := ⟨_, rfl⟩
        have hqi : (k : Int) - 1 - j = (q : Int) := by omega
        rw [hqi]
        have hq64 : q < 64 := by omega
        have hbit := num_bit N q hN64
        have HS : Hid (L ++ (bitsOf N k).take (j + 1) = (L ++ (bitsOf N k).take j) ++ [N.testBit q]) := by show _ = _; rw [hq, bitsOf_take_succ N k j hlt, List.append_assoc]
        have hlen : (L ++ (bitsOf N k).take j).length ≤ L.length + k := by simp [bitsOf_length]; omega
        generalize N.testBit q = x at hbit HS
        generalize L ++ (bitsOf N k).take j = M at hRj HS hlen
        have hx256 := bit_mod x
        have hqh : Hid (q = k - 1 - j) := hq
        have hc := (show wr.cell? ⟨m, 0, none⟩ = some v' by simp [World.cell?, hRj.row])
        have hno := hRj.not_own
        have hown := hRj.own
        have hrow : Hid (wr.heap[m]? = some (.cells #[v'] 28 (0, 0))) := hRj.row
        have hbv : Hid (Value.int .u8 (x.toNat : Int) = bitV x) := rfl
        clear hq hqi
        go_wp2_with (at_builtin; refine wpList_append_own_at _ rfl _ _ 26 rfl 0 5 i0 (.int .u8 0) 1 1 Tryz.underlying26 hi hz0 hz1 hz2 rfl (by decide) v' M.length (M.map bitV) rfl (hown.alloc _) ⟨wr.heap.size, 0, none⟩ 1 1 [bitV x] rfl rfl (cell_one_new _ _ _) (by simp [Value.oneCell', bitV]) (by unfold maxLen; omega) (by omega) (Nat.zero_le _) ?_; intro v2 w1 hown2 hgrow hnil hat; obtain ⟨g', cap', rfl⟩ := ownsRow_succ hown2; clear hnil; obtain ⟨Hr1, hc10, hf10⟩ := grown_ref hgrow hno hrow.out; obtain ⟨hR2, hP2⟩ := ref_appended hRj Hr1 hown2 hgrow hat)
        go_roundw
        case rel => exact ⟨j + 1, _, by omega, by have := hqh.out; go_num, by rw [HS.out]; exact hR2, hPj.trans hP2⟩
        case measure => simp [intOf]
      · have hjk : j = k := by omega
        subst hjk
        have e : (bitsOf N j).take j = bitsOf N j := List.take_of_length_le (by rw [bitsOf_length]; omega)
        rw [e] at hRj
        go_wp2
        go_ret
        exact ⟨rfl, v', hRj, hPj⟩
set_option maxRecDepth 100000 in
theorem refput_bad (m : Nat) (N : Nat) (k : Int) (w : World) (hN64 : N < 2 ^ 64) (hb : ¬ (0 ≤ k ∧ k ≤ 64) ∨ ∃ q : Nat, k = q ∧ q ≤ 64 ∧ 2 ^ q ≤ N) :
    Calls Tryz.prog 6 #[.pointer (some ⟨m, 0, none⟩), .int .u64 (N : Int), .int .i64 k] w fun e w' => e = .returned (.int .i64 1) ∧ w' = w := by
  rcases hb with hb | ⟨q, rfl, hq, hN⟩
  · by_cases h0 : k < 0
    · clear hb
      go_enter Tryz.func6, Tryz.ntmps6
      go_wp2
      go_ret
      exact ⟨rfl, rfl⟩
    · have h1 : 64 < k := by omega
      clear hb
      go_enter Tryz.func6, Tryz.ntmps6
      go_wp2
      go_ret
      exact ⟨rfl, rfl⟩
  · have hq64 : q < 64 := by
      by_cases h : q = 64
      · subst h; omega
      · omega
    have hdiv : ((N : Int) / 2 ^ q != 0) = true := by
      have e : (N : Int) / 2 ^ q = ((N / 2 ^ q : Nat) : Int) := by simp
      have := Nat.div_pos hN (Nat.two_pow_pos q)
      rw [e]
      simp only [bne_iff_ne, ne_eq]
      omega
    have hq1 : (q : Int) < 64 := by omega
    clear hN
    go_enter Tryz.func6, Tryz.ntmps6
    go_wp2
    go_ret
    exact ⟨rfl, rfl⟩
/-- A row of bits as so many bytes. -/
def packM (L : List Bool) (M : Nat) : List Int := (List.range M).map fun j => (byteAt L j : Int)
theorem packM_full (L : List Bool) : packM L ((L.length + 7) / 8) = pack L := rfl
theorem getD_snoc_ne (L : List Bool) (b : Bool) (i : Nat) (h : i ≠ L.length) : (L ++ [b]).getD i false = L.getD i false := by
  rw [List.getD_eq_getElem?_getD, List.getD_eq_getElem?_getD]
  by_cases hi : i < L.length
  · rw [List.getElem?_append_left hi]
  · rw [List.getElem?_eq_none (by simp; omega), List.getElem?_eq_none (by omega)]
theorem byteAt_other (L : List Bool) (b : Bool) (j : Nat) (h : j ≠ L.length / 8) : byteAt (L ++ [b]) j = byteAt L j := by
  apply Nat.eq_of_testBit_eq
  intro i
  by_cases hi : i < 8
  · rw [testBit_byteAt _ _ _ hi, testBit_byteAt _ _ _ hi, getD_snoc_ne _ _ _ (by omega)]
  · rw [testBit_byteAt_ge _ _ _ (by omega), testBit_byteAt_ge _ _ _ (by omega)]
theorem packM_snoc (L : List Bool) (b : Bool) (M : Nat) (h : L.length / 8 < M) :
    (packM L M).set (L.length / 8) ((byteAt L (L.length / 8) ||| (b.toNat * 2 ^ (7 - L.length % 8)) : Nat) : Int) = packM (L ++ [b]) M := by
  rw [← byteAt_last]
  apply List.ext_getElem
  · simp [packM]
  · intro i h1 h2
    rw [List.getElem_set]
    simp only [List.length_set, packM, List.length_map, List.length_range] at h1
    split
    · rename_i e
      subst e
      simp [packM]
    · rename_i e
      simp [packM]
      rw [byteAt_other _ _ _ (fun e' => e e'.symm)]
theorem packM_nil (M : Nat) : packM [] M = List.replicate M 0 := by
  apply List.ext_getElem
  · simp [packM]
  · intro i h1 h2
    have : byteAt [] i = 0 := by
      apply Nat.eq_of_testBit_eq
      intro t
      by_cases ht : t < 8
      · rw [testBit_byteAt _ _ _ ht]; simp
      · rw [testBit_byteAt_ge _ _ _ (by omega)]; simp
    simp [packM, this]
theorem packM_getD (L : List Bool) (M j : Nat) (h : j < M) : (packM L M).getD j 0 = (byteAt L j : Int) := by simp [packM, h]
theorem made_zero (M : Nat) : (madeCells (Value.int .u8 0).cells (M * 1)).toList = (packM [] M).map (Value.int .u8) := by
  rw [packM_nil]
  simp [madeCells, Value.cells]
  apply List.ext_getElem
  · simp
  · intro i h1 h2
    simp [Nat.mod_one]
end Go.Proofs.YtfabpjgnmpkleaaGreatDoor.Bits
namespace Go.Proofs.YtfabpjgnmpkleaaGreatDoor.Bits
open Go.ChangeShapes Go.WideShapes Go.ChangeAt Go.RowKit
set_option linter.unusedVariables false
theorem below_set0 {B : Nat} {w w' : World} (h : Below B w w') {g i : Nat} (hg : B ≤ g) (u : Value) : Below B w (w'.setCell ⟨g, i, none⟩ u) := h.setCell (p := ⟨g, i, none⟩) hg u
set_option maxRecDepth 100000 in
theorem refbytes (m : Nat) (v : Value) (L : List Bool) (w : World) (hR : Ref w m v L) (hL : L.length ≤ 100000) :
    Calls Tryz.prog 10 #[.pointer (some ⟨m, 0, none⟩)] w fun e w' => e = .returned (.slice (some ⟨w.heap.size, 0, none⟩) ((L.length + 7) / 8) ((L.length + 7) / 8)) ∧ Elems w' (some ⟨w.heap.size, 0, none⟩) ((L.length + 7) / 8) (pack L) ∧ Below w.heap.size w w' := by
  obtain ⟨i0, hi, hz0, hz1, hz2⟩ := info_parts info5
  have hc := (show w.cell? ⟨m, 0, none⟩ = some v by simp [World.cell?, hR.row])
  have hmlt : m < w.heap.size := (Array.getElem?_eq_some_iff.1 hR.row).1
  have hown := hR.own
  obtain ⟨sp, cap, hv⟩ : ∃ sp cap, v = .slice sp L.length cap := by
    rcases hown.2 with ⟨h, h'⟩ | ⟨g, cap, cur, h, _⟩
    · exact ⟨_, _, by rw [h, h']⟩
    · exact ⟨_, _, h⟩
  subst hv
  obtain ⟨M, hM⟩ : ∃ M, M = (L.length + 7) / 8 := ⟨_, rfl⟩
  have HM : Hid (M = (L.length + 7) / 8) := hM
  have hMi : ((L.length : Int) + 7) / 8 = (M : Int) := by omega
  have hM6 : M ≤ 20000 := by omega
  have hLi : (L.length : Int) ≤ 100000 := by omega
  have hr' : Hid (w.heap[m]? = some (.cells #[.slice sp L.length cap] 28 (0, 0))) := hR.row
  clear hM
  go_enter Tryz.func10, Tryz.ntmps10
  go_wp2_with (at_make; go_loud (refine wpList_make_full _ rfl _ _ 26 rfl 0 5 i0 (.int .u8 0) 1 Tryz.underlying26 hi hz0 hz1 _ _ _ _ M rfl rfl hMi hMi (by rw [hz2]; omega) (by unfold maxLen; omega) (Nat.zero_le _) ?_); intro w1 hown1 hgrow1; rw [made_zero] at hown1; have hb1 : Below w.heap.size w w1 := (Below.refl _ _).grown hgrow1 (Nat.le_refl _) (fun k h => by cases h))
  go_loopw [4] (fun i wr => ∃ j : Nat, j ≤ L.length ∧ i = .int .i64 j ∧ wr.ownsRow 0 5 1 (.slice (some ⟨w.heap.size, 0, none⟩) M M) M ((packM (L.take j) M).map (Value.int .u8)) ∧ Below w.heap.size w wr) (fun i _ => L.length - (intOf i).toNat)
  case atStart => exact ⟨0, Nat.zero_le _, rfl, hown1, hb1⟩
  case round =>
    obtain ⟨j, hj, rfl, ho, hb⟩ := hrel
    have hcm := (hb.cell (p := ⟨m, 0, none⟩) hmlt).trans hc
    by_cases hlt : j < L.length
    · obtain ⟨gl, rfl⟩ : ∃ gl, sp = some ⟨gl, 0, none⟩ := by
        rcases hown.2 with ⟨h, h'⟩ | ⟨g, cap, cur, h, _⟩
        · omega
        · cases h; exact ⟨_, rfl⟩
      have hcl := hown.cells (g := gl) rfl j (bitV (L.getD j false)) (by simp [hlt])
      rw [Addr.add_mid, Nat.zero_add] at hcl
      have hcl' := (hb.cell (p := ⟨gl, j, none⟩) (World.block_lt_of_cell? w _ hcl)).trans hcl
      have hM1 := HM.out
      have hj8 : j / 8 < M := by omega
      obtain ⟨ho0, ho1⟩ := own_cell' ho (j / 8) hj8
      rw [packM_getD _ _ _ hj8] at ho0
      have hlj : (L.take j).length = j := by simp; omega
      have hsn := packM_snoc (L.take j) (L.getD j false) M (by rw [hlj]; exact hj8)
      rw [hlj] at hsn
      have htk : L.take (j + 1) = L.take j ++ [L.getD j false] := by
        rw [List.take_succ_eq_append_getElem hlt]; simp [hlt]
      have HS : Hid ((packM (L.take j) M).set (j / 8) ((byteAt (L.take j) (j / 8) ||| ((L.getD j false).toNat * 2 ^ (7 - j % 8)) : Nat) : Int) = packM (L.take (j + 1)) M) := by rw [htk]; exact hsn
      have hor : bits BinOp.or IntKind.u8 (byteAt (L.take j) (j / 8) : Int) (((L.getD j false).toNat : Int) * 2 ^ (7 - j % 8) % 256) = ((byteAt (L.take j) (j / 8) ||| ((L.getD j false).toNat * 2 ^ (7 - j % 8)) : Nat) : Int) := by
        rw [shl8 _ _ (by omega), or8 _ _ (byteAt_lt _ _) (shl8_lt _ _ (by omega))]
      have Ho : Hid (wr.ownsRow 0 5 1 (.slice (some ⟨w.heap.size, 0, none⟩) M M) M ((packM (L.take j) M).map (Value.int .u8))) := ho
      have hxv : bitV (L.getD j false) = .int .u8 ((L.getD j false).toNat : Int) := rfl
      rw [hxv] at hcl'
      clear hsn htk ho hxv hM1 hlj
      generalize L.getD j false = x at hcl' hor HS
      generalize byteAt (L.take j) (j / 8) = y at ho0 hor HS
      have hlt' : (j : Int) < (L.length : Int) := by omega
      have hj8' : (j : Int) / 8 < (M : Int) := by omega
      go_wp2
      go_region
      have ho2 := own_set Ho.out (j / 8) ((y ||| x.toNat * 2 ^ (7 - j % 8) : Nat) : Int)
      rw [HS.out] at ho2
      have HO2 : Hid ((wr.setCell ⟨w.heap.size, j / 8, none⟩ (.int .u8 ((y ||| x.toNat * 2 ^ (7 - j % 8) : Nat) : Int))).drew.ownsRow 0 5 1 (.slice (some ⟨w.heap.size, 0, none⟩) M M) M ((packM (L.take (j + 1)) M).map (Value.int .u8))) := ho2
      have HB2 : Hid (Below w.heap.size w (wr.setCell ⟨w.heap.size, j / 8, none⟩ (.int .u8 ((y ||| x.toNat * 2 ^ (7 - j % 8) : Nat) : Int))).drew) := (below_set0 hb (Nat.le_refl _) _).drew
      clear ho2
      generalize (wr.setCell ⟨w.heap.size, j / 8, none⟩ (.int .u8 ((y ||| x.toNat * 2 ^ (7 - j % 8) : Nat) : Int))).drew = W2 at HO2 HB2 ⊢
      go_wp2
      go_roundw
      case rel => exact ⟨j + 1, by omega, by go_num, HO2.out, HB2.out⟩
      case measure => simp [intOf]; omega
    · have hjl : j = L.length := by omega
      have e : L.take j = L := List.take_of_length_le (by omega)
      rw [e] at ho
      have hMM := HM.out
      go_wp2
      go_ret
      refine ⟨by rw [hMM]; rfl, ?_, hb⟩
      rw [hMM] at ho
      rw [packM_full] at ho
      have hpl := pack_length L
      refine ⟨hpl, by omega, fun i hi' => pack_bytes L i (by omega), .inr ⟨_, 0, rfl, fun i hi' => ?_⟩⟩
      rw [Nat.zero_add]
      exact (own_cell' ho i hi').1
end Go.Proofs.YtfabpjgnmpkleaaGreatDoor.Bits
namespace Go.Proofs.YtfabpjgnmpkleaaGreatDoor.Bits
open Go.ChangeShapes Go.WideShapes Go.ChangeAt Go.RowKit
set_option linter.unusedVariables false
theorem own_frame' {w w' : World} {B n s : Nat} {t : TypeId} {v : Value} {xs : List Value} (h : w.ownsRow B t s v n xs) (hf : ∀ g, v.ownBlock = some g → w'.heap[g]? = w.heap[g]?) : w'.ownsRow B t s v n xs := by
  refine ⟨h.1, ?_⟩
  rcases h.2 with h2 | ⟨g, cap, cur, rfl, hb, hgb, rest⟩
  · exact .inl h2
  · exact .inr ⟨g, cap, cur, rfl, hb, (hf g rfl).trans hgb, rest⟩
def nilS : Value := .slice none 0 0
/-- The cells of a book that holds lists of bytes alone. -/
def bookCells (n : Nat) (vb : Value) : Array Value := #[.int .i64 (n : Int), vb, .slice none 0 0, .slice none 0 0, .slice none 0 0, .slice none 0 0, .slice none 0 0, .slice none 0 0, .slice none 0 0, .slice none 0 0, .slice none 0 0, .slice none 0 0, .slice none 0 0, .slice none 0 0, .slice none 0 0, .slice none 0 0, .slice none 0 0, .slice none 0 0]
structure Bk (w : World) (bk : Nat) (vb : Value) (n : Nat) (xs : List Value) : Prop where
  row : w.heap[bk]? = some (.cells (bookCells n vb) 47 (0, 0))
  own : w.ownsRow 0 73 3 vb n xs
theorem info73 : (Tryz.prog.info? 73).map (fun i => (i.zero, i.size, i.bytes)) = some (some (.agg #[.slice none 0 0, .slice none 0 0, .int .i64 0]), 3, 56) := by kernel_rfl
theorem Bk.not_own {w : World} {bk n : Nat} {vb : Value} {xs : List Value} (h : Bk w bk vb n xs) : some bk ≠ vb.ownBlock := by
  intro e
  rcases h.own.2 with ⟨rfl, _⟩ | ⟨g, cap, cur, rfl, _, hgb, _⟩
  · simp [Value.ownBlock] at e
  · simp only [Value.ownBlock, Option.some.injEq] at e
    subst e
    rw [h.row] at hgb
    simp at hgb
theorem book_n (n : Nat) (vb : Value) : (bookCells n vb).setIfInBounds 0 (.int .i64 ((n : Int) + 1)) = bookCells (n + 1) vb := by
  simp [bookCells]
theorem book_b (n : Nat) (vb vb' : Value) : (bookCells n vb).setIfInBounds 1 vb' = bookCells n vb' := by
  simp [bookCells]
theorem grown_book {w w2 : World} {o : Obj} {x : Option Nat} {bk n : Nat} {vb : Value} (hg : (w.alloc o).drew.grownBy w2 x) (hno : some bk ≠ x) (h : w.heap[bk]? = some (.cells (bookCells (n + 1) vb) 47 (0, 0))) :
    Hid (w2.heap[bk]? = some (.cells (bookCells (n + 1) vb) 47 (0, 0))) ∧ w2.cell? ⟨bk, 0, none⟩ = some (.int .i64 ((n : Int) + 1)) ∧ w2.cell? ⟨bk, 1, none⟩ = some vb ∧ w2.frozen? ⟨bk, 1, none⟩ = false := by
  have hl := (Array.getElem?_eq_some_iff.1 h).1
  have h2 : w2.heap[bk]? = some (.cells (bookCells (n + 1) vb) 47 (0, 0)) := (hg.block bk (by show bk < (w.alloc o).heap.size; rw [World.size_alloc]; omega) hno).trans ((Below.heap_alloc _ _ _ hl).trans h)
  exact ⟨h2, by simp [World.cell?, h2, bookCells], by simp [World.cell?, h2, bookCells], by simp [World.frozen?, h2]⟩
theorem book_put {w w1 w2 : World} {o : Obj} {bk n gg cap : Nat} {vb : Value} {ys : List Value} (hp : Put bk vb vb w w1) (Hr : Hid (w2.heap[bk]? = some (.cells (bookCells (n + 1) vb) 47 (0, 0)))) (ho : w2.ownsRow 0 73 3 (.slice (some ⟨gg, 0, none⟩) (n + 1) cap) (n + 1) ys)
    (hg : (w1.alloc o).drew.grownBy w2 vb.ownBlock) (hat : vb.ownBlock = some gg ∨ gg = w1.heap.size + 1) :
    Bk (w2.setCell ⟨bk, 1, none⟩ (.slice (some ⟨gg, 0, none⟩) (n + 1) cap)) bk (.slice (some ⟨gg, 0, none⟩) (n + 1) cap) (n + 1) ys ∧ Put bk vb (.slice (some ⟨gg, 0, none⟩) (n + 1) cap) w (w2.setCell ⟨bk, 1, none⟩ (.slice (some ⟨gg, 0, none⟩) (n + 1) cap)) := by
  have hs := hg.size
  have hs' : (w1.alloc o).heap.size ≤ w2.heap.size := hs
  rw [World.size_alloc] at hs'
  have hps := hp.size
  refine ⟨⟨by rw [heap_set_same Hr.out, book_b], ?_⟩, ⟨hg.os.trans hp.os, hg.tape.trans hp.tape, hg.output.trans hp.output, by simp [World.setCell]; omega, fun k hk hkr hkv => ?_, ?_⟩⟩
  · refine own_frame' ho fun g e => heap_set_other _ (fun e' => ?_) _ _
    subst e'
    rcases ho.2 with ⟨h, _⟩ | ⟨g', cap', cur, h, _, hgb, _⟩
    · cases h
    · cases h
      cases e
      rw [Hr.out] at hgb
      simp at hgb
  · rw [heap_set_other _ hkr, hg.block k (by show k < (w1.alloc o).heap.size; rw [World.size_alloc]; omega) hkv]
    exact (Below.heap_alloc _ _ _ (by omega)).trans (hp.block k hk hkr hkv)
  · rcases hat with e | e
    · exact .inl (by rw [e]; rfl)
    · exact .inr ⟨gg, rfl, by omega⟩
set_option maxRecDepth 100000 in
set_option maxHeartbeats 2000000 in
theorem keep (bk n : Nat) (vb : Value) (xs : List Value) (g m : Nat) (w : World) (hB : Bk w bk vb n xs) (hn : n < 1000) :
    Calls Tryz.prog 17 #[.pointer (some ⟨bk, 0, none⟩), .slice (some ⟨g, 0, none⟩) m m] w fun e w' => (∃ x, e = .returned x) ∧ ∃ vb', Bk w' bk vb' (n + 1) (xs ++ [.slice (some ⟨g, 0, none⟩) m m, .slice none 0 0, .int .i64 ((n : Int) + 1)]) ∧ Put bk vb vb' w w' := by
  obtain ⟨i0, hi, hz0, hz1, hz2⟩ := info_parts info73
  have hc0 : w.cell? ⟨bk, 0, none⟩ = some (.int .i64 (n : Int)) := by simp [World.cell?, hB.row, bookCells]
  have hf0 : w.frozen? ⟨bk, 0, none⟩ = false := by simp [World.frozen?, hB.row]
  have hno := hB.not_own
  have hni : (n : Int) < 1000 := by omega
  go_enter Tryz.func17, Tryz.ntmps17
  go_wp2
  have hr1 : (w.setCell ⟨bk, 0, none⟩ (.int .i64 ((n : Int) + 1))).heap[bk]? = some (.cells (bookCells (n + 1) vb) 47 (0, 0)) := by rw [heap_set_same hB.row, book_n]
  have ho1 : (w.setCell ⟨bk, 0, none⟩ (.int .i64 ((n : Int) + 1))).ownsRow 0 73 3 vb n xs := hB.own.kept (grownBy_setCell' w bk _) (.inr hno.symm)
  have hp1 : Put bk vb vb w (w.setCell ⟨bk, 0, none⟩ (.int .i64 ((n : Int) + 1))) := (Put.refl _ _ _).cell _ _
  generalize w.setCell ⟨bk, 0, none⟩ (.int .i64 ((n : Int) + 1)) = W1 at hr1 ho1 hp1 ⊢
  have lb : bk < W1.heap.size := (Array.getElem?_eq_some_iff.1 hr1).1
  have hw0 : W1.cell? ⟨bk, 0, none⟩ = some (.int .i64 ((n : Int) + 1)) := by simp [World.cell?, hr1, bookCells]
  have hw1 : W1.cell? ⟨bk, 1, none⟩ = some vb := by simp [World.cell?, hr1, bookCells]
  have hf1 : W1.frozen? ⟨bk, 1, none⟩ = false := by simp [World.frozen?, hr1]
  have Hr1 : Hid (W1.heap[bk]? = some (.cells (bookCells (n + 1) vb) 47 (0, 0))) := hr1
  clear hr1 hc0 hf0 hB
  go_region_law ((refine step_append_lies _ (by rfl) _ _ _ (by rfl) 0 73 i0 _ 3 56 Tryz.underlying29 hi hz0 hz1 hz2 rfl (by omega) vb n xs (by rfl) ((ho1.alloc _).drew) ⟨W1.heap.size, 0, none⟩ 1 1 [.slice (some ⟨g, 0, none⟩) m m, .slice none 0 0, .int .i64 ((n : Int) + 1)] (by rfl) (by rfl) (World.news_of_block (cs := #[.slice (some ⟨g, 0, none⟩) m m, .slice none 0 0, .int .i64 ((n : Int) + 1)]) (t := 73) (fr := (0, 0)) (heap_alloc_new W1 _)) (by simp [Value.oneCell']) (by omega) (by unfold maxLen; omega) (by omega) (Nat.zero_le _) (W1.heap.size + 1) (by simp) ?_; intro gg cap w2 hown2 hgrow hat hlt; obtain ⟨Hr2, hc20, hc2, hf2⟩ := grown_book hgrow hno Hr1.out; obtain ⟨hbk, hput⟩ := book_put hp1 Hr2 hown2 hgrow hat))
  all_goals (go_end0; exact ⟨⟨_, rfl⟩, _, hbk, hput⟩)
theorem keepB (bk n : Nat) (vb : Value) (xs : List Value) (g m : Nat) (w : World) (hB : Bk w bk vb n xs) (hn : n < 1000) :
    Calls Tryz.prog 11 #[.pointer (some ⟨bk, 0, none⟩), .slice (some ⟨g, 0, none⟩) m m] w fun e w' => (∃ x, e = .returned x) ∧ ∃ vb', Bk w' bk vb' (n + 1) (xs ++ [.slice (some ⟨g, 0, none⟩) m m, .slice none 0 0, .int .i64 ((n : Int) + 1)]) ∧ Put bk vb vb' w w' := by
  go_enter Tryz.func11, Tryz.ntmps11
  go_wp2_with (go_at_call 17; refine (keep bk n vb xs g m w hB hn).mono ?_; rintro e w' ⟨⟨u, rfl⟩, vb', h1, h2⟩)
  go_end0
  exact ⟨⟨_, rfl⟩, vb', h1, h2⟩
/-- The mark of a list's number. -/
def markOf (n : Nat) : Nat := 1 + n % 250
theorem mark (n : Nat) (w : World) (hn : n < 100000) :
    Calls Tryz.prog 70 #[.int .i64 (n : Int)] w fun e w' => e = .returned (.int .u8 (markOf n : Int)) ∧ w' = w := by
  have h : Hid (1 + (n : Int) % 250 = (markOf n : Int)) := by show _ = _; unfold markOf; omega
  have h2 : (1 + (n : Int) % 250) % 256 = (markOf n : Int) := by unfold markOf; omega
  go_enter Tryz.func70, Tryz.ntmps70
  go_wp2
  go_ret
  exact ⟨rfl, rfl⟩
theorem isMark (n : Nat) (w : World) (hn : n < 100000) :
    Calls Tryz.prog 87 #[.int .u8 (markOf n : Int), .int .i64 (n : Int)] w fun e w' => e = .returned (.bool true) ∧ w' = w := by
  have h2 : 1 + (n : Int) % 250 = (markOf n : Int) := by unfold markOf; omega
  go_enter Tryz.func87, Tryz.ntmps87
  go_wp2
  go_ret
  exact ⟨by simp, rfl⟩
end Go.Proofs.YtfabpjgnmpkleaaGreatDoor.Bits
namespace Go.Proofs.YtfabpjgnmpkleaaGreatDoor.Bits
open Go.ChangeShapes Go.WideShapes Go.ChangeAt Go.RowKit
set_option linter.unusedVariables false
set_option maxRecDepth 100000
theorem e18 (bk n : Nat) (xs : List Value) (w : World) (h : Bk w bk (.slice none 0 0) n xs) : Calls Tryz.prog 18 #[.pointer (some ⟨bk, 0, none⟩)] w fun e w' => (∃ x, e = .returned x) ∧ w' = w := by
  have hc : w.cell? ⟨bk, 1, none⟩ = some (.slice none 0 0) := by simp [World.cell?, h.row, bookCells]
  go_enter Tryz.func18, Tryz.ntmps18
  go_wp2
  go_loopw [2] (fun i wr => i = .int .i64 0 ∧ wr = w) (fun _ _ => 0)
  case atStart => exact ⟨rfl, rfl⟩
  case round =>
    obtain ⟨rfl, hw⟩ := hrel
    subst hw
    go_wp2
    go_end0
    exact ⟨⟨_, rfl⟩, rfl⟩
theorem e19 (bk n : Nat) (vb : Value) (xs : List Value) (w : World) (h : Bk w bk vb n xs) : Calls Tryz.prog 19 #[.pointer (some ⟨bk, 0, none⟩)] w fun e w' => (∃ x, e = .returned x) ∧ w' = w := by
  have hc : w.cell? ⟨bk, 2, none⟩ = some (.slice none 0 0) := by simp [World.cell?, h.row, bookCells]
  go_enter Tryz.func19, Tryz.ntmps19
  go_wp2
  go_loopw [2] (fun i wr => i = .int .i64 0 ∧ wr = w) (fun _ _ => 0)
  case atStart => exact ⟨rfl, rfl⟩
  case round =>
    obtain ⟨rfl, hw⟩ := hrel
    subst hw
    go_wp2
    go_end0
    exact ⟨⟨_, rfl⟩, rfl⟩
theorem e20 (bk n : Nat) (vb : Value) (xs : List Value) (w : World) (h : Bk w bk vb n xs) : Calls Tryz.prog 20 #[.pointer (some ⟨bk, 0, none⟩)] w fun e w' => (∃ x, e = .returned x) ∧ w' = w := by
  have hc : w.cell? ⟨bk, 3, none⟩ = some (.slice none 0 0) := by simp [World.cell?, h.row, bookCells]
  go_enter Tryz.func20, Tryz.ntmps20
  go_wp2
  go_loopw [2] (fun i wr => i = .int .i64 0 ∧ wr = w) (fun _ _ => 0)
  case atStart => exact ⟨rfl, rfl⟩
  case round =>
    obtain ⟨rfl, hw⟩ := hrel
    subst hw
    go_wp2
    go_end0
    exact ⟨⟨_, rfl⟩, rfl⟩
theorem e21 (bk n : Nat) (vb : Value) (xs : List Value) (w : World) (h : Bk w bk vb n xs) : Calls Tryz.prog 21 #[.pointer (some ⟨bk, 0, none⟩)] w fun e w' => (∃ x, e = .returned x) ∧ w' = w := by
  have hc : w.cell? ⟨bk, 4, none⟩ = some (.slice none 0 0) := by simp [World.cell?, h.row, bookCells]
  go_enter Tryz.func21, Tryz.ntmps21
  go_wp2
  go_loopw [2] (fun i wr => i = .int .i64 0 ∧ wr = w) (fun _ _ => 0)
  case atStart => exact ⟨rfl, rfl⟩
  case round =>
    obtain ⟨rfl, hw⟩ := hrel
    subst hw
    go_wp2
    go_end0
    exact ⟨⟨_, rfl⟩, rfl⟩
theorem e22 (bk n : Nat) (vb : Value) (xs : List Value) (w : World) (h : Bk w bk vb n xs) : Calls Tryz.prog 22 #[.pointer (some ⟨bk, 0, none⟩)] w fun e w' => (∃ x, e = .returned x) ∧ w' = w := by
  have hc : w.cell? ⟨bk, 5, none⟩ = some (.slice none 0 0) := by simp [World.cell?, h.row, bookCells]
  go_enter Tryz.func22, Tryz.ntmps22
  go_wp2
  go_loopw [2] (fun i wr => i = .int .i64 0 ∧ wr = w) (fun _ _ => 0)
  case atStart => exact ⟨rfl, rfl⟩
  case round =>
    obtain ⟨rfl, hw⟩ := hrel
    subst hw
    go_wp2
    go_end0
    exact ⟨⟨_, rfl⟩, rfl⟩
theorem e23 (bk n : Nat) (vb : Value) (xs : List Value) (w : World) (h : Bk w bk vb n xs) : Calls Tryz.prog 23 #[.pointer (some ⟨bk, 0, none⟩)] w fun e w' => (∃ x, e = .returned x) ∧ w' = w := by
  have hc : w.cell? ⟨bk, 6, none⟩ = some (.slice none 0 0) := by simp [World.cell?, h.row, bookCells]
  go_enter Tryz.func23, Tryz.ntmps23
  go_wp2
  go_loopw [2] (fun i wr => i = .int .i64 0 ∧ wr = w) (fun _ _ => 0)
  case atStart => exact ⟨rfl, rfl⟩
  case round =>
    obtain ⟨rfl, hw⟩ := hrel
    subst hw
    go_wp2
    go_end0
    exact ⟨⟨_, rfl⟩, rfl⟩
theorem e24 (bk n : Nat) (vb : Value) (xs : List Value) (w : World) (h : Bk w bk vb n xs) : Calls Tryz.prog 24 #[.pointer (some ⟨bk, 0, none⟩)] w fun e w' => (∃ x, e = .returned x) ∧ w' = w := by
  have hc : w.cell? ⟨bk, 7, none⟩ = some (.slice none 0 0) := by simp [World.cell?, h.row, bookCells]
  go_enter Tryz.func24, Tryz.ntmps24
  go_wp2
  go_loopw [2] (fun i wr => i = .int .i64 0 ∧ wr = w) (fun _ _ => 0)
  case atStart => exact ⟨rfl, rfl⟩
  case round =>
    obtain ⟨rfl, hw⟩ := hrel
    subst hw
    go_wp2
    go_end0
    exact ⟨⟨_, rfl⟩, rfl⟩
theorem e25 (bk n : Nat) (vb : Value) (xs : List Value) (w : World) (h : Bk w bk vb n xs) : Calls Tryz.prog 25 #[.pointer (some ⟨bk, 0, none⟩)] w fun e w' => (∃ x, e = .returned x) ∧ w' = w := by
  have hc : w.cell? ⟨bk, 8, none⟩ = some (.slice none 0 0) := by simp [World.cell?, h.row, bookCells]
  go_enter Tryz.func25, Tryz.ntmps25
  go_wp2
  go_loopw [2] (fun i wr => i = .int .i64 0 ∧ wr = w) (fun _ _ => 0)
  case atStart => exact ⟨rfl, rfl⟩
  case round =>
    obtain ⟨rfl, hw⟩ := hrel
    subst hw
    go_wp2
    go_end0
    exact ⟨⟨_, rfl⟩, rfl⟩
theorem e26 (bk n : Nat) (vb : Value) (xs : List Value) (w : World) (h : Bk w bk vb n xs) : Calls Tryz.prog 26 #[.pointer (some ⟨bk, 0, none⟩)] w fun e w' => (∃ x, e = .returned x) ∧ w' = w := by
  have hc : w.cell? ⟨bk, 9, none⟩ = some (.slice none 0 0) := by simp [World.cell?, h.row, bookCells]
  go_enter Tryz.func26, Tryz.ntmps26
  go_wp2
  go_loopw [2] (fun i wr => i = .int .i64 0 ∧ wr = w) (fun _ _ => 0)
  case atStart => exact ⟨rfl, rfl⟩
  case round =>
    obtain ⟨rfl, hw⟩ := hrel
    subst hw
    go_wp2
    go_end0
    exact ⟨⟨_, rfl⟩, rfl⟩
theorem e27 (bk n : Nat) (vb : Value) (xs : List Value) (w : World) (h : Bk w bk vb n xs) : Calls Tryz.prog 27 #[.pointer (some ⟨bk, 0, none⟩)] w fun e w' => (∃ x, e = .returned x) ∧ w' = w := by
  have hc : w.cell? ⟨bk, 10, none⟩ = some (.slice none 0 0) := by simp [World.cell?, h.row, bookCells]
  go_enter Tryz.func27, Tryz.ntmps27
  go_wp2
  go_loopw [2] (fun i wr => i = .int .i64 0 ∧ wr = w) (fun _ _ => 0)
  case atStart => exact ⟨rfl, rfl⟩
  case round =>
    obtain ⟨rfl, hw⟩ := hrel
    subst hw
    go_wp2
    go_end0
    exact ⟨⟨_, rfl⟩, rfl⟩
theorem e28 (bk n : Nat) (vb : Value) (xs : List Value) (w : World) (h : Bk w bk vb n xs) : Calls Tryz.prog 28 #[.pointer (some ⟨bk, 0, none⟩)] w fun e w' => (∃ x, e = .returned x) ∧ w' = w := by
  have hc : w.cell? ⟨bk, 11, none⟩ = some (.slice none 0 0) := by simp [World.cell?, h.row, bookCells]
  go_enter Tryz.func28, Tryz.ntmps28
  go_wp2
  go_loopw [2] (fun i wr => i = .int .i64 0 ∧ wr = w) (fun _ _ => 0)
  case atStart => exact ⟨rfl, rfl⟩
  case round =>
    obtain ⟨rfl, hw⟩ := hrel
    subst hw
    go_wp2
    go_end0
    exact ⟨⟨_, rfl⟩, rfl⟩
theorem e29 (bk n : Nat) (vb : Value) (xs : List Value) (w : World) (h : Bk w bk vb n xs) : Calls Tryz.prog 29 #[.pointer (some ⟨bk, 0, none⟩)] w fun e w' => (∃ x, e = .returned x) ∧ w' = w := by
  have hc : w.cell? ⟨bk, 12, none⟩ = some (.slice none 0 0) := by simp [World.cell?, h.row, bookCells]
  go_enter Tryz.func29, Tryz.ntmps29
  go_wp2
  go_loopw [2] (fun i wr => i = .int .i64 0 ∧ wr = w) (fun _ _ => 0)
  case atStart => exact ⟨rfl, rfl⟩
  case round =>
    obtain ⟨rfl, hw⟩ := hrel
    subst hw
    go_wp2
    go_end0
    exact ⟨⟨_, rfl⟩, rfl⟩
theorem e30 (bk n : Nat) (vb : Value) (xs : List Value) (w : World) (h : Bk w bk vb n xs) : Calls Tryz.prog 30 #[.pointer (some ⟨bk, 0, none⟩)] w fun e w' => (∃ x, e = .returned x) ∧ w' = w := by
  have hc : w.cell? ⟨bk, 13, none⟩ = some (.slice none 0 0) := by simp [World.cell?, h.row, bookCells]
  go_enter Tryz.func30, Tryz.ntmps30
  go_wp2
  go_loopw [2] (fun i wr => i = .int .i64 0 ∧ wr = w) (fun _ _ => 0)
  case atStart => exact ⟨rfl, rfl⟩
  case round =>
    obtain ⟨rfl, hw⟩ := hrel
    subst hw
    go_wp2
    go_end0
    exact ⟨⟨_, rfl⟩, rfl⟩
theorem e31 (bk n : Nat) (vb : Value) (xs : List Value) (w : World) (h : Bk w bk vb n xs) : Calls Tryz.prog 31 #[.pointer (some ⟨bk, 0, none⟩)] w fun e w' => (∃ x, e = .returned x) ∧ w' = w := by
  have hc : w.cell? ⟨bk, 14, none⟩ = some (.slice none 0 0) := by simp [World.cell?, h.row, bookCells]
  go_enter Tryz.func31, Tryz.ntmps31
  go_wp2
  go_loopw [2] (fun i wr => i = .int .i64 0 ∧ wr = w) (fun _ _ => 0)
  case atStart => exact ⟨rfl, rfl⟩
  case round =>
    obtain ⟨rfl, hw⟩ := hrel
    subst hw
    go_wp2
    go_end0
    exact ⟨⟨_, rfl⟩, rfl⟩
theorem e32 (bk n : Nat) (vb : Value) (xs : List Value) (w : World) (h : Bk w bk vb n xs) : Calls Tryz.prog 32 #[.pointer (some ⟨bk, 0, none⟩)] w fun e w' => (∃ x, e = .returned x) ∧ w' = w := by
  have hc : w.cell? ⟨bk, 15, none⟩ = some (.slice none 0 0) := by simp [World.cell?, h.row, bookCells]
  go_enter Tryz.func32, Tryz.ntmps32
  go_wp2
  go_loopw [2] (fun i wr => i = .int .i64 0 ∧ wr = w) (fun _ _ => 0)
  case atStart => exact ⟨rfl, rfl⟩
  case round =>
    obtain ⟨rfl, hw⟩ := hrel
    subst hw
    go_wp2
    go_end0
    exact ⟨⟨_, rfl⟩, rfl⟩
theorem e33 (bk n : Nat) (vb : Value) (xs : List Value) (w : World) (h : Bk w bk vb n xs) : Calls Tryz.prog 33 #[.pointer (some ⟨bk, 0, none⟩)] w fun e w' => (∃ x, e = .returned x) ∧ w' = w := by
  have hc : w.cell? ⟨bk, 16, none⟩ = some (.slice none 0 0) := by simp [World.cell?, h.row, bookCells]
  go_enter Tryz.func33, Tryz.ntmps33
  go_wp2
  go_loopw [2] (fun i wr => i = .int .i64 0 ∧ wr = w) (fun _ _ => 0)
  case atStart => exact ⟨rfl, rfl⟩
  case round =>
    obtain ⟨rfl, hw⟩ := hrel
    subst hw
    go_wp2
    go_end0
    exact ⟨⟨_, rfl⟩, rfl⟩
theorem e34 (bk n : Nat) (vb : Value) (xs : List Value) (w : World) (h : Bk w bk vb n xs) : Calls Tryz.prog 34 #[.pointer (some ⟨bk, 0, none⟩)] w fun e w' => (∃ x, e = .returned x) ∧ w' = w := by
  have hc : w.cell? ⟨bk, 17, none⟩ = some (.slice none 0 0) := by simp [World.cell?, h.row, bookCells]
  go_enter Tryz.func34, Tryz.ntmps34
  go_wp2
  go_loopw [2] (fun i wr => i = .int .i64 0 ∧ wr = w) (fun _ _ => 0)
  case atStart => exact ⟨rfl, rfl⟩
  case round =>
    obtain ⟨rfl, hw⟩ := hrel
    subst hw
    go_wp2
    go_end0
    exact ⟨⟨_, rfl⟩, rfl⟩
theorem e35 (bk n : Nat) (xs : List Value) (w : World) (h : Bk w bk (.slice none 0 0) n xs) : Calls Tryz.prog 35 #[.pointer (some ⟨bk, 0, none⟩)] w fun e w' => (∃ x, e = .returned x) ∧ w' = w := by
  have hc : w.cell? ⟨bk, 1, none⟩ = some (.slice none 0 0) := by simp [World.cell?, h.row, bookCells]
  go_enter Tryz.func35, Tryz.ntmps35
  go_wp2
  go_loopw [2] (fun i wr => i = .int .i64 0 ∧ wr = w) (fun _ _ => 0)
  case atStart => exact ⟨rfl, rfl⟩
  case round =>
    obtain ⟨rfl, hw⟩ := hrel
    subst hw
    go_wp2
    go_end0
    exact ⟨⟨_, rfl⟩, rfl⟩
theorem e36 (bk n : Nat) (vb : Value) (xs : List Value) (w : World) (h : Bk w bk vb n xs) : Calls Tryz.prog 36 #[.pointer (some ⟨bk, 0, none⟩)] w fun e w' => (∃ x, e = .returned x) ∧ w' = w := by
  have hc : w.cell? ⟨bk, 2, none⟩ = some (.slice none 0 0) := by simp [World.cell?, h.row, bookCells]
  go_enter Tryz.func36, Tryz.ntmps36
  go_wp2
  go_loopw [2] (fun i wr => i = .int .i64 0 ∧ wr = w) (fun _ _ => 0)
  case atStart => exact ⟨rfl, rfl⟩
  case round =>
    obtain ⟨rfl, hw⟩ := hrel
    subst hw
    go_wp2
    go_end0
    exact ⟨⟨_, rfl⟩, rfl⟩
theorem e37 (bk n : Nat) (vb : Value) (xs : List Value) (w : World) (h : Bk w bk vb n xs) : Calls Tryz.prog 37 #[.pointer (some ⟨bk, 0, none⟩)] w fun e w' => (∃ x, e = .returned x) ∧ w' = w := by
  have hc : w.cell? ⟨bk, 3, none⟩ = some (.slice none 0 0) := by simp [World.cell?, h.row, bookCells]
  go_enter Tryz.func37, Tryz.ntmps37
  go_wp2
  go_loopw [2] (fun i wr => i = .int .i64 0 ∧ wr = w) (fun _ _ => 0)
  case atStart => exact ⟨rfl, rfl⟩
  case round =>
    obtain ⟨rfl, hw⟩ := hrel
    subst hw
    go_wp2
    go_end0
    exact ⟨⟨_, rfl⟩, rfl⟩
theorem e38 (bk n : Nat) (vb : Value) (xs : List Value) (w : World) (h : Bk w bk vb n xs) : Calls Tryz.prog 38 #[.pointer (some ⟨bk, 0, none⟩)] w fun e w' => (∃ x, e = .returned x) ∧ w' = w := by
  have hc : w.cell? ⟨bk, 4, none⟩ = some (.slice none 0 0) := by simp [World.cell?, h.row, bookCells]
  go_enter Tryz.func38, Tryz.ntmps38
  go_wp2
  go_loopw [2] (fun i wr => i = .int .i64 0 ∧ wr = w) (fun _ _ => 0)
  case atStart => exact ⟨rfl, rfl⟩
  case round =>
    obtain ⟨rfl, hw⟩ := hrel
    subst hw
    go_wp2
    go_end0
    exact ⟨⟨_, rfl⟩, rfl⟩
theorem e39 (bk n : Nat) (vb : Value) (xs : List Value) (w : World) (h : Bk w bk vb n xs) : Calls Tryz.prog 39 #[.pointer (some ⟨bk, 0, none⟩)] w fun e w' => (∃ x, e = .returned x) ∧ w' = w := by
  have hc : w.cell? ⟨bk, 5, none⟩ = some (.slice none 0 0) := by simp [World.cell?, h.row, bookCells]
  go_enter Tryz.func39, Tryz.ntmps39
  go_wp2
  go_loopw [2] (fun i wr => i = .int .i64 0 ∧ wr = w) (fun _ _ => 0)
  case atStart => exact ⟨rfl, rfl⟩
  case round =>
    obtain ⟨rfl, hw⟩ := hrel
    subst hw
    go_wp2
    go_end0
    exact ⟨⟨_, rfl⟩, rfl⟩
theorem e40 (bk n : Nat) (vb : Value) (xs : List Value) (w : World) (h : Bk w bk vb n xs) : Calls Tryz.prog 40 #[.pointer (some ⟨bk, 0, none⟩)] w fun e w' => (∃ x, e = .returned x) ∧ w' = w := by
  have hc : w.cell? ⟨bk, 6, none⟩ = some (.slice none 0 0) := by simp [World.cell?, h.row, bookCells]
  go_enter Tryz.func40, Tryz.ntmps40
  go_wp2
  go_loopw [2] (fun i wr => i = .int .i64 0 ∧ wr = w) (fun _ _ => 0)
  case atStart => exact ⟨rfl, rfl⟩
  case round =>
    obtain ⟨rfl, hw⟩ := hrel
    subst hw
    go_wp2
    go_end0
    exact ⟨⟨_, rfl⟩, rfl⟩
theorem e41 (bk n : Nat) (vb : Value) (xs : List Value) (w : World) (h : Bk w bk vb n xs) : Calls Tryz.prog 41 #[.pointer (some ⟨bk, 0, none⟩)] w fun e w' => (∃ x, e = .returned x) ∧ w' = w := by
  have hc : w.cell? ⟨bk, 7, none⟩ = some (.slice none 0 0) := by simp [World.cell?, h.row, bookCells]
  go_enter Tryz.func41, Tryz.ntmps41
  go_wp2
  go_loopw [2] (fun i wr => i = .int .i64 0 ∧ wr = w) (fun _ _ => 0)
  case atStart => exact ⟨rfl, rfl⟩
  case round =>
    obtain ⟨rfl, hw⟩ := hrel
    subst hw
    go_wp2
    go_end0
    exact ⟨⟨_, rfl⟩, rfl⟩
theorem e42 (bk n : Nat) (vb : Value) (xs : List Value) (w : World) (h : Bk w bk vb n xs) : Calls Tryz.prog 42 #[.pointer (some ⟨bk, 0, none⟩)] w fun e w' => (∃ x, e = .returned x) ∧ w' = w := by
  have hc : w.cell? ⟨bk, 8, none⟩ = some (.slice none 0 0) := by simp [World.cell?, h.row, bookCells]
  go_enter Tryz.func42, Tryz.ntmps42
  go_wp2
  go_loopw [2] (fun i wr => i = .int .i64 0 ∧ wr = w) (fun _ _ => 0)
  case atStart => exact ⟨rfl, rfl⟩
  case round =>
    obtain ⟨rfl, hw⟩ := hrel
    subst hw
    go_wp2
    go_end0
    exact ⟨⟨_, rfl⟩, rfl⟩
theorem e43 (bk n : Nat) (vb : Value) (xs : List Value) (w : World) (h : Bk w bk vb n xs) : Calls Tryz.prog 43 #[.pointer (some ⟨bk, 0, none⟩)] w fun e w' => (∃ x, e = .returned x) ∧ w' = w := by
  have hc : w.cell? ⟨bk, 9, none⟩ = some (.slice none 0 0) := by simp [World.cell?, h.row, bookCells]
  go_enter Tryz.func43, Tryz.ntmps43
  go_wp2
  go_loopw [2] (fun i wr => i = .int .i64 0 ∧ wr = w) (fun _ _ => 0)
  case atStart => exact ⟨rfl, rfl⟩
  case round =>
    obtain ⟨rfl, hw⟩ := hrel
    subst hw
    go_wp2
    go_end0
    exact ⟨⟨_, rfl⟩, rfl⟩
theorem e44 (bk n : Nat) (vb : Value) (xs : List Value) (w : World) (h : Bk w bk vb n xs) : Calls Tryz.prog 44 #[.pointer (some ⟨bk, 0, none⟩)] w fun e w' => (∃ x, e = .returned x) ∧ w' = w := by
  have hc : w.cell? ⟨bk, 10, none⟩ = some (.slice none 0 0) := by simp [World.cell?, h.row, bookCells]
  go_enter Tryz.func44, Tryz.ntmps44
  go_wp2
  go_loopw [2] (fun i wr => i = .int .i64 0 ∧ wr = w) (fun _ _ => 0)
  case atStart => exact ⟨rfl, rfl⟩
  case round =>
    obtain ⟨rfl, hw⟩ := hrel
    subst hw
    go_wp2
    go_end0
    exact ⟨⟨_, rfl⟩, rfl⟩
theorem e45 (bk n : Nat) (vb : Value) (xs : List Value) (w : World) (h : Bk w bk vb n xs) : Calls Tryz.prog 45 #[.pointer (some ⟨bk, 0, none⟩)] w fun e w' => (∃ x, e = .returned x) ∧ w' = w := by
  have hc : w.cell? ⟨bk, 11, none⟩ = some (.slice none 0 0) := by simp [World.cell?, h.row, bookCells]
  go_enter Tryz.func45, Tryz.ntmps45
  go_wp2
  go_loopw [2] (fun i wr => i = .int .i64 0 ∧ wr = w) (fun _ _ => 0)
  case atStart => exact ⟨rfl, rfl⟩
  case round =>
    obtain ⟨rfl, hw⟩ := hrel
    subst hw
    go_wp2
    go_end0
    exact ⟨⟨_, rfl⟩, rfl⟩
theorem e46 (bk n : Nat) (vb : Value) (xs : List Value) (w : World) (h : Bk w bk vb n xs) : Calls Tryz.prog 46 #[.pointer (some ⟨bk, 0, none⟩)] w fun e w' => (∃ x, e = .returned x) ∧ w' = w := by
  have hc : w.cell? ⟨bk, 12, none⟩ = some (.slice none 0 0) := by simp [World.cell?, h.row, bookCells]
  go_enter Tryz.func46, Tryz.ntmps46
  go_wp2
  go_loopw [2] (fun i wr => i = .int .i64 0 ∧ wr = w) (fun _ _ => 0)
  case atStart => exact ⟨rfl, rfl⟩
  case round =>
    obtain ⟨rfl, hw⟩ := hrel
    subst hw
    go_wp2
    go_end0
    exact ⟨⟨_, rfl⟩, rfl⟩
theorem e47 (bk n : Nat) (vb : Value) (xs : List Value) (w : World) (h : Bk w bk vb n xs) : Calls Tryz.prog 47 #[.pointer (some ⟨bk, 0, none⟩)] w fun e w' => (∃ x, e = .returned x) ∧ w' = w := by
  have hc : w.cell? ⟨bk, 13, none⟩ = some (.slice none 0 0) := by simp [World.cell?, h.row, bookCells]
  go_enter Tryz.func47, Tryz.ntmps47
  go_wp2
  go_loopw [2] (fun i wr => i = .int .i64 0 ∧ wr = w) (fun _ _ => 0)
  case atStart => exact ⟨rfl, rfl⟩
  case round =>
    obtain ⟨rfl, hw⟩ := hrel
    subst hw
    go_wp2
    go_end0
    exact ⟨⟨_, rfl⟩, rfl⟩
theorem e48 (bk n : Nat) (vb : Value) (xs : List Value) (w : World) (h : Bk w bk vb n xs) : Calls Tryz.prog 48 #[.pointer (some ⟨bk, 0, none⟩)] w fun e w' => (∃ x, e = .returned x) ∧ w' = w := by
  have hc : w.cell? ⟨bk, 14, none⟩ = some (.slice none 0 0) := by simp [World.cell?, h.row, bookCells]
  go_enter Tryz.func48, Tryz.ntmps48
  go_wp2
  go_loopw [2] (fun i wr => i = .int .i64 0 ∧ wr = w) (fun _ _ => 0)
  case atStart => exact ⟨rfl, rfl⟩
  case round =>
    obtain ⟨rfl, hw⟩ := hrel
    subst hw
    go_wp2
    go_end0
    exact ⟨⟨_, rfl⟩, rfl⟩
theorem e49 (bk n : Nat) (vb : Value) (xs : List Value) (w : World) (h : Bk w bk vb n xs) : Calls Tryz.prog 49 #[.pointer (some ⟨bk, 0, none⟩)] w fun e w' => (∃ x, e = .returned x) ∧ w' = w := by
  have hc : w.cell? ⟨bk, 15, none⟩ = some (.slice none 0 0) := by simp [World.cell?, h.row, bookCells]
  go_enter Tryz.func49, Tryz.ntmps49
  go_wp2
  go_loopw [2] (fun i wr => i = .int .i64 0 ∧ wr = w) (fun _ _ => 0)
  case atStart => exact ⟨rfl, rfl⟩
  case round =>
    obtain ⟨rfl, hw⟩ := hrel
    subst hw
    go_wp2
    go_end0
    exact ⟨⟨_, rfl⟩, rfl⟩
theorem e50 (bk n : Nat) (vb : Value) (xs : List Value) (w : World) (h : Bk w bk vb n xs) : Calls Tryz.prog 50 #[.pointer (some ⟨bk, 0, none⟩)] w fun e w' => (∃ x, e = .returned x) ∧ w' = w := by
  have hc : w.cell? ⟨bk, 16, none⟩ = some (.slice none 0 0) := by simp [World.cell?, h.row, bookCells]
  go_enter Tryz.func50, Tryz.ntmps50
  go_wp2
  go_loopw [2] (fun i wr => i = .int .i64 0 ∧ wr = w) (fun _ _ => 0)
  case atStart => exact ⟨rfl, rfl⟩
  case round =>
    obtain ⟨rfl, hw⟩ := hrel
    subst hw
    go_wp2
    go_end0
    exact ⟨⟨_, rfl⟩, rfl⟩
theorem e51 (bk n : Nat) (vb : Value) (xs : List Value) (w : World) (h : Bk w bk vb n xs) : Calls Tryz.prog 51 #[.pointer (some ⟨bk, 0, none⟩)] w fun e w' => (∃ x, e = .returned x) ∧ w' = w := by
  have hc : w.cell? ⟨bk, 17, none⟩ = some (.slice none 0 0) := by simp [World.cell?, h.row, bookCells]
  go_enter Tryz.func51, Tryz.ntmps51
  go_wp2
  go_loopw [2] (fun i wr => i = .int .i64 0 ∧ wr = w) (fun _ _ => 0)
  case atStart => exact ⟨rfl, rfl⟩
  case round =>
    obtain ⟨rfl, hw⟩ := hrel
    subst hw
    go_wp2
    go_end0
    exact ⟨⟨_, rfl⟩, rfl⟩
theorem e52 (bk n : Nat) (xs : List Value) (w : World) (h : Bk w bk (.slice none 0 0) n xs) : Calls Tryz.prog 52 #[.pointer (some ⟨bk, 0, none⟩)] w fun e w' => e = .returned (.bool true) ∧ w' = w := by
  have hc : w.cell? ⟨bk, 1, none⟩ = some (.slice none 0 0) := by simp [World.cell?, h.row, bookCells]
  go_enter Tryz.func52, Tryz.ntmps52
  go_wp2
  go_loopw [3] (fun i wr => i = .int .i64 0 ∧ wr = w) (fun _ _ => 0)
  case atStart => exact ⟨rfl, rfl⟩
  case round =>
    obtain ⟨rfl, hw⟩ := hrel
    subst hw
    go_wp2
    go_ret
    exact ⟨rfl, rfl⟩
theorem e53 (bk n : Nat) (vb : Value) (xs : List Value) (w : World) (h : Bk w bk vb n xs) : Calls Tryz.prog 53 #[.pointer (some ⟨bk, 0, none⟩)] w fun e w' => e = .returned (.bool true) ∧ w' = w := by
  have hc : w.cell? ⟨bk, 2, none⟩ = some (.slice none 0 0) := by simp [World.cell?, h.row, bookCells]
  go_enter Tryz.func53, Tryz.ntmps53
  go_wp2
  go_loopw [3] (fun i wr => i = .int .i64 0 ∧ wr = w) (fun _ _ => 0)
  case atStart => exact ⟨rfl, rfl⟩
  case round =>
    obtain ⟨rfl, hw⟩ := hrel
    subst hw
    go_wp2
    go_ret
    exact ⟨rfl, rfl⟩
theorem e54 (bk n : Nat) (vb : Value) (xs : List Value) (w : World) (h : Bk w bk vb n xs) : Calls Tryz.prog 54 #[.pointer (some ⟨bk, 0, none⟩)] w fun e w' => e = .returned (.bool true) ∧ w' = w := by
  have hc : w.cell? ⟨bk, 3, none⟩ = some (.slice none 0 0) := by simp [World.cell?, h.row, bookCells]
  go_enter Tryz.func54, Tryz.ntmps54
  go_wp2
  go_loopw [3] (fun i wr => i = .int .i64 0 ∧ wr = w) (fun _ _ => 0)
  case atStart => exact ⟨rfl, rfl⟩
  case round =>
    obtain ⟨rfl, hw⟩ := hrel
    subst hw
    go_wp2
    go_ret
    exact ⟨rfl, rfl⟩
theorem e55 (bk n : Nat) (vb : Value) (xs : List Value) (w : World) (h : Bk w bk vb n xs) : Calls Tryz.prog 55 #[.pointer (some ⟨bk, 0, none⟩)] w fun e w' => e = .returned (.bool true) ∧ w' = w := by
  have hc : w.cell? ⟨bk, 4, none⟩ = some (.slice none 0 0) := by simp [World.cell?, h.row, bookCells]
  go_enter Tryz.func55, Tryz.ntmps55
  go_wp2
  go_loopw [3] (fun i wr => i = .int .i64 0 ∧ wr = w) (fun _ _ => 0)
  case atStart => exact ⟨rfl, rfl⟩
  case round =>
    obtain ⟨rfl, hw⟩ := hrel
    subst hw
    go_wp2
    go_ret
    exact ⟨rfl, rfl⟩
theorem e56 (bk n : Nat) (vb : Value) (xs : List Value) (w : World) (h : Bk w bk vb n xs) : Calls Tryz.prog 56 #[.pointer (some ⟨bk, 0, none⟩)] w fun e w' => e = .returned (.bool true) ∧ w' = w := by
  have hc : w.cell? ⟨bk, 5, none⟩ = some (.slice none 0 0) := by simp [World.cell?, h.row, bookCells]
  go_enter Tryz.func56, Tryz.ntmps56
  go_wp2
  go_loopw [3] (fun i wr => i = .int .i64 0 ∧ wr = w) (fun _ _ => 0)
  case atStart => exact ⟨rfl, rfl⟩
  case round =>
    obtain ⟨rfl, hw⟩ := hrel
    subst hw
    go_wp2
    go_ret
    exact ⟨rfl, rfl⟩
theorem e57 (bk n : Nat) (vb : Value) (xs : List Value) (w : World) (h : Bk w bk vb n xs) : Calls Tryz.prog 57 #[.pointer (some ⟨bk, 0, none⟩)] w fun e w' => e = .returned (.bool true) ∧ w' = w := by
  have hc : w.cell? ⟨bk, 6, none⟩ = some (.slice none 0 0) := by simp [World.cell?, h.row, bookCells]
  go_enter Tryz.func57, Tryz.ntmps57
  go_wp2
  go_loopw [3] (fun i wr => i = .int .i64 0 ∧ wr = w) (fun _ _ => 0)
  case atStart => exact ⟨rfl, rfl⟩
  case round =>
    obtain ⟨rfl, hw⟩ := hrel
    subst hw
    go_wp2
    go_ret
    exact ⟨rfl, rfl⟩
theorem e58 (bk n : Nat) (vb : Value) (xs : List Value) (w : World) (h : Bk w bk vb n xs) : Calls Tryz.prog 58 #[.pointer (some ⟨bk, 0, none⟩)] w fun e w' => e = .returned (.bool true) ∧ w' = w := by
  have hc : w.cell? ⟨bk, 7, none⟩ = some (.slice none 0 0) := by simp [World.cell?, h.row, bookCells]
  go_enter Tryz.func58, Tryz.ntmps58
  go_wp2
  go_loopw [3] (fun i wr => i = .int .i64 0 ∧ wr = w) (fun _ _ => 0)
  case atStart => exact ⟨rfl, rfl⟩
  case round =>
    obtain ⟨rfl, hw⟩ := hrel
    subst hw
    go_wp2
    go_ret
    exact ⟨rfl, rfl⟩
theorem e59 (bk n : Nat) (vb : Value) (xs : List Value) (w : World) (h : Bk w bk vb n xs) : Calls Tryz.prog 59 #[.pointer (some ⟨bk, 0, none⟩)] w fun e w' => e = .returned (.bool true) ∧ w' = w := by
  have hc : w.cell? ⟨bk, 8, none⟩ = some (.slice none 0 0) := by simp [World.cell?, h.row, bookCells]
  go_enter Tryz.func59, Tryz.ntmps59
  go_wp2
  go_loopw [3] (fun i wr => i = .int .i64 0 ∧ wr = w) (fun _ _ => 0)
  case atStart => exact ⟨rfl, rfl⟩
  case round =>
    obtain ⟨rfl, hw⟩ := hrel
    subst hw
    go_wp2
    go_ret
    exact ⟨rfl, rfl⟩
theorem e60 (bk n : Nat) (vb : Value) (xs : List Value) (w : World) (h : Bk w bk vb n xs) : Calls Tryz.prog 60 #[.pointer (some ⟨bk, 0, none⟩)] w fun e w' => e = .returned (.bool true) ∧ w' = w := by
  have hc : w.cell? ⟨bk, 9, none⟩ = some (.slice none 0 0) := by simp [World.cell?, h.row, bookCells]
  go_enter Tryz.func60, Tryz.ntmps60
  go_wp2
  go_loopw [3] (fun i wr => i = .int .i64 0 ∧ wr = w) (fun _ _ => 0)
  case atStart => exact ⟨rfl, rfl⟩
  case round =>
    obtain ⟨rfl, hw⟩ := hrel
    subst hw
    go_wp2
    go_ret
    exact ⟨rfl, rfl⟩
theorem e61 (bk n : Nat) (vb : Value) (xs : List Value) (w : World) (h : Bk w bk vb n xs) : Calls Tryz.prog 61 #[.pointer (some ⟨bk, 0, none⟩)] w fun e w' => e = .returned (.bool true) ∧ w' = w := by
  have hc : w.cell? ⟨bk, 10, none⟩ = some (.slice none 0 0) := by simp [World.cell?, h.row, bookCells]
  go_enter Tryz.func61, Tryz.ntmps61
  go_wp2
  go_loopw [3] (fun i wr => i = .int .i64 0 ∧ wr = w) (fun _ _ => 0)
  case atStart => exact ⟨rfl, rfl⟩
  case round =>
    obtain ⟨rfl, hw⟩ := hrel
    subst hw
    go_wp2
    go_ret
    exact ⟨rfl, rfl⟩
theorem e62 (bk n : Nat) (vb : Value) (xs : List Value) (w : World) (h : Bk w bk vb n xs) : Calls Tryz.prog 62 #[.pointer (some ⟨bk, 0, none⟩)] w fun e w' => e = .returned (.bool true) ∧ w' = w := by
  have hc : w.cell? ⟨bk, 11, none⟩ = some (.slice none 0 0) := by simp [World.cell?, h.row, bookCells]
  go_enter Tryz.func62, Tryz.ntmps62
  go_wp2
  go_loopw [3] (fun i wr => i = .int .i64 0 ∧ wr = w) (fun _ _ => 0)
  case atStart => exact ⟨rfl, rfl⟩
  case round =>
    obtain ⟨rfl, hw⟩ := hrel
    subst hw
    go_wp2
    go_ret
    exact ⟨rfl, rfl⟩
theorem e63 (bk n : Nat) (vb : Value) (xs : List Value) (w : World) (h : Bk w bk vb n xs) : Calls Tryz.prog 63 #[.pointer (some ⟨bk, 0, none⟩)] w fun e w' => e = .returned (.bool true) ∧ w' = w := by
  have hc : w.cell? ⟨bk, 12, none⟩ = some (.slice none 0 0) := by simp [World.cell?, h.row, bookCells]
  go_enter Tryz.func63, Tryz.ntmps63
  go_wp2
  go_loopw [3] (fun i wr => i = .int .i64 0 ∧ wr = w) (fun _ _ => 0)
  case atStart => exact ⟨rfl, rfl⟩
  case round =>
    obtain ⟨rfl, hw⟩ := hrel
    subst hw
    go_wp2
    go_ret
    exact ⟨rfl, rfl⟩
theorem e64 (bk n : Nat) (vb : Value) (xs : List Value) (w : World) (h : Bk w bk vb n xs) : Calls Tryz.prog 64 #[.pointer (some ⟨bk, 0, none⟩)] w fun e w' => e = .returned (.bool true) ∧ w' = w := by
  have hc : w.cell? ⟨bk, 13, none⟩ = some (.slice none 0 0) := by simp [World.cell?, h.row, bookCells]
  go_enter Tryz.func64, Tryz.ntmps64
  go_wp2
  go_loopw [3] (fun i wr => i = .int .i64 0 ∧ wr = w) (fun _ _ => 0)
  case atStart => exact ⟨rfl, rfl⟩
  case round =>
    obtain ⟨rfl, hw⟩ := hrel
    subst hw
    go_wp2
    go_ret
    exact ⟨rfl, rfl⟩
theorem e65 (bk n : Nat) (vb : Value) (xs : List Value) (w : World) (h : Bk w bk vb n xs) : Calls Tryz.prog 65 #[.pointer (some ⟨bk, 0, none⟩)] w fun e w' => e = .returned (.bool true) ∧ w' = w := by
  have hc : w.cell? ⟨bk, 14, none⟩ = some (.slice none 0 0) := by simp [World.cell?, h.row, bookCells]
  go_enter Tryz.func65, Tryz.ntmps65
  go_wp2
  go_loopw [3] (fun i wr => i = .int .i64 0 ∧ wr = w) (fun _ _ => 0)
  case atStart => exact ⟨rfl, rfl⟩
  case round =>
    obtain ⟨rfl, hw⟩ := hrel
    subst hw
    go_wp2
    go_ret
    exact ⟨rfl, rfl⟩
theorem e66 (bk n : Nat) (vb : Value) (xs : List Value) (w : World) (h : Bk w bk vb n xs) : Calls Tryz.prog 66 #[.pointer (some ⟨bk, 0, none⟩)] w fun e w' => e = .returned (.bool true) ∧ w' = w := by
  have hc : w.cell? ⟨bk, 15, none⟩ = some (.slice none 0 0) := by simp [World.cell?, h.row, bookCells]
  go_enter Tryz.func66, Tryz.ntmps66
  go_wp2
  go_loopw [3] (fun i wr => i = .int .i64 0 ∧ wr = w) (fun _ _ => 0)
  case atStart => exact ⟨rfl, rfl⟩
  case round =>
    obtain ⟨rfl, hw⟩ := hrel
    subst hw
    go_wp2
    go_ret
    exact ⟨rfl, rfl⟩
theorem e67 (bk n : Nat) (vb : Value) (xs : List Value) (w : World) (h : Bk w bk vb n xs) : Calls Tryz.prog 67 #[.pointer (some ⟨bk, 0, none⟩)] w fun e w' => e = .returned (.bool true) ∧ w' = w := by
  have hc : w.cell? ⟨bk, 16, none⟩ = some (.slice none 0 0) := by simp [World.cell?, h.row, bookCells]
  go_enter Tryz.func67, Tryz.ntmps67
  go_wp2
  go_loopw [3] (fun i wr => i = .int .i64 0 ∧ wr = w) (fun _ _ => 0)
  case atStart => exact ⟨rfl, rfl⟩
  case round =>
    obtain ⟨rfl, hw⟩ := hrel
    subst hw
    go_wp2
    go_ret
    exact ⟨rfl, rfl⟩
theorem e68 (bk n : Nat) (vb : Value) (xs : List Value) (w : World) (h : Bk w bk vb n xs) : Calls Tryz.prog 68 #[.pointer (some ⟨bk, 0, none⟩)] w fun e w' => e = .returned (.bool true) ∧ w' = w := by
  have hc : w.cell? ⟨bk, 17, none⟩ = some (.slice none 0 0) := by simp [World.cell?, h.row, bookCells]
  go_enter Tryz.func68, Tryz.ntmps68
  go_wp2
  go_loopw [3] (fun i wr => i = .int .i64 0 ∧ wr = w) (fun _ _ => 0)
  case atStart => exact ⟨rfl, rfl⟩
  case round =>
    obtain ⟨rfl, hw⟩ := hrel
    subst hw
    go_wp2
    go_ret
    exact ⟨rfl, rfl⟩
end Go.Proofs.YtfabpjgnmpkleaaGreatDoor.Bits
