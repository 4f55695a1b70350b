/-
  A writer's row of bits in memory; what the Go text of (*row).add leaves behind.
-/
import Derived.Test.YtmbkdalmnfcbfabDoorRows
import Derived.Test.YtmbkdalmnfcbfabDoorBits
import Derived.WalkKit
import Derived.ProofKit
import Derived.OpenShut
import Derived.ShutString
import Derived.ChangeOld
import Derived.Below
import Derived.BigRegion
import Derived.Maps.AppendAt
import Derived.RangeFuncBox
import Derived.Laws.BitsAllLaws
namespace Go.Proofs.YtmbkdalmnfcbfabDoor.Bits
open Go.ChangeShapes Go.WideShapes Go.ChangeAt Go.RowKit
theorem info5 : (Tryd.prog.info? 5).map (fun i => (i.zero, i.size, i.bytes)) = some (some (.int .u8 0), 1, 1) := by kernel_rfl
/-- Block r is a row of the bits L; v: the slice of its bytes. -/
structure Row (w : World) (r : Nat) (v : Value) (L : List Bool) : Prop where
  row : w.heap[r]? = some (.cells #[v, .int .i64 L.length] 77 (0, 0))
  own : w.ownsRow 0 5 1 v (pack L).length ((pack L).map (Value.int .u8))
/-- Between two worlds the row in block r alone, and the bytes of it, have turned; its bytes lie where they lay, or in new memory. -/
structure Put (r : Nat) (v v' : Value) (w w' : World) : Prop where
  os : w'.os = w.os
  tape : w'.tape = w.tape
  output : w'.output = w.output
  size : w.heap.size ≤ w'.heap.size
  block : ∀ k, k < w.heap.size → k ≠ r → some k ≠ v.ownBlock → w'.heap[k]? = w.heap[k]?
  where_ : v'.ownBlock = v.ownBlock ∨ ∃ g, v'.ownBlock = some g ∧ w.heap.size ≤ g
theorem Put.refl (r : Nat) (v : Value) (w : World) : Put r v v w w := ⟨rfl, rfl, rfl, Nat.le_refl _, fun _ _ _ _ => rfl, .inl rfl⟩
theorem Put.trans {r : Nat} {v v' v2 : Value} {w w' w2 : World} (h : Put r v v' w w') (k : Put r v' v2 w' w2) : Put r v v2 w w2 := by
  refine ⟨k.os.trans h.os, k.tape.trans h.tape, k.output.trans h.output, Nat.le_trans h.size k.size, fun i hi hr hv => ?_, ?_⟩
  · refine (k.block i (Nat.lt_of_lt_of_le hi h.size) hr ?_).trans (h.block i hi hr hv)
    rcases h.where_ with e | ⟨g, e, hg⟩
    · rw [e]; exact hv
    · rw [e]; intro e'; cases e'; omega
  · rcases k.where_ with e | ⟨g, e, hg⟩
    · rw [e]; exact h.where_
    · exact .inr ⟨g, e, Nat.le_trans h.size hg⟩
theorem heap_set_same {w : World} {b : Nat} {c : Array Value} {t : TypeId} {f : Nat × Nat} (h : w.heap[b]? = some (.cells c t f)) (i : Nat) (u : Value) :
    (w.setCell ⟨b, i, none⟩ u).heap[b]? = some (.cells (c.setIfInBounds i u) t f) := by
  obtain ⟨hlt, hk⟩ := Array.getElem?_eq_some_iff.1 h
  show (w.heap.modify b _)[b]? = _
  rw [Array.getElem?_eq_getElem (by rw [Array.size_modify]; exact hlt), Array.getElem_modify_self, hk]
  rfl
theorem heap_set_other (w : World) {b k : Nat} (h : k ≠ b) (i : Nat) (u : Value) : (w.setCell ⟨b, i, none⟩ u).heap[k]? = w.heap[k]? := Below.heap_setCell _ _ _ k h
/-- The row that has room for one bit more. -/
def room (L : List Bool) : List Int := if L.length % 8 = 0 then pack L ++ [0] else pack L
structure Mid (w : World) (r g cap : Nat) (L : List Bool) : Prop where
  row : w.heap[r]? = some (.cells #[.slice (some ⟨g, 0, none⟩) (L.length / 8 + 1) cap, .int .i64 L.length] 77 (0, 0))
  own : w.ownsRow 0 5 1 (.slice (some ⟨g, 0, none⟩) (L.length / 8 + 1) cap) (L.length / 8 + 1) ((room L).map (Value.int .u8))
theorem own_heap {w : World} {g n cap : Nat} {xs : List Value} (h : w.ownsRow 0 5 1 (.slice (some ⟨g, 0, none⟩) n cap) n xs) : ∃ cur : Array Value, w.heap[g]? = some (.cells cur 5 (0, 0)) ∧ n ≤ cap ∧ cap ≤ maxLen ∧ cur.size = cap ∧ cur.toList.take n = xs := by
  rcases h.2 with ⟨h2, _⟩ | ⟨g', cap', cur, hv, _, hh, hn, hm, hs, ht⟩
  · cases h2
  · simp only [Value.slice.injEq, Option.some.injEq, Addr.mk.injEq, and_true, true_and] at hv
    obtain ⟨rfl, rfl⟩ := hv
    exact ⟨cur, hh, hn, hm, by simpa using hs, by simpa using ht⟩
theorem Mid.ne {w : World} {r g cap : Nat} {L : List Bool} (h : Mid w r g cap L) : r ≠ g := by
  intro e
  subst e
  obtain ⟨cur, hh, _⟩ := own_heap h.own
  rw [h.row] at hh
  simp at hh
theorem own_cell' {w : World} {g n cap : Nat} {l : List Int} (h : w.ownsRow 0 5 1 (.slice (some ⟨g, 0, none⟩) n cap) n (l.map (Value.int .u8))) (i : Nat) (hi : i < n) :
    w.cell? ⟨g, i, none⟩ = some (.int .u8 (l.getD i 0)) ∧ w.frozen? ⟨g, i, none⟩ = false := by
  obtain ⟨cur, hh, hn, hm, hs, ht⟩ := own_heap h
  refine ⟨?_, frozen_of_row _ _ _ _ _ hh⟩
  rw [cell_of_row w g i cur 5 (0, 0) hh]
  have hl : l.length = n := by have := h.1; simpa using this
  have e : (cur.toList.take n)[i]? = some (.int .u8 (l.getD i 0)) := by rw [ht]; simp [hl, hi]
  rw [List.getElem?_take, if_pos hi] at e
  simpa using e
/-- A cell of an owned row, stored anew. -/
theorem own_set {w : World} {g n cap : Nat} {l : List Int} (h : w.ownsRow 0 5 1 (.slice (some ⟨g, 0, none⟩) n cap) n (l.map (Value.int .u8))) (i : Nat) (z : Int) :
    (w.setCell ⟨g, i, none⟩ (.int .u8 z)).ownsRow 0 5 1 (.slice (some ⟨g, 0, none⟩) n cap) n ((l.set i z).map (Value.int .u8)) := by
  obtain ⟨cur, hh, hn, hm, hs, ht⟩ := own_heap h
  refine ⟨by have := h.1; simpa using this, .inr ⟨g, cap, _, rfl, Nat.zero_le _, heap_set_same hh i _, hn, hm, by simpa using hs, ?_⟩⟩
  rw [Nat.mul_one, Array.toList_setIfInBounds, List.take_set, ht, List.map_set]
theorem Mid.done {w : World} {r g cap : Nat} {L : List Bool} (h : Mid w r g cap L) (b : Bool) {z c : Int} (hz : z = ((byteAt L (L.length / 8) ||| (b.toNat * 2 ^ (7 - L.length % 8)) : Nat) : Int)) (hc : c = (L.length : Int) + 1) :
    Row ((w.setCell ⟨g, L.length / 8, none⟩ (.int .u8 z)).setCell ⟨r, 1, none⟩ (.int .i64 c)) r (.slice (some ⟨g, 0, none⟩) (L.length / 8 + 1) cap) (L ++ [b]) := by
  subst hz hc
  have hne := h.ne
  refine ⟨?_, ?_⟩
  · rw [heap_set_same (c := #[.slice (some ⟨g, 0, none⟩) (L.length / 8 + 1) cap, .int .i64 L.length]) (t := 77) (f := (0, 0))]
    · simp
    · rw [heap_set_other _ hne]; exact h.row
  · have h1 := own_set h.own (L.length / 8) ((byteAt L (L.length / 8) ||| (b.toNat * 2 ^ (7 - L.length % 8)) : Nat) : Int)
    rw [room, pack_snoc] at h1
    have h2 := h1.kept (w' := (w.setCell ⟨g, L.length / 8, none⟩ (.int .u8 ((byteAt L (L.length / 8) ||| (b.toNat * 2 ^ (7 - L.length % 8)) : Nat) : Int))).setCell ⟨r, 1, none⟩ (.int .i64 ((L.length : Int) + 1))) (row := some r)
      ⟨rfl, rfl, rfl, by simp [World.setCell], fun k _ hk => heap_set_other _ (fun e => hk (by rw [e])) _ _⟩ (.inr (by simp [Value.ownBlock]; exact fun e => hne e.symm))
    have hp : (pack (L ++ [b])).length = L.length / 8 + 1 := by rw [pack_length]; simp; omega
    rw [hp]
    exact h2
theorem Row.drew {w : World} {r : Nat} {v : Value} {L : List Bool} (h : Row w r v L) : Row w.drew r v L := ⟨h.row, h.own⟩
theorem Put.drew {r : Nat} {v v' : Value} {w w' : World} (h : Put r v v' w w') : Put r v v' w w'.drew := ⟨h.os, h.tape, h.output, h.size, h.block, h.where_⟩
/-- A store into the row's own bytes. -/
theorem Put.bytes {r g : Nat} {v v' : Value} {w w' : World} (h : Put r v v' w w') (hv : v'.ownBlock = some g) (i : Nat) (u : Value) : Put r v v' w (w'.setCell ⟨g, i, none⟩ u) := by
  refine ⟨h.os, h.tape, h.output, by have := h.size; simp [World.setCell]; omega, fun k hk hkr hkv => ?_, h.where_⟩
  rw [heap_set_other _ ?_, h.block k hk hkr hkv]
  rintro rfl
  rcases h.where_ with e | ⟨g', e, hg⟩
  · exact hkv (hv.symm.trans e)
  · rw [hv] at e; cases e; omega
/-- A store into the row itself. -/
theorem Put.cell {r : Nat} {v v' : Value} {w w' : World} (h : Put r v v' w w') (i : Nat) (u : Value) : Put r v v' w (w'.setCell ⟨r, i, none⟩ u) :=
  ⟨h.os, h.tape, h.output, by have := h.size; simp [World.setCell]; omega, fun k hk hkr hkv => by rw [heap_set_other _ hkr, h.block k hk hkr hkv], h.where_⟩
theorem grown_row {w w1 : World} {o : Obj} {x : Option Nat} {r : Nat} {v u : Value} (hg : (w.alloc o).grownBy w1 x) (hl : r < w.heap.size) (hx : some r ≠ x) (h : w.heap[r]? = some (.cells #[v, u] 77 (0, 0))) :
    Hid (w1.heap[r]? = some (.cells #[v, u] 77 (0, 0))) ∧ w1.cell? ⟨r, 0, none⟩ = some v ∧ w1.frozen? ⟨r, 0, none⟩ = false := by
  have hr1 : w1.heap[r]? = some (.cells #[v, u] 77 (0, 0)) := (hg.block r (by rw [World.size_alloc]; omega) hx).trans ((Below.heap_alloc _ _ _ hl).trans h)
  exact ⟨hr1, by simp [World.cell?, hr1], by simp [World.frozen?, hr1]⟩
theorem Row.not_own {w : World} {r : Nat} {v : Value} {L : List Bool} (h : Row w r v L) : some r ≠ v.ownBlock := by
  intro e
  rcases h.own.2 with ⟨rfl, _⟩ | ⟨g, cap, cur, rfl, _, hgb, _⟩
  · simp [Value.ownBlock] at e
  · simp only [Value.ownBlock, Option.some.injEq] at e
    subst e
    rw [h.row] at hgb
    simp at hgb
theorem or8 (x y : Nat) (hx : x < 256) (hy : y < 256) : bits .or .u8 (x : Int) (y : Int) = ((x ||| y : Nat) : Int) := by
  show IntKind.u8.wrap ((BitVec.ofInt 8 (x : Int) ||| BitVec.ofInt 8 (y : Int)).toNat : Int) = _
  rw [BitVec.toNat_or, BitVec.toNat_ofInt, BitVec.toNat_ofInt, IntKind.wrap_u8']
  have e1 : ((x : Int) % ((2 ^ 8 : Nat) : Int)).toNat = x := by omega
  have e2 : ((y : Int) % ((2 ^ 8 : Nat) : Int)).toNat = y := by omega
  rw [e1, e2]
  have := Nat.or_lt_two_pow (x := x) (y := y) (n := 8) hx hy
  omega
end Go.Proofs.YtmbkdalmnfcbfabDoor.Bits
