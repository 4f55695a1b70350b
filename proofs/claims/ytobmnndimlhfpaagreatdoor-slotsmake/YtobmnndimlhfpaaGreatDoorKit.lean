/-
  Small tools: rows of numbers in memory, what is kept of them.
-/
import Derived.Test.YtobmnndimlhfpaaGreatDoorProg
import Derived.ProofKit
import Derived.WalkKit
import Derived.Below
import Derived.Laws.Tables
import Derived.Laws.Rows
import Derived.Laws.ResultCell
import Derived.Deep.RegionHeld3
import Derived.Deep.RegionLaw
import Derived.Deep.MidRow
import Derived.Deep.AppendSrc
import Derived.Deep.QuietTactic
import Derived.RegionTactic
import Derived.Maps.Keyed
import Derived.Maps.OwnOps
import Derived.Maps.OwnSet
import Derived.Maps.AppendAt
import Derived.Deep.AppendLies
import Derived.WalkMore
import Derived.Lib.SmallJoins
namespace Go.Proofs.YtobmnndimlhfpaaGreatDoor.Slo
open Go.ChangeShapes Go.WideShapes Go.ChangeAt Go.RowKit Go.Joins
theorem hid {p : Prop} (h : p) : Hid p := h
theorem bstep {w w1 w2 : World} (h1 : Below w.heap.size w w1) (h2 : Below w1.heap.size w1 w2) : Below w.heap.size w w2 := h1.trans (h2.mono h1.size)
theorem keep_row {W W' : World} {k : Nat} {o : Obj} (h : W.heap[k]? = some o) (hb : Below W.heap.size W W') : W'.heap[k]? = some o := (hb.block _ (Array.getElem?_eq_some_iff.1 h).1).trans h
theorem push_old {w : World} {b : Nat} {o o' : Obj} (h : w.heap[b]? = some o) : (w.alloc o').heap[b]? = some o := (Below.heap_alloc _ _ _ (Array.getElem?_eq_some_iff.1 h).1).trans h
theorem push_new (w : World) (o : Obj) (n : Nat) (h : w.heap.size = n) : (w.alloc o).heap[n]? = some o := by subst h; exact (MapKept.heap_alloc w o).1
theorem below_row {B b : Nat} {a w : World} (h : Below B a w) (hB : B ≤ w.heap.size) (hb : B ≤ b) (cs : Array Value) : Below B a (w.setRow b cs) :=
  h.grown (row := some b) ⟨rfl, rfl, rfl, by simp [World.setRow], fun k _ hk => setRow_other w b k _ (fun e => hk (by rw [e]))⟩ hB (fun k hk => by cases hk; exact hb)
theorem if_take {c : Prop} [Decidable c] {p q : Prop} (hc : c) (h : p) : if c then p else q := by rw [if_pos hc]; exact h
theorem ownsRow_mono {w : World} {B B' e size n : Nat} {v : Value} {xs : List Value} (h : w.ownsRow B e size v n xs) (hle : B' ≤ B) : w.ownsRow B' e size v n xs := by
  refine ⟨h.1, ?_⟩
  rcases h.2 with hn | ⟨g, cap, cur, e1, hg0, rest⟩
  · exact .inl hn
  · exact .inr ⟨g, cap, cur, e1, by omega, rest⟩
def ints (l : List Int) : List Value := l.map (Value.int .i64)
theorem ints_len (l : List Int) : (ints l).length = l.length := by simp [ints]
theorem own_carry {w W : World} {lo t c n : Nat} {v : Value} {xs : List Value} (h : w.ownsRow lo t c v n xs) (hb : ∀ b, v.ownBlock = some b → W.heap[b]? = w.heap[b]?) : W.ownsRow lo t c v n xs := by
  obtain ⟨h1, h2 | ⟨g, cap, cur, e, hg, hr, h3⟩⟩ := h
  · exact ⟨h1, .inl h2⟩
  · exact ⟨h1, .inr ⟨g, cap, cur, e, hg, (hb g (by rw [e]; rfl)).trans hr, h3⟩⟩
theorem own_lo {w : World} {lo t c n : Nat} {v : Value} {xs : List Value} (h : w.ownsRow lo t c v n xs) : ∀ b, v.ownBlock = some b → lo ≤ b ∧ b < w.heap.size := fun b e => by
  obtain ⟨_, ⟨h2, _⟩ | ⟨g, cap, cur, e2, hg, hr, _⟩⟩ := h
  · rw [h2] at e; cases e
  · rw [e2] at e
    obtain rfl : g = b := by simpa [Value.ownBlock] using e
    exact ⟨hg, (Array.getElem?_eq_some_iff.1 hr).1⟩
theorem inf3 : (Tryz.prog.info? 3).map (fun i => (i.zero, i.size, i.bytes)) = some (some (.int .i64 0), 1, 8) := by kernel_rfl
/-- A row of numbers of the call's own. -/
def Row (W : World) (base : Nat) (v : Value) (l : List Int) : Prop := W.ownsRow base 3 1 v l.length (ints l)
theorem Row.lo {W : World} {base : Nat} {v : Value} {l : List Int} (h : Row W base v l) : ∀ b, v.ownBlock = some b → base ≤ b ∧ b < W.heap.size := own_lo h
theorem Row.carry {W W' : World} {base : Nat} {v : Value} {l : List Int} (h : Row W base v l) (hb : ∀ b, v.ownBlock = some b → W'.heap[b]? = W.heap[b]?) : Row W' base v l := own_carry h hb
theorem Row.grown {W W' : World} {base : Nat} {v : Value} {l : List Int} {r : Option Nat} (h : Row W base v l) (hg : W.grownBy W' r) (hr : ∀ b, v.ownBlock = some b → r ≠ some b) : Row W' base v l :=
  h.carry fun b hb => hg.block b (h.lo b hb).2 (fun e => hr b hb e.symm)
theorem Row.below {W W' : World} {base : Nat} {v : Value} {l : List Int} (h : Row W base v l) (hb : Below W.heap.size W W') : Row W' base v l := h.carry fun b e => hb.block b (h.lo b e).2
theorem Row.none0 (W : World) (base : Nat) : Row W base (.slice none 0 0) [] := ⟨rfl, .inl ⟨rfl, rfl⟩⟩
theorem Row.at {W : World} {base : Nat} {v : Value} {l : List Int} (h : Row W base v l) : ∃ ao cap, v = .slice ao l.length cap ∧ l.length ≤ cap ∧ cap ≤ maxLen ∧ (l.length = 0 ∨ ∃ g, ao = some ⟨g, 0, none⟩ ∧ ∀ i (hi : i < l.length), W.cell? ⟨g, i, none⟩ = some (.int .i64 l[i])) := by
  have hown := h
  rcases hown.2 with ⟨e, e0⟩ | ⟨g, cap, cur, e, _, _, hc, hm, _⟩
  · exact ⟨none, 0, by rw [e, e0], by omega, by simp [maxLen], .inl e0⟩
  · subst e
    refine ⟨_, cap, rfl, hc, hm, .inr ⟨g, rfl, fun i hi => ?_⟩⟩
    rw [World.ownsRow.cellAt hown i (by omega)]
    simp [ints, hi]
theorem Row.full {W : World} {base : Nat} {v : Value} {l : List Int} (h : Row W base v l) (hl : 0 < l.length) : ∃ g cap cur, v = .slice (some ⟨g, 0, none⟩) l.length cap ∧ base ≤ g ∧ W.heap[g]? = some (.cells cur 3 (0, 0)) ∧ l.length ≤ cap ∧ cap ≤ maxLen ∧ cur.size = cap ∧ cur.toList.take l.length = ints l := by
  obtain ⟨_, ⟨_, h2⟩ | ⟨g, cap, cur, e, hg, hr, hc, hm, hs, ht⟩⟩ := h
  · omega
  · exact ⟨g, cap, cur, e, hg, hr, hc, hm, by simpa using hs, by simpa using ht⟩
theorem Row.make {W : World} {base : Nat} {l : List Int} {g cap : Nat} {cur : Array Value} (hg : base ≤ g) (hr : W.heap[g]? = some (.cells cur 3 (0, 0))) (hc : l.length ≤ cap) (hm : cap ≤ maxLen) (hs : cur.size = cap) (ht : cur.toList.take l.length = ints l) : Row W base (.slice (some ⟨g, 0, none⟩) l.length cap) l :=
  ⟨by rw [ints_len]; omega, .inr ⟨g, cap, cur, rfl, hg, hr, hc, hm, by omega, by simpa using ht⟩⟩
theorem ne_some {a b : Nat} (h : a ≠ b) : some a ≠ some b := fun e => h (by injection e)
theorem grown_drew (w : World) (q : Nat) (r : Option Nat) : w.grownBy (w.drewN q) r := ⟨rfl, rfl, rfl, Nat.le_refl _, fun _ _ _ => rfl⟩
/-- What has turned: the blocks of S alone, and new ones. -/
structure Mv (W W' : World) (S : Nat → Prop) : Prop where
  os : W'.os = W.os
  tape : W'.tape = W.tape
  output : W'.output = W.output
  size : W.heap.size ≤ W'.heap.size
  block : ∀ k, k < W.heap.size → ¬ S k → W'.heap[k]? = W.heap[k]?
theorem Mv.refl (W : World) (S : Nat → Prop) : Mv W W S := ⟨rfl, rfl, rfl, Nat.le_refl _, fun _ _ _ => rfl⟩
theorem Mv.trans {A B C : World} {S S' : Nat → Prop} (h : Mv A B S) (k : Mv B C S') (hs : ∀ i, S' i → S i ∨ A.heap.size ≤ i) : Mv A C S :=
  ⟨k.os.trans h.os, k.tape.trans h.tape, k.output.trans h.output, Nat.le_trans h.size k.size, fun i hi hn => (k.block i (Nat.lt_of_lt_of_le hi h.size) (fun e => (hs i e).elim hn (by omega))).trans (h.block i hi hn)⟩
theorem Mv.mono {A B : World} {S S' : Nat → Prop} (h : Mv A B S) (hs : ∀ i, S i → S' i ∨ A.heap.size ≤ i) : Mv A B S' := ⟨h.os, h.tape, h.output, h.size, fun i hi hn => h.block i hi (fun e => (hs i e).elim hn (by omega))⟩
theorem Mv.grown {A B : World} {r : Option Nat} {S : Nat → Prop} (h : A.grownBy B r) (hs : ∀ i, r = some i → S i ∨ A.heap.size ≤ i) : Mv A B S := ⟨h.os, h.tape, h.output, h.size, fun i hi hn => h.block i hi (fun e => (hs i e.symm).elim hn (by omega))⟩
theorem Mv.ofBelow {A B : World} {S : Nat → Prop} (h : Below A.heap.size A B) : Mv A B S := ⟨h.os, h.tape, h.output, h.size, fun i hi _ => h.block i hi⟩
theorem Mv.toBelow {A B : World} {S : Nat → Prop} {lo : Nat} (h : Mv A B S) (hlo : lo ≤ A.heap.size) (hs : ∀ i, S i → lo ≤ i) : Below lo A B := ⟨h.os, h.tape, h.output, h.size, fun i hi => h.block i (by omega) (fun e => by have := hs i e; omega)⟩
theorem Row.moved {A B : World} {S : Nat → Prop} {base : Nat} {v : Value} {l : List Int} (h : Row A base v l) (hm : Mv A B S) (hs : ∀ b, v.ownBlock = some b → ¬ S b) : Row B base v l := h.carry fun b hb => hm.block b (h.lo b hb).2 (hs b hb)
theorem own_moved {A B : World} {S : Nat → Prop} {base e c n : Nat} {v : Value} {xs : List Value} (h : A.ownsRow base e c v n xs) (hm : Mv A B S) (hs : ∀ b, v.ownBlock = some b → ¬ S b) : B.ownsRow base e c v n xs := own_carry h fun b hb => hm.block b (own_lo h b hb).2 (hs b hb)
theorem Mv.cellsRow {A B : World} {S : Nat → Prop} (hm : Mv A B S) {k : Nat} {o : Obj} (h : A.heap[k]? = some o) (hk : ¬ S k) : B.heap[k]? = some o := (hm.block k (Array.getElem?_eq_some_iff.1 h).1 hk).trans h
theorem mv_cell (W : World) (a : Addr) (u : Value) : Mv W (W.setCell a u) (· = a.block) := ⟨rfl, rfl, rfl, by simp [World.setCell], fun k _ hk => Below.heap_setCell _ _ _ _ hk⟩
def ga (l : List Int) (k : Nat) : Int := l.getD k 0
/-- A row of ints that is read. -/
def Rd (W : World) (lo : Nat) (v : Value) (r : List Int) : Prop := ∃ ao c, v = .slice ao r.length c ∧ r.length ≤ c ∧ (c ≤ 9223372036854775807 ∧ r.length ≤ 17592186044416) ∧ (r = [] ∨ ∃ b o, ao = some ⟨b, o, none⟩ ∧ b < lo ∧ ∀ i, i < r.length → W.cell? ⟨b, o + i, none⟩ = some (.int .i64 (ga r i)))
theorem Rd.keep {W W' : World} {lo : Nat} {v : Value} {r : List Int} (h : Rd W lo v r) (hb : Below lo W W') : Rd W' lo v r := by
  obtain ⟨ao, c, e, h1, h2, h3⟩ := h
  refine ⟨ao, c, e, h1, h2, h3.elim .inl fun ⟨b, o, e, hb', hc⟩ => .inr ⟨b, o, e, hb', fun i hi => ?_⟩⟩
  exact (hb.cell (p := ⟨b, o + i, none⟩) hb').trans (hc i hi)
theorem Rd.up {W : World} {lo lo' : Nat} {v : Value} {r : List Int} (h : Rd W lo v r) (hl : lo ≤ lo') : Rd W lo' v r := by
  obtain ⟨ao, c, e, h1, h2, h3⟩ := h
  exact ⟨ao, c, e, h1, h2, h3.elim .inl fun ⟨b, o, e, hb', hc⟩ => .inr ⟨b, o, e, by omega, hc⟩⟩
theorem Rd.keepW {W W' : World} {v : Value} {r : List Int} (h : Rd W W.heap.size v r) (hb : Below W.heap.size W W') : Rd W' W'.heap.size v r := (h.keep hb).up hb.size
theorem bdrew (W : World) (q : Nat) : Below W.heap.size W (W.drewN q) := ⟨rfl, rfl, rfl, Nat.le_refl _, fun _ _ => rfl⟩
theorem balloc (W : World) (o : Obj) : Below W.heap.size W (W.alloc o) := (Below.refl _ _).alloc (Nat.le_refl _) o
end Go.Proofs.YtobmnndimlhfpaaGreatDoor.Slo
