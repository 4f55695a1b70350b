/-
  What a book holds, list by list.
  fillByte: every list of the book is filled with its mark.
  growByte: behind every list of the book forty marks more, in new memory.
  lookByte: every list of the book, and its longer copy, has its mark all over.
  Apart: the book's own answer is yes, whatever lists of bytes it holds, if no two share memory.
  A writer that is not there; the law's desk: the writer, the document's writer over the same bits, the book, and the answers, each in memory of its own.
  The law's desk: the writer, the document's writer, the book and what it holds, each in memory of its own.
-/
import Derived.Test.YtfabpjgnmpkleaaGreatDoorG1
import Derived.Deep.RegionHeld3
import Derived.ArgAppend
import Derived.Deep.QuietTactic
import Derived.BigQuiet
namespace Go.Proofs.YtfabpjgnmpkleaaGreatDoor.Bits
open Go.ChangeShapes Go.WideShapes Go.ChangeAt Go.RowKit
set_option linter.unusedVariables false
/-- The cells of the held lists: each list, its longer copy, its number. -/
def held (G m : Nat → Nat) (A : Nat → Option Addr) (tl tc : Nat → Nat) (n : Nat) : List Value := (List.range n).flatMap fun i => [.slice (some ⟨G i, 0, none⟩) (m i) (m i), .slice (A i) (tl i) (tc i), .int .i64 ((i : Int) + 1)]
theorem held_succ (G m : Nat → Nat) (A : Nat → Option Addr) (tl tc : Nat → Nat) (n : Nat) : held G m A tl tc (n + 1) = held G m A tl tc n ++ [.slice (some ⟨G n, 0, none⟩) (m n) (m n), .slice (A n) (tl n) (tc n), .int .i64 ((n : Int) + 1)] := by
  simp [held, List.range_succ]
theorem held_length (G m : Nat → Nat) (A : Nat → Option Addr) (tl tc : Nat → Nat) (n : Nat) : (held G m A tl tc n).length = 3 * n := by
  induction n with
  | zero => rfl
  | succ n ih => rw [held_succ, List.length_append, ih]; simp; omega
theorem held_get (G m : Nat → Nat) (A : Nat → Option Addr) (tl tc : Nat → Nat) (n i : Nat) (h : i < n) :
    (held G m A tl tc n)[3 * i]? = some (.slice (some ⟨G i, 0, none⟩) (m i) (m i)) ∧ (held G m A tl tc n)[3 * i + 1]? = some (.slice (A i) (tl i) (tc i)) ∧ (held G m A tl tc n)[3 * i + 2]? = some (.int .i64 ((i : Int) + 1)) := by
  induction n with
  | zero => omega
  | succ n ih =>
    rw [held_succ]
    have hl := held_length G m A tl tc n
    by_cases e : i < n
    · obtain ⟨h1, h2, h3⟩ := ih e
      refine ⟨?_, ?_, ?_⟩
      · rw [List.getElem?_append_left (by omega), h1]
      · rw [List.getElem?_append_left (by omega), h2]
      · rw [List.getElem?_append_left (by omega), h3]
    · obtain rfl : i = n := by omega
      refine ⟨?_, ?_, ?_⟩
      · rw [List.getElem?_append_right (by omega), hl]; simp
      · rw [List.getElem?_append_right (by omega), hl, show 3 * i + 1 - 3 * i = 1 by omega]; rfl
      · rw [List.getElem?_append_right (by omega), hl, show 3 * i + 2 - 3 * i = 2 by omega]; rfl
theorem own_cell3 {w : World} {g n cap : Nat} {xs : List Value} (h : w.ownsRow 0 73 3 (.slice (some ⟨g, 0, none⟩) n cap) n xs) (i : Nat) (u : Value) (hu : xs[i]? = some u) : w.cell? ⟨g, i, none⟩ = some u := by
  have := h.cells (g := g) rfl i u hu
  rwa [Addr.add_mid, Nat.zero_add] at this
/-- A list of bytes that the caller owns. -/
def Own (w : World) (g m : Nat) (l : List Int) : Prop := w.ownsRow 0 5 1 (.slice (some ⟨g, 0, none⟩) m m) m (l.map (Value.int .u8))
theorem Own.lt {w : World} {g m : Nat} {l : List Int} (h : Own w g m l) : g < w.heap.size := by
  obtain ⟨cur, hh, _⟩ := own_heap h
  exact (Array.getElem?_eq_some_iff.1 hh).1
theorem Own.same {w w' : World} {g m : Nat} {l : List Int} (h : Own w g m l) (hb : w'.heap[g]? = w.heap[g]?) : Own w' g m l := own_frame' h fun k e => by cases e; exact hb
/-- The book and what it holds: lists of which the first f are filled with their marks. -/
structure Pages (w : World) (bk : Nat) (gb cb n : Nat) (G m : Nat → Nat) (A : Nat → Option Addr) (tl tc : Nat → Nat) (f : Nat) : Prop where
  bk : Bk w bk (.slice (some ⟨gb, 0, none⟩) n cb) n (held G m A tl tc n)
  apart : ∀ i j, i < n → j < n → i ≠ j → G i ≠ G j
  old : ∀ i, i < n → ∃ l, Own w (G i) (m i) l
  new : ∀ i, i < f → Own w (G i) (m i) (List.replicate (m i) (markOf (i + 1) : Int))
theorem Pages.same {w w' : World} {bk gb cb n : Nat} {G m : Nat → Nat} {A : Nat → Option Addr} {tl tc : Nat → Nat} {f : Nat} (h : Pages w bk gb cb n G m A tl tc f) (hf : f ≤ n) (hb : ∀ k, k < w.heap.size → w'.heap[k]? = w.heap[k]?) : Pages w' bk gb cb n G m A tl tc f :=
  ⟨⟨(hb _ (Array.getElem?_eq_some_iff.1 h.bk.row).1).trans h.bk.row, own_frame' h.bk.own fun k e => hb k (h.bk.own.lt k e).2⟩, h.apart, fun i hi => (h.old i hi).imp fun l hl => hl.same (hb _ hl.lt), fun i hi => (h.new i hi).same (hb _ (h.new i hi).lt)⟩
/-- One list is filled. -/
theorem Pages.fill {w w' : World} {bk gb cb n : Nat} {G m : Nat → Nat} {A : Nat → Option Addr} {tl tc : Nat → Nat} {f : Nat} (h : Pages w bk gb cb n G m A tl tc f) (hf : f < n) (hg : w.grownBy w' (some (G f))) (ho : Own w' (G f) (m f) (List.replicate (m f) (markOf (f + 1) : Int))) : Pages w' bk gb cb n G m A tl tc (f + 1) := by
  obtain ⟨l0, hl0⟩ := h.old f hf
  obtain ⟨c0, hc0, _⟩ := own_heap hl0
  refine ⟨⟨(hg.block bk (Array.getElem?_eq_some_iff.1 h.bk.row).1 (fun e => by cases e; have := h.bk.row.symm.trans hc0; simp at this)).trans h.bk.row, own_frame' h.bk.own fun k e => hg.block k (h.bk.own.lt k e).2 (fun e' => ?_)⟩, h.apart, fun i hi => ?_, fun i hi => ?_⟩
  · cases e'
    rcases h.bk.own.2 with ⟨h2, _⟩ | ⟨g', cap', cur, h2, _, hgb, _⟩
    · cases h2
    · cases h2
      cases e
      rw [hc0] at hgb
      simp at hgb
  · by_cases e : i = f
    · subst e; exact ⟨_, ho⟩
    · exact (h.old i hi).imp fun l hl => hl.same (hg.block _ hl.lt (fun e' => h.apart i f hi hf e (Option.some.inj e')))
  · by_cases e : i = f
    · subst e; exact ho
    · have := h.new i (by omega)
      exact this.same (hg.block _ this.lt (fun e' => h.apart i f (by omega) hf e (Option.some.inj e')))
end Go.Proofs.YtfabpjgnmpkleaaGreatDoor.Bits
namespace Go.Proofs.YtfabpjgnmpkleaaGreatDoor.Bits
open Go.ChangeShapes Go.WideShapes Go.ChangeAt Go.RowKit
set_option linter.unusedVariables false
/-- All that lay there at first lies there yet, and one block more. -/
structure Bz (z : Nat) (o : Obj) (w0 w : World) : Prop where
  b : Below w0.heap.size w0 w
  z : w.heap[z]? = some o
theorem Bz.step {z : Nat} {o : Obj} {w0 w w' : World} (h : Bz z o w0 w) (k : Below w.heap.size w w') : Bz z o w0 w' := ⟨bstep h.b k, (k.block z (Array.getElem?_eq_some_iff.1 h.z).1).trans h.z⟩
theorem mark_c (n c : Nat) (w : World) (hn : n < 100000) (hc : c = markOf n) (z : Int) (hz : z = n) :
    Calls Tryz.prog 70 #[.int .i64 z] w fun e w' => e = .returned (.int .u8 (c : Int)) ∧ w' = w := by
  subst hz hc
  exact mark n w hn
theorem grown_set {w w' : World} {g : Nat} (h : w.grownBy w' (some g)) (i : Nat) (u : Value) : w.grownBy (w'.setCell ⟨g, i, none⟩ u).drew (some g) :=
  ⟨h.os, h.tape, h.output, by have := h.size; simp [World.setCell, World.drew]; omega, fun k hk hne => (heap_set_other _ (fun e => hne (by rw [e])) _ _).trans (h.block k hk hne)⟩
theorem set_all (l : List Int) (q : Nat) (c : Int) (hq : q < l.length) (h : ∀ a, a < q → l.getD a 0 = c) : ∀ a, a < q + 1 → (l.set q c).getD a 0 = c := fun a ha => by
  rw [List.getD_eq_getElem?_getD, List.getElem?_set]
  by_cases e : q = a
  · subst e; simp [hq]
  · rw [if_neg e, ← List.getD_eq_getElem?_getD]; exact h a (by omega)
theorem all_replicate (l : List Int) (m : Nat) (c : Int) (hl : l.length = m) (h : ∀ a, a < m → l.getD a 0 = c) : l = List.replicate m c := by
  apply List.ext_getElem
  · simp [hl]
  · intro i h1 h2
    have := h i (by omega)
    rw [List.getD_eq_getElem?_getD, List.getElem?_eq_getElem h1] at this
    simpa using this
theorem zero73 : ∀ w, (zeroValue 73).run Tryz.prog w = .ok (.agg #[.slice none 0 0, .slice none 0 0, .int .i64 0]) w := fun _ => by kernel_rfl
set_option maxRecDepth 100000 in
set_option maxHeartbeats 2000000 in
theorem fill (z : Nat) (o : Obj) (w0 : World) (bk gb cb n : Nat) (G m : Nat → Nat) (A : Nat → Option Addr) (tl tc : Nat → Nat) (w : World) (hP : Pages w bk gb cb n G m A tl tc 0) (hn : n < 1000) (hm : ∀ i, i < n → m i < 100000) (hG : ∀ i, i < n → w0.heap.size ≤ G i) (hzg : ∀ i, i < n → G i ≠ z) (hb0 : Bz z o w0 w) :
    Calls Tryz.prog 18 #[.pointer (some ⟨bk, 0, none⟩)] w fun e w' => (∃ x, e = .returned x) ∧ Pages w' bk gb cb n G m A tl tc n ∧ Bz z o w0 w' := by
  go_enter Tryz.func18, Tryz.ntmps18
  go_wp2
  go_loopw [2] (fun i wr => ∃ j : Nat, j ≤ n ∧ i = .int .i64 j ∧ Pages wr bk gb cb n G m A tl tc j ∧ Bz z o w0 wr) (fun i _ => n - (intOf i).toNat)
  case atStart => exact ⟨0, Nat.zero_le _, rfl, hP, hb0⟩
  case round =>
    obtain ⟨j, hj, rfl, hPj, hb⟩ := hrel
    have hc1 : wr.cell? ⟨bk, 1, none⟩ = some (.slice (some ⟨gb, 0, none⟩) n cb) := by simp [World.cell?, hPj.bk.row, bookCells]
    by_cases hlt : j < n
    · obtain ⟨g0, g1, g2⟩ := held_get G m A tl tc n j hlt
      have e0 := own_cell3 hPj.bk.own _ _ g0
      have e1 := own_cell3 hPj.bk.own _ _ g1
      have e2 := own_cell3 hPj.bk.own _ _ g2
      have hlt' : (j : Int) < (n : Int) := by omega
      have hj0 : (0 : Int) ≤ (j : Int) := by omega
      rw [Nat.mul_comm 3 j] at e0 e1 e2
      clear g0 g1 g2
      go_wp2
      have hb1 : Below wr.heap.size wr (wr.alloc (.cells #[.slice (some ⟨G j, 0, none⟩) (m j) (m j), .slice (A j) (tl j) (tc j), .int .i64 ((j : Int) + 1)] 73)) := below_alloc wr _
      have hP1 := hPj.same (by omega) hb1.block
      have hH0 : (wr.alloc (.cells #[.slice (some ⟨G j, 0, none⟩) (m j) (m j), .slice (A j) (tl j) (tc j), .int .i64 ((j : Int) + 1)] 73)).cell? ⟨wr.heap.size, 0, none⟩ = some (.slice (some ⟨G j, 0, none⟩) (m j) (m j)) := by simp
      have hH2 : (wr.alloc (.cells #[.slice (some ⟨G j, 0, none⟩) (m j) (m j), .slice (A j) (tl j) (tc j), .int .i64 ((j : Int) + 1)] 73)).cell? ⟨wr.heap.size, 2, none⟩ = some (.int .i64 ((j : Int) + 1)) := by simp
      have hHl : wr.heap.size < (wr.alloc (.cells #[.slice (some ⟨G j, 0, none⟩) (m j) (m j), .slice (A j) (tl j) (tc j), .int .i64 ((j : Int) + 1)] 73)).heap.size := by simp
      have hbw := hb.step hb1
      obtain ⟨l0, hl0⟩ := hP1.old j hlt
      have hGl : G j < wr.heap.size := by obtain ⟨l, hl⟩ := hPj.old j hlt; exact hl.lt
      have hmj := hm j hlt
      have hGj := hG j hlt
      have hzj := hzg j hlt
      generalize wr.alloc (.cells #[.slice (some ⟨G j, 0, none⟩) (m j) (m j), .slice (A j) (tl j) (tc j), .int .i64 ((j : Int) + 1)] 73) = W1 at hb1 hP1 hH0 hH2 hHl hbw hl0 ⊢
      obtain ⟨c, hc⟩ : ∃ c : Nat, c = markOf (j + 1) := ⟨_, rfl⟩
      have HC : Hid (c = markOf (j + 1)) := hc
      have hne : G j ≠ wr.heap.size := by omega
      clear hPj hc1 e0 e1 e2 hb hb1 hc
      generalize wr.heap.size = H at hH0 hH2 hHl hne hGl ⊢
      go_loopw [4] (fun k w2 => ∃ (q : Nat) (l : List Int), q ≤ m j ∧ k = .int .i64 q ∧ Own w2 (G j) (m j) l ∧ (∀ a, a < q → l.getD a 0 = (c : Int)) ∧ W1.grownBy w2 (some (G j))) (fun k _ => m j - (intOf k).toNat)
      case atStart => exact ⟨0, l0, Nat.zero_le _, rfl, hl0, fun a ha => by omega, ⟨rfl, rfl, rfl, Nat.le_refl _, fun _ _ _ => rfl⟩⟩
      case round =>
        obtain ⟨q, l, hq, rfl, hO, hall, hgr⟩ := hrel
        have hc0 := hgr.cell hH0 (fun e => hne (Option.some.inj e).symm)
        have hc2 := hgr.cell hH2 (fun e => hne (Option.some.inj e).symm)
        by_cases hql : q < m j
        · have hk0 : (0 : Int) ≤ (q : Int) := by omega
          have hk1 : (q : Int) < (m j : Int) := by omega
          obtain ⟨hs0, hs1⟩ := own_cell' hO q hql
          have hl1 : l.length = m j := by have := hO.1; simpa using this
          have HO : Hid (Own wr (G j) (m j) l) := hO
          have Hall : Hid (∀ a, a < q → l.getD a 0 = (c : Int)) := hall
          clear hO hall
          go_wp2
          go_region_held3 (fun w' => w'.cell? ⟨H, 0, none⟩ = some (.slice (some ⟨G j, 0, none⟩) (m j) (m j)) ∧ w'.cell? ⟨H, 2, none⟩ = some (.int .i64 ((j : Int) + 1)))
            (first | go_keep | (refine ⟨?_, ?_⟩ <;> (rw [World.cell?_setCell_other _ _ _ _ (by simp [hne])]; assumption)))
            (first | (go_at_call 70; refine (mark_c (j + 1) c _ (by omega) HC.out _ (by omega)).mono ?_; rintro e w3 ⟨rfl, rfl⟩))
          have HO2 : Hid (Own (wr.setCell ⟨G j, q, none⟩ (.int .u8 (c : Int))).drew (G j) (m j) (l.set q (c : Int))) := own_set HO.out q (c : Int)
          have HG2 : Hid (W1.grownBy (wr.setCell ⟨G j, q, none⟩ (.int .u8 (c : Int))).drew (some (G j))) := grown_set hgr q _
          generalize (wr.setCell ⟨G j, q, none⟩ (.int .u8 (c : Int))).drew = W2 at HO2 HG2 ⊢
          go_wp2
          go_roundw
          case rel => exact ⟨q + 1, l.set q (c : Int), by omega, by go_num, HO2.out, set_all l q (c : Int) (by omega) Hall.out, HG2.out⟩
          case measure => simp [intOf]; omega
        · have hqm : q = m j := by omega
          have hl1 : l.length = m j := by have := hO.1; simpa using this
          have hrep : l = List.replicate (m j) (markOf (j + 1) : Int) := by rw [← HC.out]; exact all_replicate l (m j) (c : Int) hl1 (by rw [← hqm]; exact hall)
          have hP2 : Hid (Pages wr bk gb cb n G m A tl tc (j + 1)) := hP1.fill hlt hgr (by rw [← hrep]; exact hO)
          have hB2 : Hid (Bz z o w0 wr) := ⟨hbw.b.grown hgr hbw.b.size (fun k e => by cases e; exact hGj), (hgr.block z (Array.getElem?_eq_some_iff.1 hbw.z).1 (fun e => hzj (Option.some.inj e).symm)).trans hbw.z⟩
          clear hO hall hgr hrep
          go_wp2
          go_roundw
          case rel => exact ⟨j + 1, by omega, by go_num, hP2.out, hB2.out⟩
          case measure => simp [intOf]; omega
    · have hjn : n = j := by omega
      subst hjn
      go_wp2
      go_end0
      exact ⟨⟨_, rfl⟩, hPj, hb⟩
end Go.Proofs.YtfabpjgnmpkleaaGreatDoor.Bits
namespace Go.Proofs.YtfabpjgnmpkleaaGreatDoor.Bits
open Go.ChangeShapes Go.WideShapes Go.ChangeAt Go.RowKit
set_option linter.unusedVariables false
/-- A list in whatever room, all of one number. -/
def Full (w : World) (v : Value) (n : Nat) (c : Int) : Prop := w.ownsRow 0 5 1 v n ((List.replicate n c).map (Value.int .u8))
/-- The book with the longer copies of the first f lists. -/
structure Grown (w : World) (bk gb cb n : Nat) (G m : Nat → Nat) (A : Nat → Option Addr) (tl tc : Nat → Nat) (f : Nat) : Prop where
  pages : Pages w bk gb cb n G m A tl tc n
  long : ∀ i, i < f → tl i = m i + 40 ∧ Full w (.slice (A i) (tl i) (tc i)) (m i + 40) (markOf (i + 1) : Int)
theorem cell_alloc_k {w : World} {a : Addr} {v : Value} (o : Obj) (h : w.cell? a = some v) : (w.alloc o).cell? a = some v := (World.grownBy_alloc w o none).cell h (fun e => by cases e)
theorem grown_none {W w w3 : World} {o : Obj} (hB : Below W.heap.size W w) (hg : (w.alloc o).grownBy w3 none) : Below W.heap.size W w3 :=
  (bstep hB (below_alloc w o)).grown hg (by have := hB.size; rw [World.size_alloc]; omega) (fun k e => by cases e)
theorem grown_some {W w w3 : World} {o : Obj} {x : Option Nat} (hB : Below W.heap.size W w) (hg : (w.alloc o).grownBy w3 x) (hx : ∀ g, x = some g → W.heap.size ≤ g) : Below W.heap.size W w3 :=
  (bstep hB (below_alloc w o)).grown hg (by have := hB.size; rw [World.size_alloc]; omega) hx
theorem Full.base {w : World} {v : Value} {n B : Nat} {c : Int} {xs : List Value} (h : w.ownsRow B 5 1 v n xs) : w.ownsRow 0 5 1 v n xs := by
  refine ⟨h.1, ?_⟩
  rcases h.2 with h2 | ⟨g, cap, cur, rfl, hb, rest⟩
  · exact .inl h2
  · exact .inr ⟨g, cap, cur, rfl, Nat.zero_le _, rest⟩
theorem Grown.below {w w' : World} {bk gb cb n : Nat} {G m : Nat → Nat} {A : Nat → Option Addr} {tl tc : Nat → Nat} {f : Nat} (h : Grown w bk gb cb n G m A tl tc f) (hb : Below w.heap.size w w') : Grown w' bk gb cb n G m A tl tc f :=
  ⟨h.pages.same (Nat.le_refl _) hb.block, fun i hi => ⟨(h.long i hi).1, own_frame' (h.long i hi).2 fun k e => hb.block k ((h.long i hi).2.lt k e).2⟩⟩
def updA {α : Type} (f : Nat → α) (j : Nat) (x : α) : Nat → α := fun i => if i = j then x else f i
theorem updA_same {α : Type} (f : Nat → α) (j : Nat) (x : α) : updA f j x j = x := by simp [updA]
theorem updA_ne {α : Type} (f : Nat → α) (j : Nat) (x : α) (i : Nat) (h : i ≠ j) : updA f j x i = f i := by simp [updA, h]
theorem held_congr (G m : Nat → Nat) (A A' : Nat → Option Addr) (tl tl' tc tc' : Nat → Nat) (n : Nat) (h : ∀ i, i < n → A i = A' i ∧ tl i = tl' i ∧ tc i = tc' i) : held G m A tl tc n = held G m A' tl' tc' n := by
  induction n with
  | zero => rfl
  | succ n ih =>
    obtain ⟨h1, h2, h3⟩ := h n (by omega)
    rw [held_succ, held_succ, ih (fun i hi => h i (by omega)), h1, h2, h3]
theorem held_set (G m : Nat → Nat) (A : Nat → Option Addr) (tl tc : Nat → Nat) (n j : Nat) (h : j < n) (a : Option Addr) (l c : Nat) :
    (held G m A tl tc n).set (j * 3 + 1) (.slice a l c) = held G m (updA A j a) (updA tl j l) (updA tc j c) n := by
  induction n with
  | zero => omega
  | succ n ih =>
    rw [held_succ, held_succ]
    have hl := held_length G m A tl tc n
    by_cases e : j < n
    · rw [List.set_append_left _ _ (by omega), ih e, updA_ne _ _ _ _ (by omega), updA_ne _ _ _ _ (by omega), updA_ne _ _ _ _ (by omega)]
    · obtain rfl : j = n := by omega
      rw [List.set_append_right _ _ (by omega), hl, show j * 3 + 1 - 3 * j = 1 by omega, updA_same, updA_same, updA_same]
      rw [held_congr G m (updA A j a) A (updA tl j l) tl (updA tc j c) tc j (fun i hi => ⟨updA_ne _ _ _ _ (by omega), updA_ne _ _ _ _ (by omega), updA_ne _ _ _ _ (by omega)⟩)]
      rfl
theorem own_set3 {w : World} {g n cap : Nat} {xs : List Value} (h : w.ownsRow 0 73 3 (.slice (some ⟨g, 0, none⟩) n cap) n xs) (i : Nat) (u : Value) : (w.setCell ⟨g, i, none⟩ u).ownsRow 0 73 3 (.slice (some ⟨g, 0, none⟩) n cap) n (xs.set i u) := by
  rcases h.2 with ⟨h2, _⟩ | ⟨g', cap', cur, hv, _, hh, hn, hm, hs, ht⟩
  · cases h2
  · cases hv
    refine ⟨by have := h.1; simpa using this, .inr ⟨g, cap, _, rfl, Nat.zero_le _, heap_set_same hh i _, hn, hm, by simpa using hs, ?_⟩⟩
    rw [Array.toList_setIfInBounds, List.take_set, ht]
theorem row73 {w : World} {g n cap : Nat} {xs : List Value} (h : w.ownsRow 0 73 3 (.slice (some ⟨g, 0, none⟩) n cap) n xs) : ∃ cur, w.heap[g]? = some (.cells cur 73 (0, 0)) := by
  rcases h.2 with ⟨h2, _⟩ | ⟨g', cap', cur, hv, _, hh, _⟩
  · cases h2
  · cases hv; exact ⟨cur, hh⟩
/-- The longer copy is laid in the book. -/
theorem Grown.step {w : World} {bk gb cb n : Nat} {G m : Nat → Nat} {A : Nat → Option Addr} {tl tc : Nat → Nat} {f : Nat} (h : Grown w bk gb cb n G m A tl tc f) (hf : f < n) {g c : Nat} (hF : Full w (.slice (some ⟨g, 0, none⟩) (m f + 40) c) (m f + 40) (markOf (f + 1) : Int)) :
    Grown (w.setCell ⟨gb, f * 3 + 1, none⟩ (.slice (some ⟨g, 0, none⟩) (m f + 40) c)) bk gb cb n G m (updA A f (some ⟨g, 0, none⟩)) (updA tl f (m f + 40)) (updA tc f c) (f + 1) := by
  obtain ⟨cur, hcur⟩ := row73 h.pages.bk.own
  have key : ∀ {v : Value} {k : Nat} {xs : List Value}, w.ownsRow 0 5 1 v k xs → (w.setCell ⟨gb, f * 3 + 1, none⟩ (.slice (some ⟨g, 0, none⟩) (m f + 40) c)).ownsRow 0 5 1 v k xs := fun {v k xs} ho => own_frame' ho fun b e => heap_set_other _ (fun e' => by
    subst e'
    rcases ho.2 with ⟨h2, _⟩ | ⟨g', cap', cur', h2, _, hgb, _⟩
    · rw [h2] at e; simp [Value.ownBlock] at e
    · rw [h2] at e; cases e; rw [hcur] at hgb; simp at hgb) _ _
  refine ⟨⟨⟨(heap_set_other _ (fun e => by subst e; have := h.pages.bk.row.symm.trans hcur; simp at this) _ _).trans h.pages.bk.row, by rw [← held_set _ _ _ _ _ _ _ hf]; exact own_set3 h.pages.bk.own _ _⟩, h.pages.apart, fun i hi => (h.pages.old i hi).imp fun l hl => key hl, fun i hi => key (h.pages.new i hi)⟩, fun i hi => ?_⟩
  by_cases e : i = f
  · subst e
    rw [updA_same, updA_same, updA_same]
    exact ⟨rfl, key hF⟩
  · rw [updA_ne _ _ _ _ e, updA_ne _ _ _ _ e, updA_ne _ _ _ _ e]
    exact ⟨(h.long i (by omega)).1, key (h.long i (by omega)).2⟩
set_option maxRecDepth 100000 in
set_option maxHeartbeats 2000000 in
theorem grow (z : Nat) (o : Obj) (w0 : World) (bk gb cb n : Nat) (G m : Nat → Nat) (w : World) (hP : Pages w bk gb cb n G m (fun _ => none) (fun _ => 0) (fun _ => 0) n) (hn : n < 1000) (hm : ∀ i, i < n → m i < 100000) (hG : ∀ i, i < n → w0.heap.size ≤ G i) (hgb : w0.heap.size ≤ gb) (hzb : z ≠ gb) (hb0 : Bz z o w0 w) :
    Calls Tryz.prog 35 #[.pointer (some ⟨bk, 0, none⟩)] w fun e w' => (∃ x, e = .returned x) ∧ ∃ A tl tc, Grown w' bk gb cb n G m A tl tc n ∧ Bz z o w0 w' := by
  obtain ⟨i0, hi, hz0, hz1, hz2⟩ := info_parts info5
  go_enter Tryz.func35, Tryz.ntmps35
  go_wp2
  go_loopw [2] (fun i wr => ∃ (j : Nat) (A : Nat → Option Addr) (tl tc : Nat → Nat), j ≤ n ∧ i = .int .i64 j ∧ Grown wr bk gb cb n G m A tl tc j ∧ Bz z o w0 wr) (fun i _ => n - (intOf i).toNat)
  case atStart => exact ⟨0, _, _, _, Nat.zero_le _, rfl, ⟨hP, fun i hi => by omega⟩, hb0⟩
  case round =>
    obtain ⟨j, A, tl, tc, hj, rfl, hGr, hb⟩ := hrel
    have hc1 : wr.cell? ⟨bk, 1, none⟩ = some (.slice (some ⟨gb, 0, none⟩) n cb) := by simp [World.cell?, hGr.pages.bk.row, bookCells]
    by_cases hlt : j < n
    · obtain ⟨g0, g1, g2⟩ := held_get G m A tl tc n j hlt
      have e0 := own_cell3 hGr.pages.bk.own _ _ g0
      have e1 := own_cell3 hGr.pages.bk.own _ _ g1
      have e2 := own_cell3 hGr.pages.bk.own _ _ g2
      have hlt' : (j : Int) < (n : Int) := by omega
      have hj0 : (0 : Int) ≤ (j : Int) := by omega
      rw [Nat.mul_comm 3 j] at e0 e1 e2
      clear g0 g1 g2
      go_wp2
      have hb1 : Below wr.heap.size wr (wr.alloc (.cells #[.slice (some ⟨G j, 0, none⟩) (m j) (m j), .slice (A j) (tl j) (tc j), .int .i64 ((j : Int) + 1)] 73)) := below_alloc wr _
      have hH2 : (wr.alloc (.cells #[.slice (some ⟨G j, 0, none⟩) (m j) (m j), .slice (A j) (tl j) (tc j), .int .i64 ((j : Int) + 1)] 73)).cell? ⟨wr.heap.size, 2, none⟩ = some (.int .i64 ((j : Int) + 1)) := by simp
      have hf := hGr.pages.new j hlt
      have hF1 : Full (wr.alloc (.cells #[.slice (some ⟨G j, 0, none⟩) (m j) (m j), .slice (A j) (tl j) (tc j), .int .i64 ((j : Int) + 1)] 73)) (.slice (some ⟨G j, 0, none⟩) (m j) (m j)) (m j) (markOf (j + 1) : Int) := hf.same (hb1.block _ hf.lt)
      have hbw := hb.step hb1
      have hmj := hm j hlt
      have hHl : wr.heap.size < (wr.alloc (.cells #[.slice (some ⟨G j, 0, none⟩) (m j) (m j), .slice (A j) (tl j) (tc j), .int .i64 ((j : Int) + 1)] 73)).heap.size := by simp
      have hgm := hGr
      generalize hW1 : wr.alloc (.cells #[.slice (some ⟨G j, 0, none⟩) (m j) (m j), .slice (A j) (tl j) (tc j), .int .i64 ((j : Int) + 1)] 73) = W1 at hb1 hH2 hF1 hbw hHl ⊢
      have hG1 := hGr.below hb1
      obtain ⟨c, hc⟩ : ∃ c : Nat, c = markOf (j + 1) := ⟨_, rfl⟩
      have HC : Hid (c = markOf (j + 1)) := hc
      rw [← hc] at hF1
      clear hGr hgm hc1 e0 e1 e2 hb hb1 hc hW1 hf
      generalize wr.heap.size = H at hH2 hHl ⊢
      go_loopw [4, 5] (fun v k w2 => ∃ q : Nat, q ≤ 40 ∧ k = .int .i64 q ∧ Full w2 v (m j + q) (c : Int) ∧ Below W1.heap.size W1 w2 ∧ (q = 0 ∧ v = .slice (some ⟨G j, 0, none⟩) (m j) (m j) ∨ 0 < q ∧ ∀ g, v.ownBlock = some g → W1.heap.size ≤ g)) (fun _ k _ => 40 - (intOf k).toNat)
      case atStart => exact ⟨0, by omega, rfl, hF1, Below.refl _ _, .inl ⟨rfl, rfl⟩⟩
      case round =>
        obtain ⟨q, hq, rfl, hF, hB, hv⟩ := hrel
        have hc2 := (hB.cell (p := ⟨H, 2, none⟩) hHl).trans hH2
        by_cases hq40 : q < 40
        · have hq1 : (q : Int) < 40 := by omega
          have Hrep : Hid ((List.replicate (m j + q) (c : Int)).map (Value.int .u8) ++ [.int .u8 (c : Int)] = (List.replicate (m j + (q + 1)) (c : Int)).map (Value.int .u8)) := by
            show _ = _
            rw [← Nat.add_assoc, List.replicate_succ', List.map_append]; rfl
          rcases hv with ⟨rfl, rfl⟩ | ⟨hq0, hvo⟩
          · have hcs := hF.cells (g := G j) rfl
            have hlen : ((List.replicate (m j + 0) (c : Int)).map (Value.int .u8)).length = m j * 1 := by simp
            go_wp2_with (first
              | (go_at_call 70; refine (mark_c (j + 1) c _ (by omega) HC.out _ (by omega)).mono ?_; rintro e w3 ⟨rfl, h3⟩; rw [h3]; clear h3 w3)
              | (at_builtin; refine wpList_append_grows _ rfl _ _ 26 rfl 5 i0 (.int .u8 0) 1 1 Tryz.underlying26 hi hz0 hz1 hz2 rfl (by decide) (some ⟨G j, 0, none⟩) (m j) (m j) ((List.replicate (m j + 0) (c : Int)).map (Value.int .u8)) rfl (fun h => by cases h) hlen (fun b e k u hu => by cases e; exact cell_alloc_k _ (hcs k u hu)) ⟨wr.heap.size, 0, none⟩ 1 1 [.int .u8 (c : Int)] rfl rfl (cell_one_new _ _ _) (by simp [Value.oneCell']) (by omega) (by unfold maxLen; omega) (by omega) ?_; intro v2 w3 hown3 hgrow3; rw [Hrep.out] at hown3))
            go_roundw
            case rel => exact ⟨1, by omega, by go_num, Full.base (c := (c : Int)) hown3, grown_none hB hgrow3, .inr ⟨by omega, fun g e => by have := (hown3.lt g e).1; have := hB.size; rw [World.size_alloc] at *; omega⟩⟩
            case measure => simp [intOf]
          · go_wp2_with (first
              | (go_at_call 70; refine (mark_c (j + 1) c _ (by omega) HC.out _ (by omega)).mono ?_; rintro e w3 ⟨rfl, h3⟩; rw [h3]; clear h3 w3)
              | (at_builtin; refine wpList_append_own_at _ rfl _ _ 26 rfl 0 5 i0 (.int .u8 0) 1 1 Tryz.underlying26 hi hz0 hz1 hz2 rfl (by decide) u4 (m j + q) ((List.replicate (m j + q) (c : Int)).map (Value.int .u8)) rfl (World.ownsRow.alloc hF _) ⟨wr.heap.size, 0, none⟩ 1 1 [.int .u8 (c : Int)] rfl rfl (cell_one_new _ _ _) (by simp [Value.oneCell']) (by unfold maxLen; omega) (by omega) (Nat.zero_le _) ?_; intro v2 w3 hown3 hgrow3 hnil3 hat3; rw [Hrep.out] at hown3; clear hnil3))
            go_roundw
            case rel => exact ⟨q + 1, by omega, by go_num, hown3, grown_some hB hgrow3 hvo, .inr ⟨by omega, fun g e => by
              rcases hat3 with h | h
              · exact hvo g (h ▸ e)
              · rw [e] at h; have := Option.some.inj h; have := hB.size; rw [World.size_alloc] at *; omega⟩⟩
            case measure => simp [intOf]; omega
        · have hq4 : q = 40 := by omega
          subst hq4
          obtain ⟨_, hvo⟩ := hv.resolve_left (fun h => by omega)
          obtain ⟨g', cap', hv'⟩ := ownsRow_succ (k := m j + 39) hF
          subst hv'
          have hG2 := hG1.below hB
          rw [HC.out] at hF
          have hG3 : Hid (Grown (wr.setCell ⟨gb, j * 3 + 1, none⟩ (.slice (some ⟨g', 0, none⟩) (m j + 39 + 1) cap')) bk gb cb n G m (updA A j (some ⟨g', 0, none⟩)) (updA tl j (m j + 40)) (updA tc j cap') (j + 1)) := hG2.step hlt hF
          have hc1 : wr.cell? ⟨bk, 1, none⟩ = some (.slice (some ⟨gb, 0, none⟩) n cb) := by simp [World.cell?, hG2.pages.bk.row, bookCells]
          obtain ⟨_, g1, _⟩ := held_get G m A tl tc n j hlt
          have e1 := own_cell3 hG2.pages.bk.own _ _ g1
          rw [Nat.mul_comm 3 j] at e1
          obtain ⟨cur, hcur⟩ := row73 hG2.pages.bk.own
          have ef : wr.frozen? ⟨gb, j * 3 + 1, none⟩ = false := by simp [World.frozen?, hcur]
          have hB3 : Hid (Bz z o w0 (wr.setCell ⟨gb, j * 3 + 1, none⟩ (.slice (some ⟨g', 0, none⟩) (m j + 39 + 1) cap'))) := ⟨below_set0 (hbw.step hB).b hgb _, (heap_set_other _ hzb _ _).trans (hbw.step hB).z⟩
          clear hF hG2 hcur g1 hG1 hB hvo hv
          go_wp2
          go_roundw
          case rel => exact ⟨j + 1, _, _, _, by omega, by go_num, hG3.out, hB3.out⟩
          case measure => simp [intOf]; omega
    · have hjn : n = j := by omega
      subst hjn
      go_wp2
      go_end0
      exact ⟨⟨_, rfl⟩, A, tl, tc, hGr, hb⟩
end Go.Proofs.YtfabpjgnmpkleaaGreatDoor.Bits
namespace Go.Proofs.YtfabpjgnmpkleaaGreatDoor.Bits
open Go.ChangeShapes Go.WideShapes Go.ChangeAt Go.RowKit
set_option linter.unusedVariables false
theorem isMark_q (n c : Nat) (w : World) (hn : n < 100000) (hc : c = markOf n) (z : Int) (hz : z = n) (q : Nat) :
    Calls Tryz.prog 87 #[.int .u8 (c : Int), .int .i64 z] (w.drewN q) fun e w' => e = .returned (.bool true) ∧ ∃ m, w' = w.drewN m := by
  subst hz hc
  exact Calls.quiet_of_same (isMark n _ hn)
theorem rep_getD (n i : Nat) (c : Int) (h : i < n) : (List.replicate n c).getD i 0 = c := by simp [h]
set_option maxRecDepth 100000 in
set_option maxHeartbeats 2000000 in
theorem look (z0 : Nat) (o : Obj) (w0 : World) (bk gb cb n : Nat) (G m : Nat → Nat) (A : Nat → Option Addr) (tl tc : Nat → Nat) (w : World) (hG : Grown w bk gb cb n G m A tl tc n) (hn : n < 1000) (hm : ∀ i, i < n → m i < 100000) (hb0 : Bz z0 o w0 w) :
    Calls Tryz.prog 52 #[.pointer (some ⟨bk, 0, none⟩)] w fun e w' => e = .returned (.bool true) ∧ Below w.heap.size w w' ∧ Bz z0 o w0 w' := by
  go_enter Tryz.func52, Tryz.ntmps52
  go_wp2
  go_loopw [3] (fun i wr => ∃ j : Nat, j ≤ n ∧ i = .int .i64 j ∧ Below w.heap.size w wr) (fun i _ => n - (intOf i).toNat)
  case atStart => exact ⟨0, Nat.zero_le _, rfl, Below.refl _ _⟩
  case round =>
    obtain ⟨j, hj, rfl, hB⟩ := hrel
    have hGr := hG.below hB
    have hc1 : wr.cell? ⟨bk, 1, none⟩ = some (.slice (some ⟨gb, 0, none⟩) n cb) := by simp [World.cell?, hGr.pages.bk.row, bookCells]
    by_cases hlt : j < n
    · obtain ⟨g0, g1, g2⟩ := held_get G m A tl tc n j hlt
      have e0 := own_cell3 hGr.pages.bk.own _ _ g0
      have e1 := own_cell3 hGr.pages.bk.own _ _ g1
      have e2 := own_cell3 hGr.pages.bk.own _ _ g2
      obtain ⟨hl1, hl2⟩ := hGr.long j hlt
      have hf := hGr.pages.new j hlt
      obtain ⟨g, cap, hv⟩ := ownsRow_succ (k := m j + 39) hl2
      rw [hv] at e1 hl2
      obtain ⟨M, hM⟩ : ∃ M, M = m j + 39 + 1 := ⟨_, rfl⟩
      rw [← hM] at e1 hl2
      have HM : Hid (M = m j + 40) := by show _ = _; omega
      have hl2' : Full wr (.slice (some ⟨g, 0, none⟩) M cap) M (markOf (j + 1) : Int) := by rw [HM.out]; rw [HM.out] at hl2; exact hl2
      have hne : ((M : Int) != (m j : Int) + 40) = false := by simp; omega
      have hM6 : (M : Int) < 200000 := by have := hm j hlt; omega
      rw [Nat.mul_comm 3 j] at e0 e1 e2
      have hlt' : (j : Int) < (n : Int) := by omega
      have hj0 : (0 : Int) ≤ (j : Int) := by omega
      have hmj := hm j hlt
      obtain ⟨c, hc⟩ : ∃ c : Nat, c = markOf (j + 1) := ⟨_, rfl⟩
      have HC : Hid (c = markOf (j + 1)) := hc
      rw [← hc] at hl2' hf
      have HF : Hid (Own wr (G j) (m j) (List.replicate (m j) (c : Int))) := hf
      have HL : Hid (Full wr (.slice (some ⟨g, 0, none⟩) M cap) M (c : Int)) := hl2'
      have hmj' : (m j : Int) < 100000 := by omega
      clear g0 g1 g2 hl2 hl2' hf hc hv hGr hl1 hM
      go_wp2
      have hb1 : Below wr.heap.size wr (wr.alloc (.cells #[.slice (some ⟨G j, 0, none⟩) (m j) (m j), .slice (some ⟨g, 0, none⟩) M cap, .int .i64 ((j : Int) + 1)] 73)) := below_alloc wr _
      have hH0 : (wr.alloc (.cells #[.slice (some ⟨G j, 0, none⟩) (m j) (m j), .slice (some ⟨g, 0, none⟩) M cap, .int .i64 ((j : Int) + 1)] 73)).cell? ⟨wr.heap.size, 0, none⟩ = some (.slice (some ⟨G j, 0, none⟩) (m j) (m j)) := by simp
      have hH1 : (wr.alloc (.cells #[.slice (some ⟨G j, 0, none⟩) (m j) (m j), .slice (some ⟨g, 0, none⟩) M cap, .int .i64 ((j : Int) + 1)] 73)).cell? ⟨wr.heap.size, 1, none⟩ = some (.slice (some ⟨g, 0, none⟩) M cap) := by simp
      have hH2 : (wr.alloc (.cells #[.slice (some ⟨G j, 0, none⟩) (m j) (m j), .slice (some ⟨g, 0, none⟩) M cap, .int .i64 ((j : Int) + 1)] 73)).cell? ⟨wr.heap.size, 2, none⟩ = some (.int .i64 ((j : Int) + 1)) := by simp
      have HF1 : Hid (Own (wr.alloc (.cells #[.slice (some ⟨G j, 0, none⟩) (m j) (m j), .slice (some ⟨g, 0, none⟩) M cap, .int .i64 ((j : Int) + 1)] 73)) (G j) (m j) (List.replicate (m j) (c : Int))) := HF.out.same (hb1.block _ HF.out.lt)
      have HL1 : Hid (Full (wr.alloc (.cells #[.slice (some ⟨G j, 0, none⟩) (m j) (m j), .slice (some ⟨g, 0, none⟩) M cap, .int .i64 ((j : Int) + 1)] 73)) (.slice (some ⟨g, 0, none⟩) M cap) M (c : Int)) := own_frame' HL.out fun k e => hb1.block k (HL.out.lt k e).2
      have hBw := bstep hB hb1
      generalize wr.alloc (.cells #[.slice (some ⟨G j, 0, none⟩) (m j) (m j), .slice (some ⟨g, 0, none⟩) M cap, .int .i64 ((j : Int) + 1)] 73) = W1 at hb1 hH0 hH1 hH2 HF1 HL1 hBw ⊢
      clear hc1 e0 e1 e2 HF HL hb1 hB
      generalize wr.heap.size = H at hH0 hH1 hH2 ⊢
      go_loopw [5] (fun k w2 => ∃ q z : Nat, q ≤ M ∧ k = .int .i64 q ∧ w2 = W1.drewN z) (fun k _ => M - (intOf k).toNat)
      case atStart => exact ⟨0, 0, Nat.zero_le _, rfl, rfl⟩
      case round =>
        obtain ⟨q, z, hq, rfl, hw2⟩ := hrel
        have hd : Below W1.heap.size W1 wr := by rw [hw2]; exact below_drewN (Below.refl _ _) z
        have hc0 : wr.cell? ⟨H, 0, none⟩ = some (.slice (some ⟨G j, 0, none⟩) (m j) (m j)) := by rw [hw2]; exact hH0
        have hc1 : wr.cell? ⟨H, 1, none⟩ = some (.slice (some ⟨g, 0, none⟩) M cap) := by rw [hw2]; exact hH1
        have hc2 : wr.cell? ⟨H, 2, none⟩ = some (.int .i64 ((j : Int) + 1)) := by rw [hw2]; exact hH2
        have HW2 : Hid (wr = W1.drewN z) := hw2
        clear hw2
        by_cases hqM : q < M
        · have hk0 : (0 : Int) ≤ (q : Int) := by omega
          have hk1 : (q : Int) < (M : Int) := by omega
          have hx : wr.cell? ⟨g, q, none⟩ = some (.int .u8 (c : Int)) := by
            rw [HW2.out, World.cell?_drewN, (own_cell' HL1.out q hqM).1, rep_getD _ _ _ hqM]
          by_cases hqm : q < m j
          · have hk2 : (q : Int) < (m j : Int) := by omega
            have hk3 : decide ((q : Int) < (m j : Int)) = true := by simp; omega
            have hy : wr.cell? ⟨G j, q, none⟩ = some (.int .u8 (c : Int)) := by
              rw [HW2.out, World.cell?_drewN, (own_cell' HF1.out q hqm).1, rep_getD _ _ _ hqm]
            go_wp2
            go_quiet ((go_at_call 87; exact isMark_q (j + 1) c wr (by omega) HC.out _ (by omega) _))
            go_wp2
            exact ⟨⟨q + 1, z + nq, by omega, by go_num, by rw [HW2.out, World.drewN_drewN]⟩, by simp [intOf]; omega⟩
          · have hk3 : decide ((q : Int) < (m j : Int)) = false := by simp; omega
            go_wp2
            go_quiet ((go_at_call 87; exact isMark_q (j + 1) c wr (by omega) HC.out _ (by omega) _))
            go_wp2
            exact ⟨⟨q + 1, z + nq, by omega, by go_num, by rw [HW2.out, World.drewN_drewN]⟩, by simp [intOf]; omega⟩
        · have hBe := hBw.trans (hd.mono hBw.size)
          go_wp2
          go_roundw
          case rel => exact ⟨j + 1, by omega, by go_num, hBe⟩
          case measure => simp [intOf]; omega
    · go_wp2
      go_ret
      exact ⟨rfl, hB, hb0.step hB⟩
end Go.Proofs.YtfabpjgnmpkleaaGreatDoor.Bits
namespace Go.Proofs.YtfabpjgnmpkleaaGreatDoor.Bits
open Go.ChangeShapes Go.WideShapes Go.ChangeAt Go.RowKit
set_option linter.unusedVariables false
set_option maxRecDepth 100000
set_option maxHeartbeats 4000000 in
theorem apart_none (bk n : Nat) (xs : List Value) (w : World) (hB : Bk w bk (.slice none 0 0) n xs) :
    Calls Tryz.prog 12 #[.pointer (some ⟨bk, 0, none⟩)] w fun e w' => e = .returned (.bool true) ∧ w' = w := by
  go_enter Tryz.func12, Tryz.ntmps12
  go_wp2_with (first
    | (go_at_call 18; refine (e18 bk _ _ w hB).mono ?_; rintro e w9 ⟨⟨u, rfl⟩, h9⟩; rw [h9]; clear h9 w9)
    | (go_at_call 19; refine (e19 bk _ _ _ w hB).mono ?_; rintro e w9 ⟨⟨u, rfl⟩, h9⟩; rw [h9]; clear h9 w9)
    | (go_at_call 20; refine (e20 bk _ _ _ w hB).mono ?_; rintro e w9 ⟨⟨u, rfl⟩, h9⟩; rw [h9]; clear h9 w9)
    | (go_at_call 21; refine (e21 bk _ _ _ w hB).mono ?_; rintro e w9 ⟨⟨u, rfl⟩, h9⟩; rw [h9]; clear h9 w9)
    | (go_at_call 22; refine (e22 bk _ _ _ w hB).mono ?_; rintro e w9 ⟨⟨u, rfl⟩, h9⟩; rw [h9]; clear h9 w9)
    | (go_at_call 23; refine (e23 bk _ _ _ w hB).mono ?_; rintro e w9 ⟨⟨u, rfl⟩, h9⟩; rw [h9]; clear h9 w9)
    | (go_at_call 24; refine (e24 bk _ _ _ w hB).mono ?_; rintro e w9 ⟨⟨u, rfl⟩, h9⟩; rw [h9]; clear h9 w9)
    | (go_at_call 25; refine (e25 bk _ _ _ w hB).mono ?_; rintro e w9 ⟨⟨u, rfl⟩, h9⟩; rw [h9]; clear h9 w9)
    | (go_at_call 26; refine (e26 bk _ _ _ w hB).mono ?_; rintro e w9 ⟨⟨u, rfl⟩, h9⟩; rw [h9]; clear h9 w9)
    | (go_at_call 27; refine (e27 bk _ _ _ w hB).mono ?_; rintro e w9 ⟨⟨u, rfl⟩, h9⟩; rw [h9]; clear h9 w9)
    | (go_at_call 28; refine (e28 bk _ _ _ w hB).mono ?_; rintro e w9 ⟨⟨u, rfl⟩, h9⟩; rw [h9]; clear h9 w9)
    | (go_at_call 29; refine (e29 bk _ _ _ w hB).mono ?_; rintro e w9 ⟨⟨u, rfl⟩, h9⟩; rw [h9]; clear h9 w9)
    | (go_at_call 30; refine (e30 bk _ _ _ w hB).mono ?_; rintro e w9 ⟨⟨u, rfl⟩, h9⟩; rw [h9]; clear h9 w9)
    | (go_at_call 31; refine (e31 bk _ _ _ w hB).mono ?_; rintro e w9 ⟨⟨u, rfl⟩, h9⟩; rw [h9]; clear h9 w9)
    | (go_at_call 32; refine (e32 bk _ _ _ w hB).mono ?_; rintro e w9 ⟨⟨u, rfl⟩, h9⟩; rw [h9]; clear h9 w9)
    | (go_at_call 33; refine (e33 bk _ _ _ w hB).mono ?_; rintro e w9 ⟨⟨u, rfl⟩, h9⟩; rw [h9]; clear h9 w9)
    | (go_at_call 34; refine (e34 bk _ _ _ w hB).mono ?_; rintro e w9 ⟨⟨u, rfl⟩, h9⟩; rw [h9]; clear h9 w9)
    | (go_at_call 35; refine (e35 bk _ _ w hB).mono ?_; rintro e w9 ⟨⟨u, rfl⟩, h9⟩; rw [h9]; clear h9 w9)
    | (go_at_call 36; refine (e36 bk _ _ _ w hB).mono ?_; rintro e w9 ⟨⟨u, rfl⟩, h9⟩; rw [h9]; clear h9 w9)
    | (go_at_call 37; refine (e37 bk _ _ _ w hB).mono ?_; rintro e w9 ⟨⟨u, rfl⟩, h9⟩; rw [h9]; clear h9 w9)
    | (go_at_call 38; refine (e38 bk _ _ _ w hB).mono ?_; rintro e w9 ⟨⟨u, rfl⟩, h9⟩; rw [h9]; clear h9 w9)
    | (go_at_call 39; refine (e39 bk _ _ _ w hB).mono ?_; rintro e w9 ⟨⟨u, rfl⟩, h9⟩; rw [h9]; clear h9 w9)
    | (go_at_call 40; refine (e40 bk _ _ _ w hB).mono ?_; rintro e w9 ⟨⟨u, rfl⟩, h9⟩; rw [h9]; clear h9 w9)
    | (go_at_call 41; refine (e41 bk _ _ _ w hB).mono ?_; rintro e w9 ⟨⟨u, rfl⟩, h9⟩; rw [h9]; clear h9 w9)
    | (go_at_call 42; refine (e42 bk _ _ _ w hB).mono ?_; rintro e w9 ⟨⟨u, rfl⟩, h9⟩; rw [h9]; clear h9 w9)
    | (go_at_call 43; refine (e43 bk _ _ _ w hB).mono ?_; rintro e w9 ⟨⟨u, rfl⟩, h9⟩; rw [h9]; clear h9 w9)
    | (go_at_call 44; refine (e44 bk _ _ _ w hB).mono ?_; rintro e w9 ⟨⟨u, rfl⟩, h9⟩; rw [h9]; clear h9 w9)
    | (go_at_call 45; refine (e45 bk _ _ _ w hB).mono ?_; rintro e w9 ⟨⟨u, rfl⟩, h9⟩; rw [h9]; clear h9 w9)
    | (go_at_call 46; refine (e46 bk _ _ _ w hB).mono ?_; rintro e w9 ⟨⟨u, rfl⟩, h9⟩; rw [h9]; clear h9 w9)
    | (go_at_call 47; refine (e47 bk _ _ _ w hB).mono ?_; rintro e w9 ⟨⟨u, rfl⟩, h9⟩; rw [h9]; clear h9 w9)
    | (go_at_call 48; refine (e48 bk _ _ _ w hB).mono ?_; rintro e w9 ⟨⟨u, rfl⟩, h9⟩; rw [h9]; clear h9 w9)
    | (go_at_call 49; refine (e49 bk _ _ _ w hB).mono ?_; rintro e w9 ⟨⟨u, rfl⟩, h9⟩; rw [h9]; clear h9 w9)
    | (go_at_call 50; refine (e50 bk _ _ _ w hB).mono ?_; rintro e w9 ⟨⟨u, rfl⟩, h9⟩; rw [h9]; clear h9 w9)
    | (go_at_call 51; refine (e51 bk _ _ _ w hB).mono ?_; rintro e w9 ⟨⟨u, rfl⟩, h9⟩; rw [h9]; clear h9 w9)
    | (go_at_call 52; refine (e52 bk _ _ w hB).mono ?_; rintro e w9 ⟨rfl, h9⟩; rw [h9]; clear h9 w9)
    | (go_at_call 53; refine (e53 bk _ _ _ w hB).mono ?_; rintro e w9 ⟨rfl, h9⟩; rw [h9]; clear h9 w9)
    | (go_at_call 54; refine (e54 bk _ _ _ w hB).mono ?_; rintro e w9 ⟨rfl, h9⟩; rw [h9]; clear h9 w9)
    | (go_at_call 55; refine (e55 bk _ _ _ w hB).mono ?_; rintro e w9 ⟨rfl, h9⟩; rw [h9]; clear h9 w9)
    | (go_at_call 56; refine (e56 bk _ _ _ w hB).mono ?_; rintro e w9 ⟨rfl, h9⟩; rw [h9]; clear h9 w9)
    | (go_at_call 57; refine (e57 bk _ _ _ w hB).mono ?_; rintro e w9 ⟨rfl, h9⟩; rw [h9]; clear h9 w9)
    | (go_at_call 58; refine (e58 bk _ _ _ w hB).mono ?_; rintro e w9 ⟨rfl, h9⟩; rw [h9]; clear h9 w9)
    | (go_at_call 59; refine (e59 bk _ _ _ w hB).mono ?_; rintro e w9 ⟨rfl, h9⟩; rw [h9]; clear h9 w9)
    | (go_at_call 60; refine (e60 bk _ _ _ w hB).mono ?_; rintro e w9 ⟨rfl, h9⟩; rw [h9]; clear h9 w9)
    | (go_at_call 61; refine (e61 bk _ _ _ w hB).mono ?_; rintro e w9 ⟨rfl, h9⟩; rw [h9]; clear h9 w9)
    | (go_at_call 62; refine (e62 bk _ _ _ w hB).mono ?_; rintro e w9 ⟨rfl, h9⟩; rw [h9]; clear h9 w9)
    | (go_at_call 63; refine (e63 bk _ _ _ w hB).mono ?_; rintro e w9 ⟨rfl, h9⟩; rw [h9]; clear h9 w9)
    | (go_at_call 64; refine (e64 bk _ _ _ w hB).mono ?_; rintro e w9 ⟨rfl, h9⟩; rw [h9]; clear h9 w9)
    | (go_at_call 65; refine (e65 bk _ _ _ w hB).mono ?_; rintro e w9 ⟨rfl, h9⟩; rw [h9]; clear h9 w9)
    | (go_at_call 66; refine (e66 bk _ _ _ w hB).mono ?_; rintro e w9 ⟨rfl, h9⟩; rw [h9]; clear h9 w9)
    | (go_at_call 67; refine (e67 bk _ _ _ w hB).mono ?_; rintro e w9 ⟨rfl, h9⟩; rw [h9]; clear h9 w9)
    | (go_at_call 68; refine (e68 bk _ _ _ w hB).mono ?_; rintro e w9 ⟨rfl, h9⟩; rw [h9]; clear h9 w9))
  go_ret
  exact ⟨rfl, rfl⟩
set_option maxHeartbeats 4000000 in
theorem apart (z : Nat) (o : Obj) (w0 : World) (bk gb cb n : Nat) (G m : Nat → Nat) (w : World) (hP : Pages w bk gb cb n G m (fun _ => none) (fun _ => 0) (fun _ => 0) 0) (hn : n < 1000) (hm : ∀ i, i < n → m i < 100000) (hG : ∀ i, i < n → w0.heap.size ≤ G i) (hgb : w0.heap.size ≤ gb) (hzg : ∀ i, i < n → G i ≠ z) (hzb : z ≠ gb) (hb0 : Bz z o w0 w) :
    Calls Tryz.prog 12 #[.pointer (some ⟨bk, 0, none⟩)] w fun e w' => e = .returned (.bool true) ∧ Bz z o w0 w' := by
  go_enter Tryz.func12, Tryz.ntmps12
  go_wp2_with (first
    | (go_at_call 18; refine (fill z o w0 bk gb cb n G m _ _ _ w hP hn hm hG hzg hb0).mono ?_; rintro e w1 ⟨⟨u1, rfl⟩, hP1, hb1⟩; have hB1 := hP1.bk)
    | (go_at_call 19; refine (e19 bk _ _ _ w1 hB1).mono ?_; rintro e w9 ⟨⟨u, rfl⟩, h9⟩; rw [h9]; clear h9 w9)
    | (go_at_call 20; refine (e20 bk _ _ _ w1 hB1).mono ?_; rintro e w9 ⟨⟨u, rfl⟩, h9⟩; rw [h9]; clear h9 w9)
    | (go_at_call 21; refine (e21 bk _ _ _ w1 hB1).mono ?_; rintro e w9 ⟨⟨u, rfl⟩, h9⟩; rw [h9]; clear h9 w9)
    | (go_at_call 22; refine (e22 bk _ _ _ w1 hB1).mono ?_; rintro e w9 ⟨⟨u, rfl⟩, h9⟩; rw [h9]; clear h9 w9)
    | (go_at_call 23; refine (e23 bk _ _ _ w1 hB1).mono ?_; rintro e w9 ⟨⟨u, rfl⟩, h9⟩; rw [h9]; clear h9 w9)
    | (go_at_call 24; refine (e24 bk _ _ _ w1 hB1).mono ?_; rintro e w9 ⟨⟨u, rfl⟩, h9⟩; rw [h9]; clear h9 w9)
    | (go_at_call 25; refine (e25 bk _ _ _ w1 hB1).mono ?_; rintro e w9 ⟨⟨u, rfl⟩, h9⟩; rw [h9]; clear h9 w9)
    | (go_at_call 26; refine (e26 bk _ _ _ w1 hB1).mono ?_; rintro e w9 ⟨⟨u, rfl⟩, h9⟩; rw [h9]; clear h9 w9)
    | (go_at_call 27; refine (e27 bk _ _ _ w1 hB1).mono ?_; rintro e w9 ⟨⟨u, rfl⟩, h9⟩; rw [h9]; clear h9 w9)
    | (go_at_call 28; refine (e28 bk _ _ _ w1 hB1).mono ?_; rintro e w9 ⟨⟨u, rfl⟩, h9⟩; rw [h9]; clear h9 w9)
    | (go_at_call 29; refine (e29 bk _ _ _ w1 hB1).mono ?_; rintro e w9 ⟨⟨u, rfl⟩, h9⟩; rw [h9]; clear h9 w9)
    | (go_at_call 30; refine (e30 bk _ _ _ w1 hB1).mono ?_; rintro e w9 ⟨⟨u, rfl⟩, h9⟩; rw [h9]; clear h9 w9)
    | (go_at_call 31; refine (e31 bk _ _ _ w1 hB1).mono ?_; rintro e w9 ⟨⟨u, rfl⟩, h9⟩; rw [h9]; clear h9 w9)
    | (go_at_call 32; refine (e32 bk _ _ _ w1 hB1).mono ?_; rintro e w9 ⟨⟨u, rfl⟩, h9⟩; rw [h9]; clear h9 w9)
    | (go_at_call 33; refine (e33 bk _ _ _ w1 hB1).mono ?_; rintro e w9 ⟨⟨u, rfl⟩, h9⟩; rw [h9]; clear h9 w9)
    | (go_at_call 34; refine (e34 bk _ _ _ w1 hB1).mono ?_; rintro e w9 ⟨⟨u, rfl⟩, h9⟩; rw [h9]; clear h9 w9)
    | (go_at_call 35; refine (grow z o w0 bk gb cb n G m w1 hP1 hn hm hG hgb hzb hb1).mono ?_; rintro e w2 ⟨⟨u2, rfl⟩, A2, tl2, tc2, hG2, hb2⟩; have hB2 := hG2.pages.bk)
    | (go_at_call 36; refine (e36 bk _ _ _ w2 hB2).mono ?_; rintro e w9 ⟨⟨u, rfl⟩, h9⟩; rw [h9]; clear h9 w9)
    | (go_at_call 37; refine (e37 bk _ _ _ w2 hB2).mono ?_; rintro e w9 ⟨⟨u, rfl⟩, h9⟩; rw [h9]; clear h9 w9)
    | (go_at_call 38; refine (e38 bk _ _ _ w2 hB2).mono ?_; rintro e w9 ⟨⟨u, rfl⟩, h9⟩; rw [h9]; clear h9 w9)
    | (go_at_call 39; refine (e39 bk _ _ _ w2 hB2).mono ?_; rintro e w9 ⟨⟨u, rfl⟩, h9⟩; rw [h9]; clear h9 w9)
    | (go_at_call 40; refine (e40 bk _ _ _ w2 hB2).mono ?_; rintro e w9 ⟨⟨u, rfl⟩, h9⟩; rw [h9]; clear h9 w9)
    | (go_at_call 41; refine (e41 bk _ _ _ w2 hB2).mono ?_; rintro e w9 ⟨⟨u, rfl⟩, h9⟩; rw [h9]; clear h9 w9)
    | (go_at_call 42; refine (e42 bk _ _ _ w2 hB2).mono ?_; rintro e w9 ⟨⟨u, rfl⟩, h9⟩; rw [h9]; clear h9 w9)
    | (go_at_call 43; refine (e43 bk _ _ _ w2 hB2).mono ?_; rintro e w9 ⟨⟨u, rfl⟩, h9⟩; rw [h9]; clear h9 w9)
    | (go_at_call 44; refine (e44 bk _ _ _ w2 hB2).mono ?_; rintro e w9 ⟨⟨u, rfl⟩, h9⟩; rw [h9]; clear h9 w9)
    | (go_at_call 45; refine (e45 bk _ _ _ w2 hB2).mono ?_; rintro e w9 ⟨⟨u, rfl⟩, h9⟩; rw [h9]; clear h9 w9)
    | (go_at_call 46; refine (e46 bk _ _ _ w2 hB2).mono ?_; rintro e w9 ⟨⟨u, rfl⟩, h9⟩; rw [h9]; clear h9 w9)
    | (go_at_call 47; refine (e47 bk _ _ _ w2 hB2).mono ?_; rintro e w9 ⟨⟨u, rfl⟩, h9⟩; rw [h9]; clear h9 w9)
    | (go_at_call 48; refine (e48 bk _ _ _ w2 hB2).mono ?_; rintro e w9 ⟨⟨u, rfl⟩, h9⟩; rw [h9]; clear h9 w9)
    | (go_at_call 49; refine (e49 bk _ _ _ w2 hB2).mono ?_; rintro e w9 ⟨⟨u, rfl⟩, h9⟩; rw [h9]; clear h9 w9)
    | (go_at_call 50; refine (e50 bk _ _ _ w2 hB2).mono ?_; rintro e w9 ⟨⟨u, rfl⟩, h9⟩; rw [h9]; clear h9 w9)
    | (go_at_call 51; refine (e51 bk _ _ _ w2 hB2).mono ?_; rintro e w9 ⟨⟨u, rfl⟩, h9⟩; rw [h9]; clear h9 w9)
    | (go_at_call 52; refine (look z o w0 bk gb cb n G m A2 tl2 tc2 w2 hG2 hn hm hb2).mono ?_; rintro e w3 ⟨rfl, hk3, hb3⟩; have hB3 := (hG2.below hk3).pages.bk)
    | (go_at_call 53; refine (e53 bk _ _ _ w3 hB3).mono ?_; rintro e w9 ⟨rfl, h9⟩; rw [h9]; clear h9 w9)
    | (go_at_call 54; refine (e54 bk _ _ _ w3 hB3).mono ?_; rintro e w9 ⟨rfl, h9⟩; rw [h9]; clear h9 w9)
    | (go_at_call 55; refine (e55 bk _ _ _ w3 hB3).mono ?_; rintro e w9 ⟨rfl, h9⟩; rw [h9]; clear h9 w9)
    | (go_at_call 56; refine (e56 bk _ _ _ w3 hB3).mono ?_; rintro e w9 ⟨rfl, h9⟩; rw [h9]; clear h9 w9)
    | (go_at_call 57; refine (e57 bk _ _ _ w3 hB3).mono ?_; rintro e w9 ⟨rfl, h9⟩; rw [h9]; clear h9 w9)
    | (go_at_call 58; refine (e58 bk _ _ _ w3 hB3).mono ?_; rintro e w9 ⟨rfl, h9⟩; rw [h9]; clear h9 w9)
    | (go_at_call 59; refine (e59 bk _ _ _ w3 hB3).mono ?_; rintro e w9 ⟨rfl, h9⟩; rw [h9]; clear h9 w9)
    | (go_at_call 60; refine (e60 bk _ _ _ w3 hB3).mono ?_; rintro e w9 ⟨rfl, h9⟩; rw [h9]; clear h9 w9)
    | (go_at_call 61; refine (e61 bk _ _ _ w3 hB3).mono ?_; rintro e w9 ⟨rfl, h9⟩; rw [h9]; clear h9 w9)
    | (go_at_call 62; refine (e62 bk _ _ _ w3 hB3).mono ?_; rintro e w9 ⟨rfl, h9⟩; rw [h9]; clear h9 w9)
    | (go_at_call 63; refine (e63 bk _ _ _ w3 hB3).mono ?_; rintro e w9 ⟨rfl, h9⟩; rw [h9]; clear h9 w9)
    | (go_at_call 64; refine (e64 bk _ _ _ w3 hB3).mono ?_; rintro e w9 ⟨rfl, h9⟩; rw [h9]; clear h9 w9)
    | (go_at_call 65; refine (e65 bk _ _ _ w3 hB3).mono ?_; rintro e w9 ⟨rfl, h9⟩; rw [h9]; clear h9 w9)
    | (go_at_call 66; refine (e66 bk _ _ _ w3 hB3).mono ?_; rintro e w9 ⟨rfl, h9⟩; rw [h9]; clear h9 w9)
    | (go_at_call 67; refine (e67 bk _ _ _ w3 hB3).mono ?_; rintro e w9 ⟨rfl, h9⟩; rw [h9]; clear h9 w9)
    | (go_at_call 68; refine (e68 bk _ _ _ w3 hB3).mono ?_; rintro e w9 ⟨rfl, h9⟩; rw [h9]; clear h9 w9))
  go_ret
  exact ⟨rfl, hb3⟩
end Go.Proofs.YtfabpjgnmpkleaaGreatDoor.Bits
namespace Go.Proofs.YtfabpjgnmpkleaaGreatDoor.Bits
open Go.ChangeShapes Go.WideShapes Go.ChangeAt Go.RowKit
set_option linter.unusedVariables false
theorem bytes_nil (w : World) : Calls Tryz.prog 8 #[.pointer none] w fun e w' => e = .returned (.slice none 0 0) ∧ w' = w := by
  go_enter Tryz.func8, Tryz.ntmps8
  go_wp2_with (go_at_call 13; refine (there_nil _).mono ?_; rintro e w2 ⟨rfl, h2⟩; rw [h2]; clear h2 w2)
  go_ret
  exact ⟨rfl, rfl⟩
theorem len_zero (a : Nat) (w : World) (hp : w.heap[a]? = some (.cells #[.pointer none] 59 (0, 0))) : Calls Tryz.prog 7 #[.pointer (some ⟨a, 0, none⟩)] w fun e w' => e = .returned (.int .i64 0) ∧ w' = w := by
  go_enter Tryz.func7, Tryz.ntmps7
  go_wp2_with (go_at_call 13; refine (there_zero a _ hp).mono ?_; rintro e w2 ⟨rfl, h2⟩; rw [h2]; clear h2 w2)
  go_ret
  exact ⟨rfl, rfl⟩
/-- A row of bytes in block x, of which v is the slice, apart from another one. -/
def Far (v v' : Value) : Prop := ∀ g, v.ownBlock = some g → v'.ownBlock ≠ some g
theorem Far.symm {v v' : Value} (h : Far v v') : Far v' v := fun g e e' => h g e' e
/-- The value's own block has the make t. -/
def Make (w : World) (v : Value) (t : TypeId) : Prop := ∀ g, v.ownBlock = some g → ∃ c, w.heap[g]? = some (.cells c t (0, 0))
theorem own_make {w : World} {B s n : Nat} {t : TypeId} {v : Value} {xs : List Value} (h : w.ownsRow B t s v n xs) : Make w v t := fun g e => by
  rcases h.2 with ⟨rfl, _⟩ | ⟨g', cap, cur, rfl, _, hgb, _⟩
  · simp [Value.ownBlock] at e
  · cases e; exact ⟨cur, hgb⟩
/-- What a Put leaves of a row that is another one. -/
theorem Put.row {w w' : World} {r B s n : Nat} {v v' u : Value} {t : TypeId} {xs : List Value} (hp : Put r v v' w w') (ho : w.ownsRow B t s u n xs) (hr : ∀ g, u.ownBlock = some g → g ≠ r) (hv : Far v u) : w'.ownsRow B t s u n xs ∧ Far v' u := by
  refine ⟨own_frame' ho fun g e => hp.block g (ho.lt g e).2 (hr g e) (fun e' => hv g e'.symm e), fun g e e' => ?_⟩
  rcases hp.where_ with h | ⟨g', h, hg⟩
  · exact hv g (h ▸ e) e'
  · rw [e] at h; cases h
    have := (ho.lt g e').2
    omega
/-- Makes that differ are apart. -/
theorem Make.far {w : World} {v v' : Value} {t t' : TypeId} (h : Make w v t) (h' : Make w v' t') (hne : t ≠ t') : Far v v' := fun g e e' => by
  obtain ⟨c, hc⟩ := h g e
  obtain ⟨c', hc'⟩ := h' g e'
  rw [hc] at hc'
  simp at hc'
  exact hne hc'.2
end Go.Proofs.YtfabpjgnmpkleaaGreatDoor.Bits
set_option linter.unusedVariables false
namespace Go.Proofs.YtfabpjgnmpkleaaGreatDoor.Bits
open Go.ChangeShapes Go.WideShapes Go.ChangeAt Go.RowKit
theorem ne_ty {w : World} {x y : Nat} {t t' : TypeId} {c c' : Array Value} {f f' : Nat × Nat} (h : w.heap[x]? = some (.cells c t f)) (h' : w.heap[y]? = some (.cells c' t' f')) (ht : t ≠ t') : x ≠ y := by
  rintro rfl
  rw [h] at h'
  simp at h'
  exact ht h'.2.1
theorem Put.at {r k : Nat} {v v' : Value} {w w' : World} {o : Obj} (h : Put r v v' w w') (hk : w.heap[k]? = some o) (h1 : k ≠ r) (h2 : v.ownBlock ≠ some k) : w'.heap[k]? = some o := (h.block k (Array.getElem?_eq_some_iff.1 hk).1 h1 (fun e => h2 e.symm)).trans hk
theorem Put.own {r B s n : Nat} {v v' u : Value} {w w' : World} {t : TypeId} {xs : List Value} (h : Put r v v' w w') (ho : w.ownsRow B t s u n xs) (h1 : ∀ g, u.ownBlock = some g → g ≠ r) (h2 : ∀ g, u.ownBlock = some g → v.ownBlock ≠ some g) : w'.ownsRow B t s u n xs := own_frame' ho fun g e => h.block g (ho.lt g e).2 (h1 g e) (fun e' => h2 g e e'.symm)
theorem held_ext {G G' m m' : Nat → Nat} {A : Nat → Option Addr} {tl tc : Nat → Nat} : ∀ n, (∀ i, i < n → G i = G' i ∧ m i = m' i) → held G m A tl tc n = held G' m' A tl tc n
  | 0, _ => rfl
  | n + 1, h => by rw [held_succ, held_succ, held_ext n (fun i hi => h i (by omega)), (h n (by omega)).1, (h n (by omega)).2]
theorem Blk.own {w : World} {g : Nat} {l : List Int} (h : Blk w g l) (hl : l.length ≤ maxLen) : Own w g l.length l :=
  ⟨by simp, .inr ⟨g, l.length, (l.map (Value.int .u8)).toArray, rfl, Nat.zero_le _, h, Nat.le_refl _, hl, by simp, by simp [List.take_of_length_le]⟩⟩
abbrev N0 : Nat → Option Addr := fun _ => none
abbrev Z0 : Nat → Nat := fun _ => 0
structure Dk (w0 : World) (a r m bk : Nat) (v vm vb : Value) (n : Nat) (G mm : Nat → Nat) (L1 L2 : List Bool) (W : World) : Prop where
  wr : Wr W a r v L1
  ref : Ref W m vm L2
  book : Bk W bk vb n (held G mm N0 Z0 Z0 n)
  old : ∀ i, i < n → ∃ l, Own W (G i) (mm i) l
  sep : ∀ i j, i < n → j < n → i ≠ j → G i ≠ G j
  fv : ∀ i, i < n → v.ownBlock ≠ some (G i)
  fm : ∀ i, i < n → vm.ownBlock ≠ some (G i)
  far : Far v vm
  lo : w0.heap.size ≤ r ∧ w0.heap.size ≤ m ∧ w0.heap.size ≤ bk
  lv : ∀ g, v.ownBlock = some g → w0.heap.size ≤ g
  lm : ∀ g, vm.ownBlock = some g → w0.heap.size ≤ g
  lb : ∀ g, vb.ownBlock = some g → w0.heap.size ≤ g
  lg : ∀ i, i < n → w0.heap.size ≤ G i
  mb : ∀ i, i < n → mm i < 100000
  below : Below w0.heap.size w0 W
section
variable {w0 W W' : World} {a r m bk n : Nat} {v vm vb v' vm' vb' : Value} {G mm : Nat → Nat} {L1 L2 L' : List Bool}
theorem Dk.glt (h : Dk w0 a r m bk v vm vb n G mm L1 L2 W) : ∀ i, i < n → G i < W.heap.size := fun i hi => by
  obtain ⟨l, hl⟩ := h.old i hi
  exact hl.lt
theorem Dk.vlt (h : Dk w0 a r m bk v vm vb n G mm L1 L2 W) : ∀ g, v.ownBlock = some g → g < W.heap.size := fun g e => (h.wr.row.own.lt g e).2
theorem Dk.mlt (h : Dk w0 a r m bk v vm vb n G mm L1 L2 W) : ∀ g, vm.ownBlock = some g → g < W.heap.size := fun g e => (h.ref.own.lt g e).2
theorem Dk.gty (h : Dk w0 a r m bk v vm vb n G mm L1 L2 W) : ∀ i, i < n → ∃ c, W.heap[G i]? = some (.cells c 5 (0, 0)) := fun i hi => by
  obtain ⟨l, hl⟩ := h.old i hi
  obtain ⟨c, hc, _⟩ := own_heap hl
  exact ⟨c, hc⟩
theorem Dk.keep (h : Dk w0 a r m bk v vm vb n G mm L1 L2 W) (hb : Below W.heap.size W W') : Dk w0 a r m bk v vm vb n G mm L1 L2 W' :=
  ⟨h.wr.kept hb, ⟨(hb.block _ (Array.getElem?_eq_some_iff.1 h.ref.row).1).trans h.ref.row, own_frame' h.ref.own fun g e => hb.block g (h.ref.own.lt g e).2⟩, ⟨(hb.block _ (Array.getElem?_eq_some_iff.1 h.book.row).1).trans h.book.row, own_frame' h.book.own fun g e => hb.block g (h.book.own.lt g e).2⟩,
    fun i hi => (h.old i hi).imp fun l hl => hl.same (hb.block _ hl.lt), h.sep, h.fv, h.fm, h.far, h.lo, h.lv, h.lm, h.lb, h.lg, h.mb, bstep h.below hb⟩
theorem Dk.put1 (h : Dk w0 a r m bk v vm vb n G mm L1 L2 W) (hw : Wr W' a r v' L') (hp : Put r v v' W W') : Dk w0 a r m bk v' vm vb n G mm L' L2 W' := by
  have ty_r := h.wr.row.row
  have ty_m := h.ref.row
  have ty_b := h.book.row
  have mk_v := own_make h.wr.row.own
  have mk_m := own_make h.ref.own
  have mk_b := own_make h.book.own
  refine ⟨hw, ⟨hp.at ty_m (ne_ty ty_m ty_r (by decide)) (fun e => ?_), hp.own h.ref.own (fun g e => ?_) (fun g e e' => h.far g e' e)⟩, ⟨hp.at ty_b (ne_ty ty_b ty_r (by decide)) (fun e => ?_), hp.own h.book.own (fun g e => ?_) (fun g e e' => (mk_b.far mk_v (by decide)) g e e')⟩, fun i hi => ?_, h.sep, fun i hi => ?_, h.fm, fun g e e' => ?_, h.lo, fun g e => ?_, h.lm, h.lb, h.lg, h.mb, h.below.trans (hp.below h.below.size h.lo.1 h.lv)⟩
  · obtain ⟨c, hc⟩ := mk_v _ e
    exact ne_ty ty_m hc (by decide) rfl
  · obtain ⟨c, hc⟩ := mk_m g e
    exact ne_ty hc ty_r (by decide)
  · obtain ⟨c, hc⟩ := mk_v _ e
    exact ne_ty ty_b hc (by decide) rfl
  · obtain ⟨c, hc⟩ := mk_b g e
    exact ne_ty hc ty_r (by decide)
  · obtain ⟨c, hc⟩ := h.gty i hi
    exact (h.old i hi).imp fun l hl => hl.same (hp.block _ hl.lt (ne_ty hc ty_r (by decide)) (fun e => h.fv i hi e.symm))
  · rcases hp.where_ with e | ⟨g, e, hg⟩
    · rw [e]; exact h.fv i hi
    · rw [e]; intro e'; have := h.glt i hi; have := Option.some.inj e'; omega
  · rcases hp.where_ with e2 | ⟨g2, e2, hg⟩
    · exact h.far g (e2 ▸ e) e'
    · rw [e] at e2; have := h.mlt g e'; have := Option.some.inj e2; omega
  · rcases hp.where_ with e2 | ⟨g2, e2, hg⟩
    · exact h.lv g (e2 ▸ e)
    · rw [e] at e2; have := h.below.size; have := Option.some.inj e2; omega
theorem Dk.put2 (h : Dk w0 a r m bk v vm vb n G mm L1 L2 W) (hw : Ref W' m vm' L') (hp : Put m vm vm' W W') : Dk w0 a r m bk v vm' vb n G mm L1 L' W' := by
  have ty_a := h.wr.ptr
  have ty_r := h.wr.row.row
  have ty_m := h.ref.row
  have ty_b := h.book.row
  have mk_v := own_make h.wr.row.own
  have mk_m := own_make h.ref.own
  have mk_b := own_make h.book.own
  refine ⟨⟨hp.at ty_a (ne_ty ty_a ty_m (by decide)) (fun e => ?_), ⟨hp.at ty_r (ne_ty ty_r ty_m (by decide)) (fun e => ?_), hp.own h.wr.row.own (fun g e => ?_) (fun g e e' => h.far g e e')⟩⟩, hw, ⟨hp.at ty_b (ne_ty ty_b ty_m (by decide)) (fun e => ?_), hp.own h.book.own (fun g e => ?_) (fun g e e' => (mk_b.far mk_m (by decide)) g e e')⟩, fun i hi => ?_, h.sep, h.fv, fun i hi => ?_, fun g e e' => ?_, h.lo, h.lv, fun g e => ?_, h.lb, h.lg, h.mb, h.below.trans (hp.below h.below.size h.lo.2.1 h.lm)⟩
  · obtain ⟨c, hc⟩ := mk_m _ e
    exact ne_ty ty_a hc (by decide) rfl
  · obtain ⟨c, hc⟩ := mk_m _ e
    exact ne_ty ty_r hc (by decide) rfl
  · obtain ⟨c, hc⟩ := mk_v g e
    exact ne_ty hc ty_m (by decide)
  · obtain ⟨c, hc⟩ := mk_m _ e
    exact ne_ty ty_b hc (by decide) rfl
  · obtain ⟨c, hc⟩ := mk_b g e
    exact ne_ty hc ty_m (by decide)
  · obtain ⟨c, hc⟩ := h.gty i hi
    exact (h.old i hi).imp fun l hl => hl.same (hp.block _ hl.lt (ne_ty hc ty_m (by decide)) (fun e => h.fm i hi e.symm))
  · rcases hp.where_ with e | ⟨g, e, hg⟩
    · rw [e]; exact h.fm i hi
    · rw [e]; intro e'; have := h.glt i hi; have := Option.some.inj e'; omega
  · rcases hp.where_ with e2 | ⟨g2, e2, hg⟩
    · exact h.far g e (e2 ▸ e')
    · rw [e'] at e2; have := h.vlt g e; have := Option.some.inj e2; omega
  · rcases hp.where_ with e2 | ⟨g2, e2, hg⟩
    · exact h.lm g (e2 ▸ e)
    · rw [e] at e2; have := h.below.size; have := Option.some.inj e2; omega
theorem Dk.more (h : Dk w0 a r m bk v vm vb n G mm L1 L2 W) {g k : Nat} {l : List Int} (hB : Bk W' bk vb' (n + 1) (held G mm N0 Z0 Z0 n ++ [.slice (some ⟨g, 0, none⟩) k k, .slice none 0 0, .int .i64 ((n : Int) + 1)])) (hp : Put bk vb vb' W W') (ho : Own W g k l) (hg : w0.heap.size ≤ g) (hgG : ∀ i, i < n → g ≠ G i) (hgv : v.ownBlock ≠ some g) (hgm : vm.ownBlock ≠ some g) (hk : k < 100000) : Dk w0 a r m bk v vm vb' (n + 1) (updA G n g) (updA mm n k) L1 L2 W' := by
  have ty_a := h.wr.ptr
  have ty_r := h.wr.row.row
  have ty_m := h.ref.row
  have ty_b := h.book.row
  have mk_v := own_make h.wr.row.own
  have mk_m := own_make h.ref.own
  have mk_b := own_make h.book.own
  have eG : ∀ i, i < n → updA G n g i = G i := fun i hi => updA_ne _ _ _ _ (by omega)
  have em : ∀ i, i < n → updA mm n k i = mm i := fun i hi => updA_ne _ _ _ _ (by omega)
  have eGn : updA G n g n = g := updA_same _ _ _
  have emn : updA mm n k n = k := updA_same _ _ _
  have ownk : ∀ {x y : Nat} {l : List Int}, Own W x y l → Own W' x y l := fun {x y l} hl => by
    obtain ⟨c, hc, _⟩ := own_heap hl
    exact hl.same (hp.block _ hl.lt (ne_ty hc ty_b (by decide)) (fun e => by obtain ⟨c', hc'⟩ := mk_b _ e.symm; exact ne_ty hc hc' (by decide) rfl))
  refine ⟨⟨hp.at ty_a (ne_ty ty_a ty_b (by decide)) (fun e => ?_), ⟨hp.at ty_r (ne_ty ty_r ty_b (by decide)) (fun e => ?_), hp.own h.wr.row.own (fun g e => ?_) (fun g e e' => (mk_v.far mk_b (by decide)) g e e')⟩⟩, ⟨hp.at ty_m (ne_ty ty_m ty_b (by decide)) (fun e => ?_), hp.own h.ref.own (fun g e => ?_) (fun g e e' => (mk_m.far mk_b (by decide)) g e e')⟩, ?_, fun i hi => ?_, fun i j hi hj hij => ?_, fun i hi => ?_, fun i hi => ?_, h.far, h.lo, h.lv, h.lm, fun g e => ?_, fun i hi => ?_, fun i hi => ?_, h.below.trans (hp.below h.below.size h.lo.2.2 h.lb)⟩
  · obtain ⟨c, hc⟩ := mk_b _ e
    exact ne_ty ty_a hc (by decide) rfl
  · obtain ⟨c, hc⟩ := mk_b _ e
    exact ne_ty ty_r hc (by decide) rfl
  · obtain ⟨c, hc⟩ := mk_v g e
    exact ne_ty hc ty_b (by decide)
  · obtain ⟨c, hc⟩ := mk_b _ e
    exact ne_ty ty_m hc (by decide) rfl
  · obtain ⟨c, hc⟩ := mk_m g e
    exact ne_ty hc ty_b (by decide)
  · rw [held_succ, eGn, emn, held_ext n (fun i hi => ⟨eG i hi, em i hi⟩)]
    exact hB
  · by_cases e : i < n
    · rw [eG i e, em i e]
      exact (h.old i e).imp fun l hl => ownk hl
    · obtain rfl : i = n := by omega
      rw [eGn, emn]
      exact ⟨l, ownk ho⟩
  · by_cases e : i < n
    · by_cases e2 : j < n
      · rw [eG i e, eG j e2]; exact h.sep i j e e2 hij
      · obtain rfl : j = n := by omega
        rw [eGn, eG i e]; exact fun e3 => hgG i e e3.symm
    · obtain rfl : i = n := by omega
      rw [eGn, eG j (by omega)]; exact hgG j (by omega)
  · by_cases e : i < n
    · rw [eG i e]; exact h.fv i e
    · obtain rfl : i = n := by omega
      rw [eGn]; exact hgv
  · by_cases e : i < n
    · rw [eG i e]; exact h.fm i e
    · obtain rfl : i = n := by omega
      rw [eGn]; exact hgm
  · rcases hp.where_ with e2 | ⟨g2, e2, hg2⟩
    · exact h.lb g (e2 ▸ e)
    · rw [e] at e2; have := h.below.size; have := Option.some.inj e2; omega
  · by_cases e : i < n
    · rw [eG i e]; exact h.lg i e
    · obtain rfl : i = n := by omega
      rw [eGn]; exact hg
  · by_cases e : i < n
    · rw [em i e]; exact h.mb i e
    · obtain rfl : i = n := by omega
      rw [emn]; exact hk
end
end Go.Proofs.YtfabpjgnmpkleaaGreatDoor.Bits
