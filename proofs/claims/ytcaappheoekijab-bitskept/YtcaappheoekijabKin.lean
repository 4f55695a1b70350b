/-
  Answers that are kept: each in memory of its own, apart from the writer's; rows of them.
-/
import Derived.Test.YtcaappheoekijabAcc
namespace Go.Proofs.Ytcaappheoekijab.Bits
open Go.ChangeShapes Go.WideShapes Go.ChangeAt Go.RowKit
set_option linter.unusedVariables false
/-- The bits of the first numbers, each in so many bits. -/
def upTo (K N : Nat → Nat) : Nat → List Bool
  | 0 => []
  | j + 1 => upTo K N j ++ bitsOf (N j) (K j)
theorem upTo_prefix (K N : Nat → Nat) (j n : Nat) (h : j ≤ n) : ∃ rest, upTo K N n = upTo K N j ++ rest := by
  induction n with
  | zero => exact ⟨[], by rw [show j = 0 by omega]; rfl⟩
  | succ n ih =>
    by_cases e : j = n + 1
    · exact ⟨[], by rw [e, List.append_nil]⟩
    · obtain ⟨r, hr⟩ := ih (by omega)
      exact ⟨r ++ bitsOf (N n) (K n), by rw [upTo, hr, List.append_assoc]⟩
theorem upTo_length (K N : Nat → Nat) (hK : ∀ i, K i ≤ 8) (j : Nat) : (upTo K N j).length ≤ 8 * j := by
  induction j with
  | zero => simp [upTo]
  | succ j ih =>
    have := hK j
    rw [upTo, List.length_append, bitsOf_length]
    omega
/-- Of a longer row of bits all bytes but the last one of the shorter row are the same. -/
theorem pack_prefix (X Y : List Bool) (m : Nat) (hm : 8 * m ≤ X.length) : (pack (X ++ Y)).take m = (pack X).take m := by
  apply List.ext_getElem
  · simp [pack_length]; omega
  · intro i h1 h2
    simp only [List.length_take, pack_length] at h1 h2
    simp only [List.getElem_take, pack, List.getElem_map, List.getElem_range]
    have : byteAt (X ++ Y) i = byteAt X i := by
      apply Nat.eq_of_testBit_eq
      intro t
      by_cases ht : t < 8
      · rw [testBit_byteAt _ _ _ ht, testBit_byteAt _ _ _ ht, List.getD_eq_getElem?_getD, List.getD_eq_getElem?_getD, List.getElem?_append_left (by omega)]
      · rw [testBit_byteAt_ge _ _ _ (by omega), testBit_byteAt_ge _ _ _ (by omega)]
    rw [this]
/-- An answer in memory of its own, apart from the bytes of a writer. -/
structure Kin (w : World) (v : Value) (g n : Nat) (l : List Int) : Prop where
  blk : ∃ c, w.heap[g]? = some (.cells c 5 (0, 0))
  el : Elems w (some ⟨g, 0, none⟩) n l
  sep : some g ≠ v.ownBlock
theorem Elems.same {w w' : World} {g n : Nat} {l : List Int} (h : Elems w (some ⟨g, 0, none⟩) n l) (hb : w'.heap[g]? = w.heap[g]?) : Elems w' (some ⟨g, 0, none⟩) n l := by
  obtain ⟨h1, h2, h3, h4⟩ := h
  refine ⟨h1, h2, h3, ?_⟩
  rcases h4 with h4 | ⟨b, o, ha, hc⟩
  · exact .inl h4
  · cases ha
    exact .inr ⟨g, 0, rfl, fun i hi => (World.cell?_of_block (a := ⟨g, 0 + i, none⟩) hb).trans (hc i hi)⟩
theorem Kin.same {w w' : World} {v v' : Value} {g n : Nat} {l : List Int} (h : Kin w v g n l) (hb : w'.heap[g]? = w.heap[g]?) (hs : some g ≠ v'.ownBlock) : Kin w' v' g n l := by
  obtain ⟨c, hc⟩ := h.blk
  exact ⟨⟨c, hb.trans hc⟩, h.el.same hb, hs⟩
theorem Kin.lt {w : World} {v : Value} {g n : Nat} {l : List Int} (h : Kin w v g n l) : g < w.heap.size := by
  obtain ⟨c, hc⟩ := h.blk
  exact (Array.getElem?_eq_some_iff.1 hc).1
theorem Kin.below {w w' : World} {v : Value} {g n : Nat} {l : List Int} (h : Kin w v g n l) (hb : Below w.heap.size w w') : Kin w' v g n l := h.same (hb.block g h.lt) h.sep
theorem Kin.put {w w' : World} {r : Nat} {v v' : Value} {L : List Bool} {g n : Nat} {l : List Int} (h : Kin w v g n l) (hR : Row w r v L) (hp : Put r v v' w w') : Kin w' v' g n l := by
  obtain ⟨c, hc⟩ := h.blk
  refine h.same (hp.block g h.lt (fun e => by subst e; have := hR.row.symm.trans hc; simp at this) h.sep) ?_
  rcases hp.where_ with e | ⟨g', e, hg⟩
  · rw [e]; exact h.sep
  · rw [e]; intro e'; cases e'; have := h.lt; omega
/-- A row of slices that the call owns: where it lies, of what make. -/
theorem own31 {w : World} {B n : Nat} {v : Value} {xs : List Value} (h : w.ownsRow B 31 1 v n xs) {k : Nat} {c : Array Value} {t : TypeId} {f : Nat × Nat} (hk : w.heap[k]? = some (.cells c t f)) (ht : t ≠ 31) : some k ≠ v.ownBlock := by
  intro e
  rcases h.2 with ⟨rfl, _⟩ | ⟨g, cap, cur, rfl, _, hgb, _⟩
  · simp [Value.ownBlock] at e
  · simp only [Value.ownBlock, Option.some.injEq] at e
    subst e
    rw [hk] at hgb
    simp at hgb
    exact ht hgb.2.1
theorem own_frame {w w' : World} {B n : Nat} {t : TypeId} {v : Value} {xs : List Value} (h : w.ownsRow B t 1 v n xs) (hf : ∀ g, v.ownBlock = some g → w'.heap[g]? = w.heap[g]?) : w'.ownsRow B t 1 v n xs := by
  refine ⟨h.1, ?_⟩
  rcases h.2 with h2 | ⟨g, cap, cur, rfl, hb, hgb, rest⟩
  · exact .inl h2
  · exact .inr ⟨g, cap, cur, rfl, hb, (hf g rfl).trans hgb, rest⟩
theorem own31_put {w w' : World} {B n r : Nat} {v v' va : Value} {L : List Bool} {xs : List Value} (h : w.ownsRow B 31 1 va n xs) (hR : Row w r v L) (hp : Put r v v' w w') : w'.ownsRow B 31 1 va n xs := by
  refine own_frame h fun g e => hp.block g (h.lt g e).2 (fun er => ?_) (fun er => ?_)
  · subst er
    exact own31 h hR.row (by decide) e.symm
  · rcases hR.own.2 with ⟨rfl, _⟩ | ⟨g', cap, cur, rfl, _, hgb, _⟩
    · simp [Value.ownBlock] at er
    · simp only [Value.ownBlock, Option.some.injEq] at er
      subst er
      exact own31 h hgb (by decide) e.symm
theorem own31_below {w w' : World} {B n : Nat} {va : Value} {xs : List Value} (h : w.ownsRow B 31 1 va n xs) (hb : Below w.heap.size w w') : w'.ownsRow B 31 1 va n xs :=
  own_frame h fun g e => hb.block g (h.lt g e).2
/-- What an append onto a row of slices leaves as it was. -/
theorem Pen.grown31 {B B' n : Nat} {w w' : World} {a r : Nat} {v va : Value} {L : List Bool} {xs : List Value} (h : Pen B w a r v L) (ho : w.ownsRow B' 31 1 va n xs) (hg : w.grownBy w' va.ownBlock) : Pen B w' a r v L := by
  have hW := h.wr
  refine ⟨⟨(hg.block a (Array.getElem?_eq_some_iff.1 hW.ptr).1 (own31 ho hW.ptr (by decide))).trans hW.ptr, (hg.block r (Array.getElem?_eq_some_iff.1 hW.row.row).1 (own31 ho hW.row.row (by decide))).trans hW.row.row, own_frame hW.row.own fun g e => ?_⟩, h.lo, h.own⟩
  rcases hW.row.own.2 with ⟨rfl, _⟩ | ⟨g', cap, cur, rfl, _, hgb, _⟩
  · simp [Value.ownBlock] at e
  · simp only [Value.ownBlock, Option.some.injEq] at e
    subst e
    exact hg.block g' (Array.getElem?_eq_some_iff.1 hgb).1 (own31 ho hgb (by decide))
theorem Kin.grown31 {B n' : Nat} {w w' : World} {v va : Value} {g n : Nat} {l : List Int} {xs : List Value} (h : Kin w v g n l) (ho : w.ownsRow B 31 1 va n' xs) (hg : w.grownBy w' va.ownBlock) : Kin w' v g n l := by
  obtain ⟨c, hc⟩ := h.blk
  exact h.same (hg.block g h.lt (own31 ho hc (by decide))) h.sep
theorem info31 : (Try.prog.info? 31).map (fun i => (i.zero, i.size, i.bytes)) = some (some (.slice none 0 0), 1, 24) := by kernel_rfl
theorem own_cellv {w : World} {B g n cap : Nat} {xs : List Value} (h : w.ownsRow B 31 1 (.slice (some ⟨g, 0, none⟩) n cap) n xs) (i : Nat) (u : Value) (hu : xs[i]? = some u) : w.cell? ⟨g, i, none⟩ = some u := by
  have := h.cells (g := g) rfl i u hu
  rwa [Addr.add_mid, Nat.zero_add] at this
def rowA (G n : Nat → Nat) (j : Nat) : List Value := (List.range j).map fun i => .slice (some ⟨G i, 0, none⟩) (n i) (n i)
def rowH (H n : Nat → Nat) (j : Nat) : List Value := (List.range j).map fun i => .slice (some ⟨H i, 0, none⟩) (n i) (n i + 1)
def upd (G : Nat → Nat) (j g : Nat) : Nat → Nat := fun i => if i = j then g else G i
theorem upd_same (G : Nat → Nat) (j g : Nat) : upd G j g j = g := by simp [upd]
theorem upd_lt (G : Nat → Nat) (j g i : Nat) (h : i < j) : upd G j g i = G i := by unfold upd; rw [if_neg (by omega)]
theorem rowA_succ (G n : Nat → Nat) (j g : Nat) : rowA (upd G j g) n (j + 1) = rowA G n j ++ [.slice (some ⟨g, 0, none⟩) (n j) (n j)] := by
  rw [rowA, List.range_succ, List.map_append]
  congr 1
  · exact List.map_congr_left fun i hi => by rw [upd_lt _ _ _ _ (List.mem_range.1 hi)]
  · simp [upd_same]
theorem rowH_succ (G n : Nat → Nat) (j g : Nat) : rowH (upd G j g) n (j + 1) = rowH G n j ++ [.slice (some ⟨g, 0, none⟩) (n j) (n j + 1)] := by
  rw [rowH, List.range_succ, List.map_append]
  congr 1
  · exact List.map_congr_left fun i hi => by rw [upd_lt _ _ _ _ (List.mem_range.1 hi)]
  · simp [upd_same]
/-- The writer, the answers so far, and their twins. -/
structure St (B : Nat) (w : World) (a r : Nat) (v : Value) (L : List Bool) (va vt : Value) (G H n : Nat → Nat) (P : Nat → List Int) (ja jh : Nat) : Prop where
  pen : Pen B w a r v L
  ra : w.ownsRow B 31 1 va ja (rowA G n ja)
  rh : w.ownsRow B 31 1 vt jh (rowH H n jh)
  sep : ∀ g, va.ownBlock = some g → vt.ownBlock ≠ some g
  ka : ∀ i, i < ja → Kin w v (G i) (n i) (P i)
  kh : ∀ i, i < jh → Kin w v (H i) (n i) (P i)
theorem St.below {B : Nat} {w w' : World} {a r : Nat} {v : Value} {L : List Bool} {va vt : Value} {G H n : Nat → Nat} {P : Nat → List Int} {ja jh : Nat} (S : St B w a r v L va vt G H n P ja jh) (hb : Below w.heap.size w w') : St B w' a r v L va vt G H n P ja jh :=
  ⟨S.pen.kept hb, own31_below S.ra hb, own31_below S.rh hb, S.sep, fun i hi => (S.ka i hi).below hb, fun i hi => (S.kh i hi).below hb⟩
theorem St.put {B : Nat} {w w' : World} {a r : Nat} {v v' : Value} {L L' : List Bool} {va vt : Value} {G H n : Nat → Nat} {P : Nat → List Int} {ja jh : Nat} (S : St B w a r v L va vt G H n P ja jh) (hB : B ≤ w.heap.size) (hp : Put r v v' w w') (hW : Wr w' a r v' L') : St B w' a r v' L' va vt G H n P ja jh :=
  ⟨⟨hW, S.pen.lo, fun g hg => by
    rcases hp.where_ with e | ⟨g', e, hg'⟩
    · exact S.pen.own g (e ▸ hg)
    · rw [hg] at e; cases e; omega⟩,
   own31_put S.ra S.pen.wr.row hp, own31_put S.rh S.pen.wr.row hp, S.sep, fun i hi => (S.ka i hi).put S.pen.wr.row hp, fun i hi => (S.kh i hi).put S.pen.wr.row hp⟩
theorem St.appA {B : Nat} {w w' : World} {a r : Nat} {v : Value} {L : List Bool} {va vt va' : Value} {G H n : Nat → Nat} {P : Nat → List Int} {ja jh g : Nat} (S : St B w a r v L va vt G H n P ja jh) (hK : Kin w v g (n ja) (P ja))
    (ho : w'.ownsRow B 31 1 va' (ja + 1) (rowA G n ja ++ [.slice (some ⟨g, 0, none⟩) (n ja) (n ja)])) (hg : w.grownBy w' va.ownBlock) (hat : va'.ownBlock = va.ownBlock ∨ va'.ownBlock = some w.heap.size) :
    St B w' a r v L va' vt (upd G ja g) H n P (ja + 1) jh := by
  refine ⟨S.pen.grown31 S.ra hg, by rw [rowA_succ]; exact ho, own_frame S.rh fun k e => hg.block k (S.rh.lt k e).2 (fun e' => S.sep k e'.symm e), fun k e e' => ?_, fun i hi => ?_, fun i hi => (S.kh i hi).grown31 S.ra hg⟩
  · rcases hat with h | h
    · exact S.sep k (h ▸ e) e'
    · rw [e] at h; cases h
      have := (S.rh.lt _ e').2
      omega
  · by_cases h : i = ja
    · subst h
      rw [upd_same]
      exact hK.grown31 S.ra hg
    · rw [upd_lt _ _ _ _ (by omega)]
      exact (S.ka i (by omega)).grown31 S.ra hg
theorem St.appH {B : Nat} {w w' : World} {a r : Nat} {v : Value} {L : List Bool} {va vt vt' : Value} {G H n : Nat → Nat} {P : Nat → List Int} {ja jh g : Nat} (S : St B w a r v L va vt G H n P ja jh) (hK : Kin w v g (n jh) (P jh))
    (ho : w'.ownsRow B 31 1 vt' (jh + 1) (rowH H n jh ++ [.slice (some ⟨g, 0, none⟩) (n jh) (n jh + 1)])) (hg : w.grownBy w' vt.ownBlock) (hat : vt'.ownBlock = vt.ownBlock ∨ vt'.ownBlock = some w.heap.size) :
    St B w' a r v L va vt' G (upd H jh g) n P ja (jh + 1) := by
  refine ⟨S.pen.grown31 S.rh hg, own_frame S.ra fun k e => hg.block k (S.ra.lt k e).2 (fun e' => S.sep k e e'.symm), by rw [rowH_succ]; exact ho, fun k e e' => ?_, fun i hi => (S.ka i hi).grown31 S.rh hg, fun i hi => ?_⟩
  · rcases hat with h | h
    · exact S.sep k e (h ▸ e')
    · rw [e'] at h; cases h
      have := (S.ra.lt _ e).2
      omega
  · by_cases h : i = jh
    · subst h
      rw [upd_same]
      exact hK.grown31 S.rh hg
    · rw [upd_lt _ _ _ _ (by omega)]
      exact (S.kh i (by omega)).grown31 S.rh hg
theorem put_s (w0 : World) (a r : Nat) (v : Value) (L : List Bool) (va vt : Value) (G H n : Nat → Nat) (P : Nat → List Int) (j N k : Nat) (w : World) (hb : Below w0.heap.size w0 w) (S : St w0.heap.size w a r v L va vt G H n P j j) (hk : k ≤ 64) (hN : N < 2 ^ k) (hL : L.length + k < 1099511627776) (kk : Int) (hkk : kk = k) :
    Calls Try.prog 6 #[.pointer (some ⟨a, 0, none⟩), .int .u64 (N : Int), .int .i64 kk] w fun e w' => e = .returned (.int .i64 0) ∧ ∃ v', St w0.heap.size w' a r v' (L ++ bitsOf N k) va vt G H n P j j ∧ Below w0.heap.size w0 w' := by
  subst hkk
  exact (put_ok a r v L N k w S.pen.wr hk hN hL).mono fun _ _ ⟨he, v', hW, hp⟩ => ⟨he, v', S.put hb.size hp hW, hb.trans (hp.below hb.size S.pen.lo S.pen.own)⟩
theorem bytes_s (w0 : World) (a r : Nat) (v : Value) (L : List Bool) (w : World) (hb : Below w0.heap.size w0 w) (hP : Pen w0.heap.size w a r v L) (hL : L.length ≤ 8388608) (m : Nat) (hm : (pack L).length = m) :
    Calls Try.prog 10 #[.pointer (some ⟨a, 0, none⟩)] w fun e w' => ∃ g, e = .returned (.slice (some ⟨g, 0, none⟩) m m) ∧ Kin w' v g m (pack L) ∧ Below w.heap.size w w' ∧ Below w0.heap.size w0 w' := by
  subst hm
  exact (bytes a r v L w hP.wr (by omega)).mono fun _ _ h => ⟨_, h.1, ⟨⟨_, h.2.1⟩, h.2.1.elems (pack_bytes L) (by rw [pack_length]; omega), fun e => by have := hP.wr.row.own_lt e.symm; omega⟩, h.2.2, bstep hb h.2.2⟩
theorem twin_s (w0 : World) (g n cap : Nat) (l : List Int) (v : Value) (w : World) (hb : Below w0.heap.size w0 w) (hE : Elems w (some ⟨g, 0, none⟩) n l) (hv : ∀ k, v.ownBlock = some k → k < w.heap.size) :
    Calls Try.prog 11 #[.slice (some ⟨g, 0, none⟩) n cap] w fun e w' => ∃ h, e = .returned (.slice (some ⟨h, 0, none⟩) n (n + 1)) ∧ Kin w' v h n l ∧ Below w.heap.size w w' ∧ Below w0.heap.size w0 w' := by
  refine (w10 (some ⟨g, 0, none⟩) n cap l w hE).mono fun e w' h => ⟨w.heap.size, h.1, ⟨?_, ?_, fun e => by have := hv _ e.symm; omega⟩, h.2.2, bstep hb h.2.2⟩
  · rcases h.2.1.2 with ⟨h2, _⟩ | ⟨g', cap', cur, hv', _, hh, _⟩
    · cases h2
    · simp only [Value.slice.injEq, Option.some.injEq, Addr.mk.injEq, and_true, true_and] at hv'
      obtain ⟨rfl, rfl⟩ := hv'
      exact ⟨cur, hh⟩
  · have hl := hE.1
    exact ⟨hE.1, hE.2.1, hE.2.2.1, .inr ⟨_, 0, rfl, fun i hi => by rw [Nat.zero_add, own_cell h.2.1 i (by simp; omega), getD_append_left l 77 i (by omega)]⟩⟩
end Go.Proofs.Ytcaappheoekijab.Bits
