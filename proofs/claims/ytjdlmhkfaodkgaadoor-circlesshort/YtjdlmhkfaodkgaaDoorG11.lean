/-
  Rows of rows of numbers that are made side by side, and a row of names.
  Flows in a ring, and with one of them an instant ago.
  A ring with a short way through it.
  A byte that came in, as a number.
  A ring with a short way through it: the walk of the law.
-/
import Derived.Test.YtjdlmhkfaodkgaaDoorG10
import Derived.Test.YtjdlmhkfaodkgaaDoorG9
import Derived.Test.YtjdlmhkfaodkgaaDoorG1
namespace Go.Proofs.YtjdlmhkfaodkgaaDoor.Lex
open Go.ChangeShapes Go.WideShapes Go.ChangeAt Go.RowKit Go.Joins
/-- A row of numbers that stands as long as the blocks of numbers do. -/
def I3 (W : World) (u : Value) (l : List Nat) : Prop := ∀ V : World, (∀ (b : Nat) (c : Array Value) (f : Nat × Nat), W.heap[b]? = some (.cells c 3 f) → V.heap[b]? = W.heap[b]?) → IAt V u (l.map Int.ofNat)
theorem I3.at {W : World} {u : Value} {l : List Nat} (h : I3 W u l) : IAt W u (l.map Int.ofNat) := h W (fun _ _ _ _ => rfl)
theorem I3.keep {W W' : World} {u : Value} {l : List Nat} (h : I3 W u l) (hk : ∀ (b : Nat) (c : Array Value) (f : Nat × Nat), W.heap[b]? = some (.cells c 3 f) → W'.heap[b]? = W.heap[b]?) : I3 W' u l := fun V hV => h V (fun b c f hb => (hV b c f ((hk b c f hb).trans hb)).trans (hk b c f hb))
theorem I3.below {W W' : World} {u : Value} {l : List Nat} (h : I3 W u l) (hb : Below W.heap.size W W') : I3 W' u l := h.keep fun b _ _ e => hb.block b (Array.getElem?_eq_some_iff.1 e).1
theorem i3_nil (W : World) (a : Option Addr) (c : Nat) : I3 W (.slice a 0 c) [] := fun V _ => iat0 V a c
theorem i3_one (W : World) (z : Nat) : I3 (W.alloc (.cells #[.int .i64 (z : Int)] 3)) (.slice (some ⟨W.heap.size, 0, none⟩) 1 1) [z] := fun _ hV => iat1 ((hV _ _ _ (heap_alloc_new W _)).trans (heap_alloc_new W _))
theorem own_other {W W' : World} {lo t c n : Nat} {v : Value} {xs : List Value} {r : Option Nat} (h : W.ownsRow lo t c v n xs) (hg : W.grownBy W' r) (hr : ∀ g, v.ownBlock = some g → r ≠ some g) : W'.ownsRow lo t c v n xs := by
  obtain ⟨h1, h2 | ⟨g, cap, cur, e, hlo, hb, h3⟩⟩ := h
  · exact ⟨h1, .inl h2⟩
  · exact ⟨h1, .inr ⟨g, cap, cur, e, hlo, (hg.block g (Array.getElem?_eq_some_iff.1 hb).1 (fun e2 => hr g (by rw [e]; rfl) e2.symm)).trans hb, h3⟩⟩
theorem own_blk {W : World} {lo t c n : Nat} {v : Value} {xs : List Value} (h : W.ownsRow lo t c v n xs) : ∀ g, v.ownBlock = some g → lo ≤ g ∧ ∃ cs, W.heap[g]? = some (.cells cs t (0, 0)) := fun g hg => by
  obtain ⟨_, ⟨e, _⟩ | ⟨g', cap, cur, e, hlo, hb, _⟩⟩ := h
  · rw [e] at hg; cases hg
  · rw [e] at hg
    obtain rfl : g' = g := by simpa [Value.ownBlock] using hg
    exact ⟨hlo, cur, hb⟩
/-- A row of rows, with the values of its cells. -/
structure RV35 (lo : Nat) (v : Value) (L : List (List Nat)) (xs : List Value) (W : World) : Prop where
  own : W.ownsRow lo 35 1 v L.length xs
  each : ∀ i (h : i < L.length), ∃ u, xs[i]? = some u ∧ I3 W u L[i]
theorem RV35.blk {lo : Nat} {v : Value} {L : List (List Nat)} {xs : List Value} {W : World} (h : RV35 lo v L xs W) : ∀ g, v.ownBlock = some g → lo ≤ g ∧ ∃ cs, W.heap[g]? = some (.cells cs 35 (0, 0)) := own_blk h.own
theorem RV35.len {lo : Nat} {v : Value} {L : List (List Nat)} {xs : List Value} {W : World} (h : RV35 lo v L xs W) : xs.length = L.length := by rw [h.own.1, Nat.mul_one]
theorem RV35.app {lo : Nat} {v v' u : Value} {L : List (List Nat)} {q : List Nat} {xs : List Value} {W W' : World} (h : RV35 lo v L xs W) (hown : W'.ownsRow lo 35 1 v' (L.length + 1) (xs ++ [u])) (hg : W.grownBy W' v.ownBlock) (hu : I3 W u q) : RV35 lo v' (L ++ [q]) (xs ++ [u]) W' := by
  have hk : ∀ (b : Nat) (c : Array Value) (f : Nat × Nat), W.heap[b]? = some (.cells c 3 f) → W'.heap[b]? = W.heap[b]? := fun b c f hb => hg.block b (Array.getElem?_eq_some_iff.1 hb).1 (fun e => by
    obtain ⟨_, cs, h2⟩ := h.blk b e.symm
    rw [hb] at h2
    simp at h2)
  refine ⟨by rw [List.length_append]; exact hown, fun i hi => ?_⟩
  by_cases e : i < L.length
  · obtain ⟨u', h1, h2⟩ := h.each i e
    refine ⟨u', ?_, ?_⟩
    · rw [List.getElem?_append_left (by rw [h.len]; exact e)]; exact h1
    · rw [List.getElem_append_left e]; exact h2.keep hk
  · have hi' : i < L.length + 1 := by simpa using hi
    obtain rfl : i = L.length := by omega
    refine ⟨u, ?_, ?_⟩
    · rw [List.getElem?_append_right (by rw [h.len]; omega), h.len]; simp
    · rw [List.getElem_append_right (by omega)]
      simpa using hu.keep hk
def RR (lo : Nat) (v : Value) (L : List (List Nat)) (W : World) : Prop := ∃ xs, RV35 lo v L xs W
theorem RR.nil (lo : Nat) (W : World) : RR lo (.slice none 0 0) [] W := ⟨[], ⟨rfl, .inl ⟨rfl, rfl⟩⟩, fun i hi => by simp at hi⟩
theorem RR.keep {lo : Nat} {v : Value} {L : List (List Nat)} {W W' : World} (h : RR lo v L W) (hb : Below W.heap.size W W') : RR lo v L W' := by
  obtain ⟨xs, h⟩ := h
  exact ⟨xs, own_carry9 h.own (fun b _ hl => hb.block b hl), fun i hi => by obtain ⟨u, h1, h2⟩ := h.each i hi; exact ⟨u, h1, h2.below hb⟩⟩
theorem RR.lt {lo : Nat} {v : Value} {L : List (List Nat)} {W : World} (h : RR lo v L W) : ∀ g, v.ownBlock = some g → g < W.heap.size := fun g hg => by
  obtain ⟨xs, h⟩ := h
  obtain ⟨_, cs, hb⟩ := h.blk g hg
  exact (Array.getElem?_eq_some_iff.1 hb).1
theorem RR.other {lo : Nat} {v : Value} {L : List (List Nat)} {W W' : World} {r : Option Nat} (h : RR lo v L W) (hg : W.grownBy W' r) (hr : ∀ g, v.ownBlock = some g → r ≠ some g) (h3 : ∀ g, r = some g → ∃ cs, W.heap[g]? = some (.cells cs 35 (0, 0))) : RR lo v L W' := by
  obtain ⟨xs, h⟩ := h
  exact ⟨xs, own_other h.own hg hr, fun i hi => by
    obtain ⟨u, h1, h2⟩ := h.each i hi
    exact ⟨u, h1, h2.keep fun b c f hb => hg.block b (Array.getElem?_eq_some_iff.1 hb).1 (fun e => by
      obtain ⟨cs, h4⟩ := h3 b e.symm
      rw [hb] at h4
      simp at h4)⟩⟩
theorem RR.other9 {lo : Nat} {v : Value} {L : List (List Nat)} {W W' : World} {r : Option Nat} (h : RR lo v L W) (hg : W.grownBy W' r) (h3 : ∀ g, r = some g → ∃ cs, W.heap[g]? = some (.cells cs 9 (0, 0))) : RR lo v L W' := by
  obtain ⟨xs, h⟩ := h
  exact ⟨xs, own_other h.own hg (fun g e e2 => by
    obtain ⟨_, c1, h1⟩ := h.blk g e
    obtain ⟨c2, h2⟩ := h3 g e2
    rw [h1] at h2
    simp at h2), fun i hi => by
    obtain ⟨u, h1, h2⟩ := h.each i hi
    exact ⟨u, h1, h2.keep fun b c f hb => hg.block b (Array.getElem?_eq_some_iff.1 hb).1 (fun e => by
      obtain ⟨cs, h4⟩ := h3 b e.symm
      rw [hb] at h4
      simp at h4)⟩⟩
theorem RR.lat {lo : Nat} {v : Value} {L : List (List Nat)} {W : World} (h : RR lo v L W) : LAt W v L := by
  obtain ⟨xs, h⟩ := h
  have hown := h.own
  rcases hown.2 with ⟨e, e0⟩ | ⟨g, cap, cur, e, _⟩
  · exact ⟨none, 0, by rw [e, e0], .inl e0⟩
  · subst e
    refine ⟨_, cap, rfl, .inr ⟨g, 0, rfl, fun i hi => ?_⟩⟩
    obtain ⟨u, h1, h2⟩ := h.each i hi
    refine ⟨u, ?_, h2.at⟩
    rw [Nat.zero_add, hown.cellAt i (by omega)]
    exact h1
theorem I3.grown {W W' : World} {u : Value} {l : List Nat} {r : Option Nat} {t : Nat} (h : I3 W u l) (hg : W.grownBy W' r) (hr : ∀ g, r = some g → ∃ cs, W.heap[g]? = some (.cells cs t (0, 0))) (ht : t ≠ 3) : I3 W' u l := h.keep fun b c f hb => hg.block b (Array.getElem?_eq_some_iff.1 hb).1 (fun e => by
  obtain ⟨cs, h4⟩ := hr b e.symm
  rw [hb] at h4
  simp at h4
  exact ht h4.2.1.symm)
def Ap (u v : Value) : Prop := ∀ g, u.ownBlock = some g → v.ownBlock = some g → False
/-- Three rows of rows, and a row of names. -/
structure RI (w : World) (a b c : List (List Nat)) (l : List ByteArray) (va vb vc vl : Value) (W : World) : Prop where
  ra : RR w.heap.size va a W
  rb : RR w.heap.size vb b W
  rc : RR w.heap.size vc c W
  rl : W.ownsRow w.heap.size 9 1 vl l.length (l.map Value.string)
  ab : Ap va vb
  ac : Ap va vc
  bc : Ap vb vc
  below : Below w.heap.size w W
theorem RI.start (w : World) : RI w [] [] [] [] (.slice none 0 0) (.slice none 0 0) (.slice none 0 0) (.slice none 0 0) w := ⟨.nil _ _, .nil _ _, .nil _ _, ⟨rfl, .inl ⟨rfl, rfl⟩⟩, (fun g e => by cases e), (fun g e => by cases e), (fun g e => by cases e), Below.refl _ _⟩
theorem RI.keep {w W W' : World} {a b c : List (List Nat)} {l : List ByteArray} {va vb vc vl : Value} (h : RI w a b c l va vb vc vl W) (hb : Below W.heap.size W W') : RI w a b c l va vb vc vl W' := ⟨h.ra.keep hb, h.rb.keep hb, h.rc.keep hb, own_carry9 h.rl (fun b _ hl => hb.block b hl), h.ab, h.ac, h.bc, bstep h.below hb⟩
theorem RI.appL {w W W' : World} {a b c : List (List Nat)} {l : List ByteArray} {va vb vc vl v' : Value} {s : ByteArray} (h : RI w a b c l va vb vc vl W) (hown : W'.ownsRow w.heap.size 9 1 v' (l.length + 1) (l.map Value.string ++ [.string s])) (hg : W.grownBy W' vl.ownBlock) : RI w a b c (l ++ [s]) va vb vc v' W' where
  ra := h.ra.other9 hg (fun g e => (own_blk h.rl g e).2)
  rb := h.rb.other9 hg (fun g e => (own_blk h.rl g e).2)
  rc := h.rc.other9 hg (fun g e => (own_blk h.rl g e).2)
  rl := by rw [List.length_append, List.map_append]; exact hown
  ab := h.ab
  ac := h.ac
  bc := h.bc
  below := h.below.grown hg h.below.size (fun g e => (own_blk h.rl g e).1)
theorem RI.appA {w W W' : World} {a : List (List Nat)} {va : Value} {b : List (List Nat)} {vb : Value} {c : List (List Nat)} {vc : Value} {l : List ByteArray} {vl v' u : Value} {q : List Nat} {xs : List Value} (h : RI w a b c l va vb vc vl W) (hxs : RV35 w.heap.size va a xs W) (hown : W'.ownsRow w.heap.size 35 1 v' (a.length + 1) (xs ++ [u])) (hg : W.grownBy W' va.ownBlock) (hloc : v'.ownBlock = va.ownBlock ∨ v'.ownBlock = some W.heap.size) (hu : I3 W u q) : RI w (a ++ [q]) b c l v' vb vc vl W' where
  ra := ⟨_, hxs.app hown hg hu⟩
  rb := h.rb.other hg (fun g e e2 => h.ab g e2 e) (fun g e => (hxs.blk g e).2)
  rc := h.rc.other hg (fun g e e2 => h.ac g e2 e) (fun g e => (hxs.blk g e).2)
  rl := own_other h.rl hg (fun g e e2 => by
    obtain ⟨_, _, hb⟩ := own_blk h.rl g e
    obtain ⟨_, hb2⟩ := (hxs.blk g e2).2
    rw [hb] at hb2
    simp at hb2)
  ab := fun g e e2 => by
    rcases hloc with hl | hl
    · exact h.ab g (hl ▸ e) e2
    · rw [hl] at e
      have := h.rb.lt g e2
      injection e with e
      omega
  ac := fun g e e2 => by
    rcases hloc with hl | hl
    · exact h.ac g (hl ▸ e) e2
    · rw [hl] at e
      have := h.rc.lt g e2
      injection e with e
      omega
  bc := h.bc
  below := h.below.grown hg h.below.size (fun g e => (hxs.blk g e).1)
theorem RI.appB {w W W' : World} {a : List (List Nat)} {va : Value} {b : List (List Nat)} {vb : Value} {c : List (List Nat)} {vc : Value} {l : List ByteArray} {vl v' u : Value} {q : List Nat} {xs : List Value} (h : RI w a b c l va vb vc vl W) (hxs : RV35 w.heap.size vb b xs W) (hown : W'.ownsRow w.heap.size 35 1 v' (b.length + 1) (xs ++ [u])) (hg : W.grownBy W' vb.ownBlock) (hloc : v'.ownBlock = vb.ownBlock ∨ v'.ownBlock = some W.heap.size) (hu : I3 W u q) : RI w a (b ++ [q]) c l va v' vc vl W' where
  ra := h.ra.other hg (fun g e e2 => h.ab g e e2) (fun g e => (hxs.blk g e).2)
  rb := ⟨_, hxs.app hown hg hu⟩
  rc := h.rc.other hg (fun g e e2 => h.bc g e2 e) (fun g e => (hxs.blk g e).2)
  rl := own_other h.rl hg (fun g e e2 => by
    obtain ⟨_, _, hb⟩ := own_blk h.rl g e
    obtain ⟨_, hb2⟩ := (hxs.blk g e2).2
    rw [hb] at hb2
    simp at hb2)
  ab := fun g e e2 => by
    rcases hloc with hl | hl
    · exact h.ab g e (hl ▸ e2)
    · rw [hl] at e2
      have := h.ra.lt g e
      injection e2 with e2
      omega
  ac := h.ac
  bc := fun g e e2 => by
    rcases hloc with hl | hl
    · exact h.bc g (hl ▸ e) e2
    · rw [hl] at e
      have := h.rc.lt g e2
      injection e with e
      omega
  below := h.below.grown hg h.below.size (fun g e => (hxs.blk g e).1)
theorem RI.appC {w W W' : World} {a : List (List Nat)} {va : Value} {b : List (List Nat)} {vb : Value} {c : List (List Nat)} {vc : Value} {l : List ByteArray} {vl v' u : Value} {q : List Nat} {xs : List Value} (h : RI w a b c l va vb vc vl W) (hxs : RV35 w.heap.size vc c xs W) (hown : W'.ownsRow w.heap.size 35 1 v' (c.length + 1) (xs ++ [u])) (hg : W.grownBy W' vc.ownBlock) (hloc : v'.ownBlock = vc.ownBlock ∨ v'.ownBlock = some W.heap.size) (hu : I3 W u q) : RI w a b (c ++ [q]) l va vb v' vl W' where
  ra := h.ra.other hg (fun g e e2 => h.ac g e e2) (fun g e => (hxs.blk g e).2)
  rb := h.rb.other hg (fun g e e2 => h.bc g e e2) (fun g e => (hxs.blk g e).2)
  rc := ⟨_, hxs.app hown hg hu⟩
  rl := own_other h.rl hg (fun g e e2 => by
    obtain ⟨_, _, hb⟩ := own_blk h.rl g e
    obtain ⟨_, hb2⟩ := (hxs.blk g e2).2
    rw [hb] at hb2
    simp at hb2)
  ab := h.ab
  ac := fun g e e2 => by
    rcases hloc with hl | hl
    · exact h.ac g e (hl ▸ e2)
    · rw [hl] at e2
      have := h.ra.lt g e
      injection e2 with e2
      omega
  bc := fun g e e2 => by
    rcases hloc with hl | hl
    · exact h.bc g e (hl ▸ e2)
    · rw [hl] at e2
      have := h.rb.lt g e
      injection e2 with e2
      omega
  below := h.below.grown hg h.below.size (fun g e => (hxs.blk g e).1)
theorem inf35 : (Tryd.prog.info? 35).map (fun i => (i.zero, i.size, i.bytes)) = some (some (.slice none 0 0), 1, 24) := by kernel_rfl
theorem RI.shapes {w W : World} {a b c : List (List Nat)} {l : List ByteArray} {va vb vc vl : Value} (h : RI w a b c l va vb vc vl W) : TxAt W vl l := by
  have hown := h.rl
  rcases hown.2 with ⟨e, e0⟩ | ⟨g, cap, cur, e, _⟩
  · exact ⟨none, 0, by rw [e, e0], .inl e0⟩
  · subst e
    refine ⟨_, cap, rfl, .inr ⟨g, 0, rfl, fun i hi => ?_⟩⟩
    rw [Nat.zero_add, hown.cellAt i (by omega)]
    simp [hi]
end Go.Proofs.YtjdlmhkfaodkgaaDoor.Lex
namespace Go.Proofs.YtjdlmhkfaodkgaaDoor.Lex
/-- The first ones of a ring; with one of them cut. -/
def rN (k j : Nat) : List (List Nat) := (List.range j).map fun i => [(i + 1) % k]
def rC (k c j : Nat) : List (List Nat) := (List.range j).map fun i => if i = c then [] else [(i + 1) % k]
def rA (k c j : Nat) : List (List Nat) := (List.range j).map fun i => if i = c then [(i + 1) % k] else []
def wL (j : Nat) : List ByteArray := (List.range j).map wordB
theorem rN_succ (k j : Nat) : rN k (j + 1) = rN k j ++ [[(j + 1) % k]] := by unfold rN; rw [List.range_succ, List.map_append]; rfl
theorem rC_same (k j : Nat) : rC k j (j + 1) = rC k j j ++ [[]] := by unfold rC; rw [List.range_succ, List.map_append]; simp
theorem rC_succ {k c j : Nat} (h : ¬ j = c) : rC k c (j + 1) = rC k c j ++ [[(j + 1) % k]] := by unfold rC; rw [List.range_succ, List.map_append]; simp [h]
theorem rA_same (k j : Nat) : rA k j (j + 1) = rA k j j ++ [[(j + 1) % k]] := by unfold rA; rw [List.range_succ, List.map_append]; simp
theorem rA_succ {k c j : Nat} (h : ¬ j = c) : rA k c (j + 1) = rA k c j ++ [[]] := by unfold rA; rw [List.range_succ, List.map_append]; simp [h]
theorem wL_succ (j : Nat) : wL (j + 1) = wL j ++ [wordB j] := by unfold wL; rw [List.range_succ, List.map_append]; rfl
theorem map_getD (f : Nat → List Nat) (k i : Nat) (h : i < k) : ((List.range k).map f).getD i [] = f i := by simp [h]
theorem ok_ring {k : Nat} (h : k ≤ 60) : OfOk (rN k k) [] := by
  refine ⟨by simp [rN]; omega, fun l hl => ?_, fun l hl => by cases hl⟩
  obtain ⟨i, hi, rfl⟩ := List.mem_map.1 hl
  have := List.mem_range.1 hi
  refine ⟨by simp, fun z hz => ?_⟩
  obtain rfl : z = (i + 1) % k := by simpa using hz
  simp only [rN, List.length_map, List.length_range]
  exact Nat.mod_lt _ (by omega)
theorem fc_ring {k : Nat} (h0 : 0 < k) (h : k ≤ 60) : findC (ofP (rN k k) []) = wL k := by
  refine (ok_ring h).find_is (L := List.range k) (home := 0) (by simp [h0]) List.nodup_range (fun z hz => by simpa [rN] using hz) (fun i hi y hy => ?_) (fun i hi => ?_) (fun i hi e => ?_) (fun j hj => by omega)
  · have hi' : i + 1 < k := by simpa using hi
    rw [List.getElem_range] at hy ⊢
    rw [rN, map_getD _ _ _ (by omega)] at hy
    have hy : y = (i + 1) % k := by simpa using hy
    rw [hy, Nat.mod_eq_of_lt hi']
  · have hi' : i + 1 < k := by simpa using hi
    rw [List.getElem_range, List.getElem_range, rN, map_getD _ _ _ (by omega), Nat.mod_eq_of_lt hi']
    simp
  · have e' : i + 1 = k := by simpa using e
    rw [List.getElem_range, rN, map_getD _ _ _ (by omega), e', Nat.mod_self]
    simp
theorem ok_cut {k c : Nat} (h : k ≤ 60) : OfOk (rC k c k) (rA k c k) := by
  have key : ∀ i, i < k → (i + 1) % k < k := fun i hi => Nat.mod_lt _ (by omega)
  refine ⟨by simp [rC]; omega, fun l hl => ?_, fun l hl => ?_⟩
  · obtain ⟨i, hi, rfl⟩ := List.mem_map.1 hl
    have hi := List.mem_range.1 hi
    have := key i hi
    split
    · simp
    · refine ⟨by simp, fun z hz => ?_⟩
      obtain rfl : z = (i + 1) % k := by simpa using hz
      simpa [rC] using this
  · obtain ⟨i, hi, rfl⟩ := List.mem_map.1 hl
    have hi := List.mem_range.1 hi
    have := key i hi
    split
    · refine ⟨by simp, fun z hz => ?_⟩
      obtain rfl : z = (i + 1) % k := by simpa using hz
      simpa [rC] using this
    · simp
theorem fc_cut {k c : Nat} (h : k ≤ 60) (hc : c < k) : findC (ofP (rC k c k) (rA k c k)) = [] := by
  refine (ok_cut h).find_no (fun i => if i ≤ c then c - i else c + k - i) (fun i hi y hy => ?_)
  have hi : i < k := by simpa [rC] using hi
  rw [rC, map_getD _ _ _ hi] at hy
  by_cases e : i = c
  · simp [e] at hy
  · simp only [e, if_false] at hy
    have hy : y = (i + 1) % k := by simpa using hy
    by_cases e2 : i + 1 = k
    · rw [e2, Nat.mod_self] at hy
      subst hy
      split <;> split <;> omega
    · rw [Nat.mod_eq_of_lt (by omega)] at hy
      subst hy
      split <;> split <;> omega
theorem ck_ring {k : Nat} (h0 : 0 < k) (h : k ≤ 60) : ckC (ofP (rN k k) []) = 8 := by
  rw [(ok_ring h).ck, fc_ring h0 h, if_neg (by simp [wL]; omega)]
theorem ck_cut {k c : Nat} (h : k ≤ 60) (hc : c < k) : ckC (ofP (rC k c k) (rA k c k)) = 0 := by
  rw [(ok_cut h).ck, fc_cut h hc]
  rfl
end Go.Proofs.YtjdlmhkfaodkgaaDoor.Lex
namespace Go.Proofs.YtjdlmhkfaodkgaaDoor.Lex
def sR (k c i : Nat) : List Nat := if i = c then [1 + (i + 1) % k, 1] else [1 + (i + 1) % k]
def sL (k c j : Nat) : List (List Nat) := [] :: (List.range j).map (sR k c)
def sN (k c : Nat) : List (List Nat) := [1] :: (List.range k).map (sR k c)
def wS (c j : Nat) : List ByteArray := (List.range (min j (c + 1))).map fun i => wordB (1 + i)
theorem sL_succ (k c j : Nat) : sL k c (j + 1) = sL k c j ++ [sR k c j] := by unfold sL; rw [List.range_succ, List.map_append]; rfl
theorem wS_succ {c j : Nat} (h : j ≤ c) : wS c (j + 1) = wS c j ++ [wordB (1 + j)] := by
  unfold wS
  rw [show min (j + 1) (c + 1) = j + 1 by omega, show min j (c + 1) = j by omega, List.range_succ, List.map_append]
  rfl
theorem wS_same {c j : Nat} (h : ¬ j ≤ c) : wS c (j + 1) = wS c j := by
  unfold wS
  rw [show min (j + 1) (c + 1) = c + 1 by omega, show min j (c + 1) = c + 1 by omega]
theorem sN_get {k c i : Nat} (h : i < k) : (sN k c).getD (i + 1) [] = sR k c i := by
  show ((List.range k).map (sR k c)).getD i [] = _
  exact map_getD _ _ _ h
theorem sN_len (k c : Nat) : (sN k c).length = k + 1 := by simp [sN]
theorem ok_sho {k c : Nat} (h : k ≤ 52) (hk : 0 < k) : OfOk (sN k c) [] := by
  refine ⟨by rw [sN_len]; omega, fun l hl => ?_, fun l hl => by cases hl⟩
  rw [sN_len]
  rcases List.mem_cons.1 hl with rfl | hl
  · exact ⟨by simp, fun z hz => by obtain rfl : z = 1 := by simpa using hz
                                   omega⟩
  · obtain ⟨i, hi, rfl⟩ := List.mem_map.1 hl
    have hm := Nat.mod_lt (i + 1) hk
    unfold sR
    split
    · refine ⟨by simp, fun z hz => ?_⟩
      rcases (by simpa using hz : z = 1 + (i + 1) % k ∨ z = 1) with rfl | rfl <;> omega
    · refine ⟨by simp, fun z hz => ?_⟩
      obtain rfl : z = 1 + (i + 1) % k := by simpa using hz
      omega
theorem fc_sho {k c : Nat} (h : k ≤ 52) (hk : 3 ≤ k) (hc : c < k - 1) : findC (ofP (sN k c) []) = wS c k := by
  have e : wS c k = ((List.range (c + 1)).map fun i => 1 + i).map wordB := by
    unfold wS
    rw [show min k (c + 1) = c + 1 by omega, List.map_map]
    rfl
  rw [e]
  have hlen : ((List.range (c + 1)).map fun i => 1 + i).length = c + 1 := by simp
  refine (ok_sho h (by omega)).find_is (L := (List.range (c + 1)).map fun i => 1 + i) (home := 1) (by simp) ?_ (fun z hz => ?_) (fun i hi y hy => ?_) (fun i hi => ?_) (fun i hi e => ?_) (fun j hj => ?_)
  · rw [List.nodup_iff_pairwise_ne, List.pairwise_map]
    exact (List.nodup_iff_pairwise_ne.1 List.nodup_range).imp fun hne e => hne (by omega)
  · obtain ⟨i, hi, rfl⟩ := List.mem_map.1 hz
    have := List.mem_range.1 hi
    rw [sN_len]
    omega
  · rw [hlen] at hi
    simp only [List.getElem_map, List.getElem_range] at hy ⊢
    rw [Nat.add_comm 1 i, sN_get (by omega), sR, if_neg (by omega), Nat.mod_eq_of_lt (by omega)] at hy
    simpa using hy
  · rw [hlen] at hi
    simp only [List.getElem_map, List.getElem_range]
    rw [Nat.add_comm 1 i, sN_get (by omega), sR, if_neg (by omega), Nat.mod_eq_of_lt (by omega)]
    simp
  · rw [hlen] at e
    simp only [List.getElem_map, List.getElem_range]
    rw [Nat.add_comm 1 i, sN_get (by omega), sR, if_pos (by omega)]
    simp
  · obtain rfl : j = 0 := by omega
    refine lead_lone (rowsP_lt _) (fun i hi => ?_) (by rw [ofP_len, sN_len]; omega)
    obtain ⟨h1, h2⟩ := ((ok_sho h (by omega)).rows i 0).1 hi
    rw [sN_len] at h1
    cases i with
    | zero => simp [sN] at h2
    | succ i =>
      rw [sN_get (by omega), sR] at h2
      split at h2 <;> simp at h2 <;> omega
end Go.Proofs.YtjdlmhkfaodkgaaDoor.Lex
namespace Go.Proofs.YtjdlmhkfaodkgaaDoor.Lex
theorem nat_c {n : Int} (h : (Lit.int .u8 n).wf = true) : ∃ k : Nat, k < 256 ∧ n = (k : Int) := by
  simp [Lit.wf, IntKind.min, IntKind.max, IntKind.signed, IntKind.bits] at h
  exact ⟨n.toNat, by omega, by omega⟩
end Go.Proofs.YtjdlmhkfaodkgaaDoor.Lex
namespace Go.Proofs.YtjdlmhkfaodkgaaDoor.Lex
open Go.ChangeShapes Go.WideShapes Go.ChangeAt Go.RowKit Go.Joins
theorem i3_own {W : World} {lo : Nat} {v : Value} {z : Nat} (h : W.ownsRow lo 3 1 v 2 [.int .i64 (z : Int), .int .i64 1]) : I3 W v [z, 1] := by
  obtain ⟨_, ⟨e, e0⟩ | ⟨g, cap, cur, rfl, hlo, hb, hc, hm, hsz, ht⟩⟩ := h
  · omega
  · intro V hV
    have hb' := (hV g _ _ hb).trans hb
    have hV2 : V.ownsRow lo 3 1 (.slice (some ⟨g, 0, none⟩) 2 cap) 2 [.int .i64 (z : Int), .int .i64 1] := ⟨rfl, .inr ⟨g, cap, cur, rfl, hlo, hb', hc, hm, hsz, ht⟩⟩
    refine ⟨_, cap, rfl, .inr ⟨g, 0, rfl, fun i hi => ?_⟩⟩
    have hi : i < 2 := hi
    rw [Nat.zero_add, hV2.cellAt i (by omega)]
    rcases (by omega : i = 0 ∨ i = 1) with rfl | rfl <;> rfl
/-- The first cell of a row that is not empty. -/
def Fst (W : World) (g : Nat) : Prop := ∃ cs : Array Value, W.heap[g]? = some (.cells cs 35 (0, 0)) ∧ 0 < cs.size
theorem first_cell {W : World} {g : Nat} (h : Fst W g) : (∃ u, W.cell? ⟨g, 0, none⟩ = some u) ∧ W.frozen? ⟨g, 0, none⟩ = false := by
  obtain ⟨cs, hb, hs⟩ := h
  refine ⟨⟨cs[0], ?_⟩, by simp [World.frozen?, hb]⟩
  rw [cell_of_row _ _ _ _ 35 (0, 0) hb]
  simp [hs]
theorem RV35.first {lo : Nat} {v : Value} {q : List Nat} {L : List (List Nat)} {xs : List Value} {W : World} (h : RV35 lo v (q :: L) xs W) : ∃ g cap, v = .slice (some ⟨g, 0, none⟩) (q :: L).length cap ∧ lo ≤ g ∧ Fst W g ∧ ∀ W', Below W.heap.size W W' → Fst W' g := by
  obtain ⟨_, ⟨e, e0⟩ | ⟨g, cap, cur, rfl, hlo, hb, hc, hm, hsz, ht⟩⟩ := h.own
  · simp at e0
  · have hs : 0 < cur.size := by rw [hsz]; simp at hc; omega
    exact ⟨g, cap, rfl, hlo, ⟨cur, hb, hs⟩, fun W' hW => ⟨cur, keep_row hb hW, hs⟩⟩
theorem RV35.set0 {lo g cap : Nat} {q q' : List Nat} {L : List (List Nat)} {xs : List Value} {u : Value} {W : World} (h : RV35 lo (.slice (some ⟨g, 0, none⟩) (q :: L).length cap) (q :: L) xs W) (hu : I3 W u q') : RV35 lo (.slice (some ⟨g, 0, none⟩) (q :: L).length cap) (q' :: L) (u :: xs.tail) (W.setCell ⟨g, 0, none⟩ u) := by
  have hk : ∀ (b : Nat) (c : Array Value) (f : Nat × Nat), W.heap[b]? = some (.cells c 3 f) → (W.setCell ⟨g, 0, none⟩ u).heap[b]? = W.heap[b]? := fun b c f hb => Below.heap_setCell _ _ _ _ (fun e => by
    obtain ⟨_, cs, h2⟩ := h.blk g rfl
    have e : b = g := e
    rw [e, h2] at hb
    simp at hb)
  have hlen := h.len
  obtain ⟨h1, ⟨e, e0⟩ | ⟨g', cap', cur, e, hlo, hb, hc, hm, hsz, ht⟩⟩ := id h.own
  · simp at e0
  · injection e with e1 _ e3
    injection e1 with e1
    injection e1 with e1 _ _
    subst e1 e3
    have hs : 0 < cur.size := by rw [hsz]; simp at hc; omega
    refine ⟨⟨by simp at hlen ⊢; omega, .inr ⟨g, cap, cur.setIfInBounds 0 u, by simp, hlo, set_same hb 0 u, by simpa using hc, hm, by simpa using hsz, ?_⟩⟩, fun i hi => ?_⟩
    · rw [Array.toList_setIfInBounds]
      have ht' : cur.toList.take (L.length + 1) = xs := by simpa using ht
      show (cur.toList.set 0 u).take ((L.length + 1) * 1) = _
      rw [Nat.mul_one, ← ht']
      cases hcl : cur.toList with
      | nil => have : cur.size = 0 := by rw [← Array.length_toList, hcl]; rfl
               omega
      | cons a l => simp
    · cases i with
      | zero => exact ⟨u, rfl, hu.keep hk⟩
      | succ i =>
        have hi' : i + 1 < (q :: L).length := by simpa using hi
        obtain ⟨u', h2, h3⟩ := h.each (i + 1) hi'
        refine ⟨u', ?_, h3.keep hk⟩
        cases xs with
        | nil => simp at h2
        | cons x xs => simpa using h2
theorem RI.set0 {w W : World} {g cap : Nat} {q q' : List Nat} {a A : List (List Nat)} {l : List ByteArray} {vl u : Value} (h : RI w A [] [] l (.slice (some ⟨g, 0, none⟩) A.length cap) (.slice none 0 0) (.slice none 0 0) vl W) (hu : I3 W u q') (hA : A = q :: a) : RI w (q' :: a) [] [] l (.slice (some ⟨g, 0, none⟩) A.length cap) (.slice none 0 0) (.slice none 0 0) vl (W.setCell ⟨g, 0, none⟩ u) := by
  subst hA
  obtain ⟨xs, hx⟩ := h.ra
  refine ⟨⟨_, hx.set0 hu⟩, .nil _ _, .nil _ _, ?_, h.ab, h.ac, h.bc, h.below.setCell (hx.blk g rfl).1 _⟩
  have hrl := h.rl
  obtain ⟨_, cs, hb35⟩ := hx.blk g rfl
  obtain ⟨r1, r2 | ⟨g', cap', cur, e, hlo, hb, r3⟩⟩ := hrl
  · exact ⟨r1, .inl r2⟩
  · refine ⟨r1, .inr ⟨g', cap', cur, e, hlo, ?_, r3⟩⟩
    rw [Below.heap_setCell _ _ _ _ (fun e2 => by
      have e2 : g' = g := e2
      rw [e2, hb35] at hb
      simp at hb)]
    exact hb
theorem RI.first (w : World) : RI w [[]] [] [] [] (.slice (some ⟨w.heap.size + 1, 0, none⟩) 1 1) (.slice none 0 0) (.slice none 0 0) (.slice none 0 0) ((w.alloc (.cells #[] 3)).alloc (.cells #[.slice (some ⟨w.heap.size, 0, none⟩) 0 0] 35)) :=
  ⟨⟨[.slice (some ⟨w.heap.size, 0, none⟩) 0 0], ⟨rfl, .inr ⟨w.heap.size + 1, 1, #[.slice (some ⟨w.heap.size, 0, none⟩) 0 0], rfl, by omega, push_new _ _ _ (by simp), Nat.le_refl _, by unfold maxLen; omega, rfl, rfl⟩⟩, fun i hi => by
    have hi : i < 1 := hi
    obtain rfl : i = 0 := by omega
    exact ⟨_, rfl, i3_nil _ _ _⟩⟩, .nil _ _, .nil _ _, ⟨rfl, .inl ⟨rfl, rfl⟩⟩, (fun g _ e => by cases e), (fun g _ e => by cases e), (fun g e => by cases e), bstep ((Below.refl _ _).alloc (Nat.le_refl _) _) ((Below.refl _ _).alloc (Nat.le_refl _) _)⟩
set_option maxRecDepth 100000 in
set_option maxHeartbeats 4000000 in
theorem walk6 (n c0 : Nat) (w : World) (hn : n < 256) (hc0 : c0 < 256) (hR : TabR w) (hJ : TabJ w) : Calls Tryd.prog 6 #[.int .u8 (n : Int), .int .u8 (c0 : Int)] w fun e w' => e = .returned (.bool true) ∧ Below w.heap.size w w' := by
  have HT := hid (And.intro hR hJ)
  clear hR hJ
  obtain ⟨m, hm⟩ : ∃ m, n % 50 = m := ⟨_, rfl⟩
  have hm60 : m < 50 := by omega
  have hmod : (n : Int) % 50 = (m : Int) := by omega
  have hmod' : Int.tmod (n : Int) 50 = (m : Int) := by rw [← hmod]; exact Int.tmod_eq_emod_of_nonneg (by omega)
  have hwu : IntKind.u8.wrap (m : Int) = (m : Int) := by rw [show IntKind.u8.wrap (m : Int) = (m : Int) % 256 from rfl]; omega
  have hwi : IntKind.i64.wrap (m : Int) = (m : Int) := by rw [IntKind.wrap_i64]; omega
  obtain ⟨k, hkm⟩ : ∃ k, k = m + 3 := ⟨_, rfl⟩
  have hwk : IntKind.i64.wrap ((m : Int) + 3) = (k : Int) := by rw [IntKind.wrap_i64]; omega
  have hk3 : 3 ≤ k := by omega
  have hk52 : k ≤ 52 := by omega
  obtain ⟨k1, hk1⟩ : ∃ k1, k1 = k - 1 := ⟨_, rfl⟩
  have hwk1 : IntKind.i64.wrap ((k : Int) - 1) = (k1 : Int) := by rw [IntKind.wrap_i64]; omega
  obtain ⟨c, hcc⟩ : ∃ c, c0 % k1 = c := ⟨_, rfl⟩
  have hck : c < k - 1 := by rw [← hcc, ← hk1]; exact Nat.mod_lt _ (by omega)
  have hcm : Int.tmod (c0 : Int) (k1 : Int) = (c : Int) := by rw [Int.tmod_eq_emod_of_nonneg (by omega), ← hcc]; rfl
  have hcm' : (c0 : Int) % (k1 : Int) = (c : Int) := by rw [← hcc]; rfl
  have hwc : IntKind.i64.wrap (c0 : Int) = (c0 : Int) := by rw [IntKind.wrap_i64]; omega
  have hk1n : ¬ (k1 : Int) = 0 := by omega
  have HM := hid (And.intro hm (And.intro hkm (And.intro hk1 hcc)))
  obtain ⟨i35, hi, hz0, hz1, hz2⟩ := info_parts inf35
  obtain ⟨i9, hi9, hz90, hz91, hz92⟩ := info_parts inf9N
  obtain ⟨i3, hi3, hz30, hz31, hz32⟩ := info_parts infS3
  clear hm hkm hcc hmod hk1
  go_enter Tryd.func6, Tryd.ntmps6
  go_wp2_with (fail)
  have X0 := hid (RI.first w)
  generalize ((w.alloc (.cells #[] 3)).alloc (.cells #[.slice (some ⟨w.heap.size, 0, none⟩) 0 0] 35)) = W0 at *
  go_loopw [7, 8, 9] (fun va vl i wr => ∃ j : Nat, j ≤ k ∧ i = .int .i64 (j : Int) ∧ Hid (RI w (sL k c j) [] [] (wS c j) va (.slice none 0 0) (.slice none 0 0) vl wr)) (fun _ _ i _ => k - (intOf i).toNat)
  case atStart => exact ⟨0, Nat.zero_le _, rfl, X0⟩
  case round =>
    obtain ⟨j, hj, rfl, XK⟩ := hrel
    clear X0
    by_cases hjk : j < k
    · skip
      have hjk' : (j : Int) < (k : Int) := by omega
      have hmod := Nat.mod_lt (j + 1) (show 0 < k by omega)
      have hw1 : IntKind.i64.wrap ((j : Int) + 1) = (j : Int) + 1 := by rw [IntKind.wrap_i64]; omega
      have hw1' : IntKind.i64.wrap (1 + (j : Int)) = 1 + (j : Int) := by rw [IntKind.wrap_i64]; omega
      have hrem : Int.tmod ((j : Int) + 1) (k : Int) = (((j + 1) % k : Nat) : Int) := by
        rw [Int.tmod_eq_emod_of_nonneg (by omega)]
        rfl
      have hrem' : ((j : Int) + 1) % (k : Int) = (((j + 1) % k : Nat) : Int) := rfl
      have hne : ¬ (k : Int) = 0 := by omega
      have hz1' : IntKind.i64.wrap (1 + (((j + 1) % k : Nat) : Int)) = ((1 + (j + 1) % k : Nat) : Int) := by rw [IntKind.wrap_i64]; omega
      have HNS : Hid (sL k c (j + 1) = sL k c j ++ [if j = c then [1 + (j + 1) % k, 1] else [1 + (j + 1) % k]]) := hid (sL_succ k c j)
      have HWS : Hid ((j ≤ c → wS c (j + 1) = wS c j ++ [wordB (1 + j)]) ∧ (¬ j ≤ c → wS c (j + 1) = wS c j)) := hid ⟨wS_succ, wS_same⟩
      have HLa : Hid ((sL k c j).length ≤ 60) := hid (by simp [sL]; omega)
      have HLl : Hid ((wS c j).length ≤ 60) := hid (by simp [wS]; omega)
      generalize hz9 : 1 + (j + 1) % k = z at *
      clear hz9
      generalize hjn : (j + 1) % k = jn at *
      clear hjn
      generalize sL k c j = A at *
      generalize wS c j = L at *
      have B1 := hid ((Below.refl wr.heap.size wr).alloc (Nat.le_refl _) (.cells #[.int .i64 (z : Int)] 3))
      by_cases hjc : j = c
      · skip
        have hjc' : ((j : Int) == (c : Int)) = true := by simp; omega
        rw [if_pos hjc] at HNS
        have HLE : Hid (j ≤ c) := hid (by omega)
        have hle' : (j : Int) ≤ (c : Int) := by omega
        clear hjc
        have OW : Hid (((wr.alloc (.cells #[.int .i64 (z : Int)] 3)).alloc (.cells #[.int .i64 1] 3)).ownsRow wr.heap.size 3 1 (.slice (some ⟨wr.heap.size, 0, none⟩) 1 1) 1 [.int .i64 (z : Int)]) := hid ⟨rfl, .inr ⟨wr.heap.size, 1, #[.int .i64 (z : Int)], rfl, Nat.le_refl _, push_old (heap_alloc_new wr _), Nat.le_refl _, by unfold maxLen; omega, rfl, rfl⟩⟩
        have nc2 := next_cells (wr.alloc (.cells #[.int .i64 (z : Int)] 3)) [.int .i64 1] 3
        rw [World.size_alloc] at nc2
        have NC2 := hid nc2
        clear nc2
        have B2 := hid (bstep B1.out ((Below.refl _ _).alloc (Nat.le_refl _) (.cells #[.int .i64 1] 3)))
        go_wp2_with (first | (at_builtin; refine wpList_append_own_at _ rfl (.tmp 36) (.tmp 37) 35 rfl wr.heap.size 3 i3 _ 1 8 Tryd.underlying35 hi3 hz30 hz31 hz32 rfl (by decide) _ _ _ rfl OW.out ⟨wr.heap.size + 1, 0, none⟩ 1 1 [.int .i64 1] rfl rfl NC2.out (by simp [Value.oneCell']) (by unfold maxLen; omega) (by omega) (by simp; omega) ?_; intro y3 w3 hown hg _ _; obtain ⟨ya, yn, yc, rfl⟩ := own_shape hown; have X3 := hid (XK.out.keep (B2.out.grown hg B2.out.size (fun g e => (own_blk OW.out g e).1))); have I3' : Hid (I3 w3 (.slice ya yn yc) [z, 1]) := hid (i3_own hown); clear hown hg; have X4 := hid (X3.out.keep ((Below.refl w3.heap.size w3).alloc (Nat.le_refl _) (.cells #[.slice ya yn yc] 35))); have I4 := hid (I3'.out.below ((Below.refl w3.heap.size w3).alloc (Nat.le_refl _) (.cells #[.slice ya yn yc] 35))); obtain ⟨xs4, hx4⟩ := X4.out.ra; have HX4 := hid hx4; clear hx4) | (at_builtin; refine wpList_append_own_at _ rfl (.tmp 39) (.tmp 41) 34 rfl w.heap.size 35 i35 _ 1 24 Tryd.underlying34 hi hz0 hz1 hz2 rfl (by decide) u7 _ _ rfl HX4.out.own ⟨w3.heap.size, 0, none⟩ 1 1 [.slice ya yn yc] rfl rfl (next_cells w3 [.slice ya yn yc] 35) (by simp [Value.oneCell']) (by have := HLa.out; unfold maxLen; omega) (by have := HLa.out; omega) X4.out.below.size ?_; intro y5 w5 hown hg _ hloc; have R5 := hid (X4.out.appA HX4.out hown hg hloc I4.out); clear hown hg hloc))
        refine (word (1 + j) (by omega) _).mono ?_
        rintro e w6 ⟨rfl, hb⟩
        have R6 := hid (R5.out.keep hb)
        clear hb R5
        have R7 := hid (R6.out.keep ((Below.refl w6.heap.size w6).alloc (Nat.le_refl _) (.cells #[.string (wordB (1 + j))] 9)))
        have NC7 := hid (next_cells w6 [.string (wordB (1 + j))] 9)
        clear R6
        go_wp2_with (at_builtin; refine wpList_append_own_at _ rfl (.tmp 46) (.tmp 50) 24 rfl w.heap.size 9 i9 _ 1 16 Tryd.underlying24 hi9 hz90 hz91 hz92 rfl (by decide) u8 _ _ rfl R7.out.rl ⟨w6.heap.size, 0, none⟩ 1 1 [.string (wordB (1 + j))] rfl rfl NC7.out (by simp [Value.oneCell']) (by have := HLl.out; unfold maxLen; omega) (by have := HLl.out; omega) R7.out.below.size ?_; intro y8 w8 hown hg _ _; have R8 := hid (R7.out.appL hown hg); clear hown hg)
        go_roundw
        case rel => exact ⟨j + 1, by omega, by go_num, hid (by rw [HNS.out, (HWS.out).1 HLE.out]; exact R8.out)⟩
        case measure => simp [intOf]; omega
      · have hjc' : ((j : Int) == (c : Int)) = false := by simp; omega
        rw [if_neg hjc] at HNS
        by_cases hle : j ≤ c
        · skip
          have HLE : Hid (j ≤ c) := hid (by omega)
          have hle' : (j : Int) ≤ (c : Int) := by omega
          have X4 := hid ((XK.out.keep B1.out).keep ((Below.refl (wr.alloc (.cells #[.int .i64 (z : Int)] 3)).heap.size (wr.alloc (.cells #[.int .i64 (z : Int)] 3))).alloc (Nat.le_refl _) (.cells #[.slice (some ⟨wr.heap.size, 0, none⟩) 1 1] 35)))
          have I4 := hid ((i3_one wr z).below ((Below.refl (wr.alloc (.cells #[.int .i64 (z : Int)] 3)).heap.size (wr.alloc (.cells #[.int .i64 (z : Int)] 3))).alloc (Nat.le_refl _) (.cells #[.slice (some ⟨wr.heap.size, 0, none⟩) 1 1] 35)))
          obtain ⟨xs4, hx4⟩ := X4.out.ra
          have HX4 := hid hx4
          clear hx4
          have nc4 := next_cells (wr.alloc (.cells #[.int .i64 (z : Int)] 3)) [.slice (some ⟨wr.heap.size, 0, none⟩) 1 1] 35
          rw [World.size_alloc] at nc4
          have NC4 := hid nc4
          clear nc4
          go_wp2_with (at_builtin; refine wpList_append_own_at _ rfl (.tmp 39) (.tmp 41) 34 rfl w.heap.size 35 i35 _ 1 24 Tryd.underlying34 hi hz0 hz1 hz2 rfl (by decide) u7 _ _ rfl HX4.out.own ⟨wr.heap.size + 1, 0, none⟩ 1 1 [.slice (some ⟨wr.heap.size, 0, none⟩) 1 1] rfl rfl NC4.out (by simp [Value.oneCell']) (by have := HLa.out; unfold maxLen; omega) (by have := HLa.out; omega) X4.out.below.size ?_; intro y5 w5 hown hg _ hloc; have R5 := hid (X4.out.appA HX4.out hown hg hloc I4.out); clear hown hg hloc)
          refine (word (1 + j) (by omega) _).mono ?_
          rintro e w6 ⟨rfl, hb⟩
          have R6 := hid (R5.out.keep hb)
          clear hb R5
          have R7 := hid (R6.out.keep ((Below.refl w6.heap.size w6).alloc (Nat.le_refl _) (.cells #[.string (wordB (1 + j))] 9)))
          have NC7 := hid (next_cells w6 [.string (wordB (1 + j))] 9)
          clear R6
          go_wp2_with (at_builtin; refine wpList_append_own_at _ rfl (.tmp 46) (.tmp 50) 24 rfl w.heap.size 9 i9 _ 1 16 Tryd.underlying24 hi9 hz90 hz91 hz92 rfl (by decide) u8 _ _ rfl R7.out.rl ⟨w6.heap.size, 0, none⟩ 1 1 [.string (wordB (1 + j))] rfl rfl NC7.out (by simp [Value.oneCell']) (by have := HLl.out; unfold maxLen; omega) (by have := HLl.out; omega) R7.out.below.size ?_; intro y8 w8 hown hg _ _; have R8 := hid (R7.out.appL hown hg); clear hown hg)
          go_roundw
          case rel => exact ⟨j + 1, by omega, by go_num, hid (by rw [HNS.out, (HWS.out).1 HLE.out]; exact R8.out)⟩
          case measure => simp [intOf]; omega
        · skip
          have HLE : Hid (¬ j ≤ c) := hid (by omega)
          have hle' : ¬ (j : Int) ≤ (c : Int) := by omega
          have X4 := hid ((XK.out.keep B1.out).keep ((Below.refl (wr.alloc (.cells #[.int .i64 (z : Int)] 3)).heap.size (wr.alloc (.cells #[.int .i64 (z : Int)] 3))).alloc (Nat.le_refl _) (.cells #[.slice (some ⟨wr.heap.size, 0, none⟩) 1 1] 35)))
          have I4 := hid ((i3_one wr z).below ((Below.refl (wr.alloc (.cells #[.int .i64 (z : Int)] 3)).heap.size (wr.alloc (.cells #[.int .i64 (z : Int)] 3))).alloc (Nat.le_refl _) (.cells #[.slice (some ⟨wr.heap.size, 0, none⟩) 1 1] 35)))
          obtain ⟨xs4, hx4⟩ := X4.out.ra
          have HX4 := hid hx4
          clear hx4
          have nc4 := next_cells (wr.alloc (.cells #[.int .i64 (z : Int)] 3)) [.slice (some ⟨wr.heap.size, 0, none⟩) 1 1] 35
          rw [World.size_alloc] at nc4
          have NC4 := hid nc4
          clear nc4
          go_wp2_with (at_builtin; refine wpList_append_own_at _ rfl (.tmp 39) (.tmp 41) 34 rfl w.heap.size 35 i35 _ 1 24 Tryd.underlying34 hi hz0 hz1 hz2 rfl (by decide) u7 _ _ rfl HX4.out.own ⟨wr.heap.size + 1, 0, none⟩ 1 1 [.slice (some ⟨wr.heap.size, 0, none⟩) 1 1] rfl rfl NC4.out (by simp [Value.oneCell']) (by have := HLa.out; unfold maxLen; omega) (by have := HLa.out; omega) X4.out.below.size ?_; intro y5 w5 hown hg _ hloc; have R5 := hid (X4.out.appA HX4.out hown hg hloc I4.out); clear hown hg hloc)
          go_roundw
          case rel => exact ⟨j + 1, by omega, by go_num, hid (by rw [HNS.out, (HWS.out).2 HLE.out]; exact R5.out)⟩
          case measure => simp [intOf]; omega
    · skip
      have hjk' : ¬ (j : Int) < (k : Int) := by omega
      obtain rfl : j = k := by omega
      have HNR := hid (ok_sho (c := c) hk52 (by omega))
      obtain ⟨xs, hx⟩ := XK.out.ra
      obtain ⟨g, cap, rfl, hlo, h0⟩ := hx.first
      have b3 := (Below.refl wr.heap.size wr).alloc (Nat.le_refl _) (.cells #[.int .i64 1] 3)
      have X3 := hid (XK.out.keep b3)
      obtain ⟨⟨u0, h1⟩, h2⟩ := first_cell (h0.2 _ b3)
      have hLn : (0 : Int) < ((sL j c j).length : Int) := by simp [sL]
      have HS := hid (X3.out.set0 (q' := [1]) (i3_one wr 1) rfl)
      have HQ : Hid ([1] :: (List.range j).map (sR j c) = sN j c) := hid rfl
      rw [HQ.out] at HS
      have hlen : (sL j c j).length = j + 1 := by simp [sL]
      rw [hlen] at HS
      clear hlen hLn
      clear hx h0 b3 X3 XK
      go_wp2_with (fail)
      clear h1 h2
      generalize (wr.alloc (.cells #[.int .i64 1] 3)).setCell ⟨g, 0, none⟩ (.slice (some ⟨wr.heap.size, 0, none⟩) 1 1) = W4 at *
      have HTB := hid (And.intro (HT.out.1.below HS.out.below) (HT.out.2.below HS.out.below))
      refine (alive _ HTB.out.1 HTB.out.2).mono ?_
      rintro e w5 ⟨rfl, hb⟩
      have X5 := hid (HS.out.keep hb)
      clear hb HS
      go_wp2_with (fail)
      refine (of_1 (sN j c) [] _ _ _ X5.out.ra.lat (lat0 _) (by rw [sN_len]; omega) (fun l hl => ⟨by have := (HNR.out.now1 l hl).1; omega, fun z hz => by have := (HNR.out.now1 l hl).2 z hz; have h2 := HNR.out.len; omega⟩) (fun l hl => by cases hl)).mono ?_
      rintro e w6 ⟨a1, n1, c1, rfl, hp, hb⟩
      have X6 := hid (X5.out.keep hb)
      have P6 := hid hp
      clear hp hb X5
      have c11 := circles_find (ofP (sN j c) []) w6 (.slice none 0 0) (.slice a1 n1 c1) (.slice none 0 0) P6.out HNR.out.chk (by rw [ofP_len]; have := HNR.out.len; omega) ofP_name
      rw [fc_sho hk52 hk3 hck] at c11
      have e1 : (ofP (sN j c) []).st = 1 := rfl
      unfold pgV pgC at c11
      rw [e1] at c11
      clear e1
      have HWL : Hid ((wS c j).length ≤ 1048576) := hid (by simp [wS]; omega)
      have T6 := hid X6.out.shapes
      have B6 := hid X6.out.below
      clear X6
      generalize wS c j = L at *
      go_wp2_with (fail)
      refine c11.mono ?_
      rintro e w7 ⟨fv, rfl, hnl⟩
      have T7 := hid hnl.tx
      have U7 := hid (T6.out.keep hnl.below)
      have B7 := hid (bstep B6.out hnl.below)
      clear hnl c11
      go_wp2_with (fail)
      refine (same_texts _ _ _ _ T7.out U7.out HWL.out).mono ?_
      rintro e w8 ⟨rfl, hb⟩
      have B8 := hid (bstep B7.out hb)
      clear hb
      go_wp2_with (fail)
      go_ret
      exact ⟨rfl, B8.out⟩
end Go.Proofs.YtjdlmhkfaodkgaaDoor.Lex
