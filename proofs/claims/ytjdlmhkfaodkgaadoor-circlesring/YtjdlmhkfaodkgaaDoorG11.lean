/-
  Rows of rows of numbers that are made side by side, and a row of names.
  Flows in a ring, and with one of them an instant ago.
  A byte that came in, as a number.
  Flows in a ring: the walk of the law.
-/
import Derived.Test.YtjdlmhkfaodkgaaDoorG10
import Derived.Test.YtjdlmhkfaodkgaaDoorG9
import Derived.Test.YtjdlmhkfaodkgaaDoorG1
namespace Go.Proofs.YtjdlmhkfaodkgaaDoor.Lex
open Go.ChangeShapes Go.WideShapes Go.ChangeAt Go.RowKit Go.Joins
/-- A row of numbers that stands as long as the blocks of numbers do. -/
def I3 (W : World) (u : Value) (l : List Nat) : Prop := ∀ V : World, (∀ (b : Nat) (c : Array Value) (f : Nat × Nat), W.heap[b]? = some (.cells c 3 f) → V.heap[b]? = W.heap[b]?) → IAt V u (l.map Int.ofNat)
theorem I3.at {W : World} {u : Value} {l : List Nat} (h : I3 W u l) : IAt W u (l.map Int.ofNat) := h W (fun _ _ _ _ => rfl)
theorem I3.keep {W W' : World} {u : Value} {l : List Nat} (h : I3 W u l) (hk : ∀ (b : Nat) (c : Array Value) (f : Nat × Nat), W.heap[b]? = some (.cells c 3 f) → W'.heap[b]? = W.heap[b]?) : I3 W' u l := fun V hV => h V (fun b c f hb => (hV b c f ((hk b c f hb).trans hb)).trans (hk b c f hb))
theorem I3.below {W W' : World} {u : Value} {l : List Nat} (h : I3 W u l) (hb : Below W.heap.size W W') : I3 W' u l := h.keep fun b _ _ e => hb.block b (Array.getElem?_eq_some_iff.1 e).1
theorem i3_nil (W : World) (a : Option Addr) (c : Nat) : I3 W (.slice a 0 c) [] := fun V _ => iat0 V a c
theorem i3_one (W : World) (z : Nat) : I3 (W.alloc (.cells #[.int .i64 (z : Int)] 3)) (.slice (some ⟨W.heap.size, 0, none⟩) 1 1) [z] := fun _ hV => iat1 ((hV _ _ _ (heap_alloc_new W _)).trans (heap_alloc_new W _))
theorem own_other {W W' : World} {lo t c n : Nat} {v : Value} {xs : List Value} {r : Option Nat} (h : W.ownsRow lo t c v n xs) (hg : W.grownBy W' r) (hr : ∀ g, v.ownBlock = some g → r ≠ some g) : W'.ownsRow lo t c v n xs := by
  obtain ⟨h1, h2 | ⟨g, cap, cur, e, hlo, hb, h3⟩⟩ := h
  · exact ⟨h1, .inl h2⟩
  · exact ⟨h1, .inr ⟨g, cap, cur, e, hlo, (hg.block g (Array.getElem?_eq_some_iff.1 hb).1 (fun e2 => hr g (by rw [e]; rfl) e2.symm)).trans hb, h3⟩⟩
theorem own_blk {W : World} {lo t c n : Nat} {v : Value} {xs : List Value} (h : W.ownsRow lo t c v n xs) : ∀ g, v.ownBlock = some g → lo ≤ g ∧ ∃ cs, W.heap[g]? = some (.cells cs t (0, 0)) := fun g hg => by
  obtain ⟨_, ⟨e, _⟩ | ⟨g', cap, cur, e, hlo, hb, _⟩⟩ := h
  · rw [e] at hg; cases hg
  · rw [e] at hg
    obtain rfl : g' = g := by simpa [Value.ownBlock] using hg
    exact ⟨hlo, cur, hb⟩
/-- A row of rows, with the values of its cells. -/
structure RV35 (lo : Nat) (v : Value) (L : List (List Nat)) (xs : List Value) (W : World) : Prop where
  own : W.ownsRow lo 35 1 v L.length xs
  each : ∀ i (h : i < L.length), ∃ u, xs[i]? = some u ∧ I3 W u L[i]
theorem RV35.blk {lo : Nat} {v : Value} {L : List (List Nat)} {xs : List Value} {W : World} (h : RV35 lo v L xs W) : ∀ g, v.ownBlock = some g → lo ≤ g ∧ ∃ cs, W.heap[g]? = some (.cells cs 35 (0, 0)) := own_blk h.own
theorem RV35.len {lo : Nat} {v : Value} {L : List (List Nat)} {xs : List Value} {W : World} (h : RV35 lo v L xs W) : xs.length = L.length := by rw [h.own.1, Nat.mul_one]
theorem RV35.app {lo : Nat} {v v' u : Value} {L : List (List Nat)} {q : List Nat} {xs : List Value} {W W' : World} (h : RV35 lo v L xs W) (hown : W'.ownsRow lo 35 1 v' (L.length + 1) (xs ++ [u])) (hg : W.grownBy W' v.ownBlock) (hu : I3 W u q) : RV35 lo v' (L ++ [q]) (xs ++ [u]) W' := by
  have hk : ∀ (b : Nat) (c : Array Value) (f : Nat × Nat), W.heap[b]? = some (.cells c 3 f) → W'.heap[b]? = W.heap[b]? := fun b c f hb => hg.block b (Array.getElem?_eq_some_iff.1 hb).1 (fun e => by
    obtain ⟨_, cs, h2⟩ := h.blk b e.symm
    rw [hb] at h2
    simp at h2)
  refine ⟨by rw [List.length_append]; exact hown, fun i hi => ?_⟩
  by_cases e : i < L.length
  · obtain ⟨u', h1, h2⟩ := h.each i e
    refine ⟨u', ?_, ?_⟩
    · rw [List.getElem?_append_left (by rw [h.len]; exact e)]; exact h1
    · rw [List.getElem_append_left e]; exact h2.keep hk
  · have hi' : i < L.length + 1 := by simpa using hi
    obtain rfl : i = L.length := by omega
    refine ⟨u, ?_, ?_⟩
    · rw [List.getElem?_append_right (by rw [h.len]; omega), h.len]; simp
    · rw [List.getElem_append_right (by omega)]
      simpa using hu.keep hk
def RR (lo : Nat) (v : Value) (L : List (List Nat)) (W : World) : Prop := ∃ xs, RV35 lo v L xs W
theorem RR.nil (lo : Nat) (W : World) : RR lo (.slice none 0 0) [] W := ⟨[], ⟨rfl, .inl ⟨rfl, rfl⟩⟩, fun i hi => by simp at hi⟩
theorem RR.keep {lo : Nat} {v : Value} {L : List (List Nat)} {W W' : World} (h : RR lo v L W) (hb : Below W.heap.size W W') : RR lo v L W' := by
  obtain ⟨xs, h⟩ := h
  exact ⟨xs, own_carry9 h.own (fun b _ hl => hb.block b hl), fun i hi => by obtain ⟨u, h1, h2⟩ := h.each i hi; exact ⟨u, h1, h2.below hb⟩⟩
theorem RR.lt {lo : Nat} {v : Value} {L : List (List Nat)} {W : World} (h : RR lo v L W) : ∀ g, v.ownBlock = some g → g < W.heap.size := fun g hg => by
  obtain ⟨xs, h⟩ := h
  obtain ⟨_, cs, hb⟩ := h.blk g hg
  exact (Array.getElem?_eq_some_iff.1 hb).1
theorem RR.other {lo : Nat} {v : Value} {L : List (List Nat)} {W W' : World} {r : Option Nat} (h : RR lo v L W) (hg : W.grownBy W' r) (hr : ∀ g, v.ownBlock = some g → r ≠ some g) (h3 : ∀ g, r = some g → ∃ cs, W.heap[g]? = some (.cells cs 35 (0, 0))) : RR lo v L W' := by
  obtain ⟨xs, h⟩ := h
  exact ⟨xs, own_other h.own hg hr, fun i hi => by
    obtain ⟨u, h1, h2⟩ := h.each i hi
    exact ⟨u, h1, h2.keep fun b c f hb => hg.block b (Array.getElem?_eq_some_iff.1 hb).1 (fun e => by
      obtain ⟨cs, h4⟩ := h3 b e.symm
      rw [hb] at h4
      simp at h4)⟩⟩
theorem RR.other9 {lo : Nat} {v : Value} {L : List (List Nat)} {W W' : World} {r : Option Nat} (h : RR lo v L W) (hg : W.grownBy W' r) (h3 : ∀ g, r = some g → ∃ cs, W.heap[g]? = some (.cells cs 9 (0, 0))) : RR lo v L W' := by
  obtain ⟨xs, h⟩ := h
  exact ⟨xs, own_other h.own hg (fun g e e2 => by
    obtain ⟨_, c1, h1⟩ := h.blk g e
    obtain ⟨c2, h2⟩ := h3 g e2
    rw [h1] at h2
    simp at h2), fun i hi => by
    obtain ⟨u, h1, h2⟩ := h.each i hi
    exact ⟨u, h1, h2.keep fun b c f hb => hg.block b (Array.getElem?_eq_some_iff.1 hb).1 (fun e => by
      obtain ⟨cs, h4⟩ := h3 b e.symm
      rw [hb] at h4
      simp at h4)⟩⟩
theorem RR.lat {lo : Nat} {v : Value} {L : List (List Nat)} {W : World} (h : RR lo v L W) : LAt W v L := by
  obtain ⟨xs, h⟩ := h
  have hown := h.own
  rcases hown.2 with ⟨e, e0⟩ | ⟨g, cap, cur, e, _⟩
  · exact ⟨none, 0, by rw [e, e0], .inl e0⟩
  · subst e
    refine ⟨_, cap, rfl, .inr ⟨g, 0, rfl, fun i hi => ?_⟩⟩
    obtain ⟨u, h1, h2⟩ := h.each i hi
    refine ⟨u, ?_, h2.at⟩
    rw [Nat.zero_add, hown.cellAt i (by omega)]
    exact h1
theorem I3.grown {W W' : World} {u : Value} {l : List Nat} {r : Option Nat} {t : Nat} (h : I3 W u l) (hg : W.grownBy W' r) (hr : ∀ g, r = some g → ∃ cs, W.heap[g]? = some (.cells cs t (0, 0))) (ht : t ≠ 3) : I3 W' u l := h.keep fun b c f hb => hg.block b (Array.getElem?_eq_some_iff.1 hb).1 (fun e => by
  obtain ⟨cs, h4⟩ := hr b e.symm
  rw [hb] at h4
  simp at h4
  exact ht h4.2.1.symm)
def Ap (u v : Value) : Prop := ∀ g, u.ownBlock = some g → v.ownBlock = some g → False
/-- Three rows of rows, and a row of names. -/
structure RI (w : World) (a b c : List (List Nat)) (l : List ByteArray) (va vb vc vl : Value) (W : World) : Prop where
  ra : RR w.heap.size va a W
  rb : RR w.heap.size vb b W
  rc : RR w.heap.size vc c W
  rl : W.ownsRow w.heap.size 9 1 vl l.length (l.map Value.string)
  ab : Ap va vb
  ac : Ap va vc
  bc : Ap vb vc
  below : Below w.heap.size w W
theorem RI.start (w : World) : RI w [] [] [] [] (.slice none 0 0) (.slice none 0 0) (.slice none 0 0) (.slice none 0 0) w := ⟨.nil _ _, .nil _ _, .nil _ _, ⟨rfl, .inl ⟨rfl, rfl⟩⟩, (fun g e => by cases e), (fun g e => by cases e), (fun g e => by cases e), Below.refl _ _⟩
theorem RI.keep {w W W' : World} {a b c : List (List Nat)} {l : List ByteArray} {va vb vc vl : Value} (h : RI w a b c l va vb vc vl W) (hb : Below W.heap.size W W') : RI w a b c l va vb vc vl W' := ⟨h.ra.keep hb, h.rb.keep hb, h.rc.keep hb, own_carry9 h.rl (fun b _ hl => hb.block b hl), h.ab, h.ac, h.bc, bstep h.below hb⟩
theorem RI.appL {w W W' : World} {a b c : List (List Nat)} {l : List ByteArray} {va vb vc vl v' : Value} {s : ByteArray} (h : RI w a b c l va vb vc vl W) (hown : W'.ownsRow w.heap.size 9 1 v' (l.length + 1) (l.map Value.string ++ [.string s])) (hg : W.grownBy W' vl.ownBlock) : RI w a b c (l ++ [s]) va vb vc v' W' where
  ra := h.ra.other9 hg (fun g e => (own_blk h.rl g e).2)
  rb := h.rb.other9 hg (fun g e => (own_blk h.rl g e).2)
  rc := h.rc.other9 hg (fun g e => (own_blk h.rl g e).2)
  rl := by rw [List.length_append, List.map_append]; exact hown
  ab := h.ab
  ac := h.ac
  bc := h.bc
  below := h.below.grown hg h.below.size (fun g e => (own_blk h.rl g e).1)
theorem RI.appA {w W W' : World} {a : List (List Nat)} {va : Value} {b : List (List Nat)} {vb : Value} {c : List (List Nat)} {vc : Value} {l : List ByteArray} {vl v' u : Value} {q : List Nat} {xs : List Value} (h : RI w a b c l va vb vc vl W) (hxs : RV35 w.heap.size va a xs W) (hown : W'.ownsRow w.heap.size 35 1 v' (a.length + 1) (xs ++ [u])) (hg : W.grownBy W' va.ownBlock) (hloc : v'.ownBlock = va.ownBlock ∨ v'.ownBlock = some W.heap.size) (hu : I3 W u q) : RI w (a ++ [q]) b c l v' vb vc vl W' where
  ra := ⟨_, hxs.app hown hg hu⟩
  rb := h.rb.other hg (fun g e e2 => h.ab g e2 e) (fun g e => (hxs.blk g e).2)
  rc := h.rc.other hg (fun g e e2 => h.ac g e2 e) (fun g e => (hxs.blk g e).2)
  rl := own_other h.rl hg (fun g e e2 => by
    obtain ⟨_, _, hb⟩ := own_blk h.rl g e
    obtain ⟨_, hb2⟩ := (hxs.blk g e2).2
    rw [hb] at hb2
    simp at hb2)
  ab := fun g e e2 => by
    rcases hloc with hl | hl
    · exact h.ab g (hl ▸ e) e2
    · rw [hl] at e
      have := h.rb.lt g e2
      injection e with e
      omega
  ac := fun g e e2 => by
    rcases hloc with hl | hl
    · exact h.ac g (hl ▸ e) e2
    · rw [hl] at e
      have := h.rc.lt g e2
      injection e with e
      omega
  bc := h.bc
  below := h.below.grown hg h.below.size (fun g e => (hxs.blk g e).1)
theorem RI.appB {w W W' : World} {a : List (List Nat)} {va : Value} {b : List (List Nat)} {vb : Value} {c : List (List Nat)} {vc : Value} {l : List ByteArray} {vl v' u : Value} {q : List Nat} {xs : List Value} (h : RI w a b c l va vb vc vl W) (hxs : RV35 w.heap.size vb b xs W) (hown : W'.ownsRow w.heap.size 35 1 v' (b.length + 1) (xs ++ [u])) (hg : W.grownBy W' vb.ownBlock) (hloc : v'.ownBlock = vb.ownBlock ∨ v'.ownBlock = some W.heap.size) (hu : I3 W u q) : RI w a (b ++ [q]) c l va v' vc vl W' where
  ra := h.ra.other hg (fun g e e2 => h.ab g e e2) (fun g e => (hxs.blk g e).2)
  rb := ⟨_, hxs.app hown hg hu⟩
  rc := h.rc.other hg (fun g e e2 => h.bc g e2 e) (fun g e => (hxs.blk g e).2)
  rl := own_other h.rl hg (fun g e e2 => by
    obtain ⟨_, _, hb⟩ := own_blk h.rl g e
    obtain ⟨_, hb2⟩ := (hxs.blk g e2).2
    rw [hb] at hb2
    simp at hb2)
  ab := fun g e e2 => by
    rcases hloc with hl | hl
    · exact h.ab g e (hl ▸ e2)
    · rw [hl] at e2
      have := h.ra.lt g e
      injection e2 with e2
      omega
  ac := h.ac
  bc := fun g e e2 => by
    rcases hloc with hl | hl
    · exact h.bc g (hl ▸ e) e2
    · rw [hl] at e
      have := h.rc.lt g e2
      injection e with e
      omega
  below := h.below.grown hg h.below.size (fun g e => (hxs.blk g e).1)
theorem RI.appC {w W W' : World} {a : List (List Nat)} {va : Value} {b : List (List Nat)} {vb : Value} {c : List (List Nat)} {vc : Value} {l : List ByteArray} {vl v' u : Value} {q : List Nat} {xs : List Value} (h : RI w a b c l va vb vc vl W) (hxs : RV35 w.heap.size vc c xs W) (hown : W'.ownsRow w.heap.size 35 1 v' (c.length + 1) (xs ++ [u])) (hg : W.grownBy W' vc.ownBlock) (hloc : v'.ownBlock = vc.ownBlock ∨ v'.ownBlock = some W.heap.size) (hu : I3 W u q) : RI w a b (c ++ [q]) l va vb v' vl W' where
  ra := h.ra.other hg (fun g e e2 => h.ac g e e2) (fun g e => (hxs.blk g e).2)
  rb := h.rb.other hg (fun g e e2 => h.bc g e e2) (fun g e => (hxs.blk g e).2)
  rc := ⟨_, hxs.app hown hg hu⟩
  rl := own_other h.rl hg (fun g e e2 => by
    obtain ⟨_, _, hb⟩ := own_blk h.rl g e
    obtain ⟨_, hb2⟩ := (hxs.blk g e2).2
    rw [hb] at hb2
    simp at hb2)
  ab := h.ab
  ac := fun g e e2 => by
    rcases hloc with hl | hl
    · exact h.ac g e (hl ▸ e2)
    · rw [hl] at e2
      have := h.ra.lt g e
      injection e2 with e2
      omega
  bc := fun g e e2 => by
    rcases hloc with hl | hl
    · exact h.bc g e (hl ▸ e2)
    · rw [hl] at e2
      have := h.rb.lt g e
      injection e2 with e2
      omega
  below := h.below.grown hg h.below.size (fun g e => (hxs.blk g e).1)
theorem inf35 : (Tryd.prog.info? 35).map (fun i => (i.zero, i.size, i.bytes)) = some (some (.slice none 0 0), 1, 24) := by kernel_rfl
theorem RI.shapes {w W : World} {a b c : List (List Nat)} {l : List ByteArray} {va vb vc vl : Value} (h : RI w a b c l va vb vc vl W) : TxAt W vl l := by
  have hown := h.rl
  rcases hown.2 with ⟨e, e0⟩ | ⟨g, cap, cur, e, _⟩
  · exact ⟨none, 0, by rw [e, e0], .inl e0⟩
  · subst e
    refine ⟨_, cap, rfl, .inr ⟨g, 0, rfl, fun i hi => ?_⟩⟩
    rw [Nat.zero_add, hown.cellAt i (by omega)]
    simp [hi]
end Go.Proofs.YtjdlmhkfaodkgaaDoor.Lex
namespace Go.Proofs.YtjdlmhkfaodkgaaDoor.Lex
/-- The first ones of a ring; with one of them cut. -/
def rN (k j : Nat) : List (List Nat) := (List.range j).map fun i => [(i + 1) % k]
def rC (k c j : Nat) : List (List Nat) := (List.range j).map fun i => if i = c then [] else [(i + 1) % k]
def rA (k c j : Nat) : List (List Nat) := (List.range j).map fun i => if i = c then [(i + 1) % k] else []
def wL (j : Nat) : List ByteArray := (List.range j).map wordB
theorem rN_succ (k j : Nat) : rN k (j + 1) = rN k j ++ [[(j + 1) % k]] := by unfold rN; rw [List.range_succ, List.map_append]; rfl
theorem rC_same (k j : Nat) : rC k j (j + 1) = rC k j j ++ [[]] := by unfold rC; rw [List.range_succ, List.map_append]; simp
theorem rC_succ {k c j : Nat} (h : ¬ j = c) : rC k c (j + 1) = rC k c j ++ [[(j + 1) % k]] := by unfold rC; rw [List.range_succ, List.map_append]; simp [h]
theorem rA_same (k j : Nat) : rA k j (j + 1) = rA k j j ++ [[(j + 1) % k]] := by unfold rA; rw [List.range_succ, List.map_append]; simp
theorem rA_succ {k c j : Nat} (h : ¬ j = c) : rA k c (j + 1) = rA k c j ++ [[]] := by unfold rA; rw [List.range_succ, List.map_append]; simp [h]
theorem wL_succ (j : Nat) : wL (j + 1) = wL j ++ [wordB j] := by unfold wL; rw [List.range_succ, List.map_append]; rfl
theorem map_getD (f : Nat → List Nat) (k i : Nat) (h : i < k) : ((List.range k).map f).getD i [] = f i := by simp [h]
theorem ok_ring {k : Nat} (h : k ≤ 60) : OfOk (rN k k) [] := by
  refine ⟨by simp [rN]; omega, fun l hl => ?_, fun l hl => by cases hl⟩
  obtain ⟨i, hi, rfl⟩ := List.mem_map.1 hl
  have := List.mem_range.1 hi
  refine ⟨by simp, fun z hz => ?_⟩
  obtain rfl : z = (i + 1) % k := by simpa using hz
  simp only [rN, List.length_map, List.length_range]
  exact Nat.mod_lt _ (by omega)
theorem fc_ring {k : Nat} (h0 : 0 < k) (h : k ≤ 60) : findC (ofP (rN k k) []) = wL k := by
  refine (ok_ring h).find_is (L := List.range k) (home := 0) (by simp [h0]) List.nodup_range (fun z hz => by simpa [rN] using hz) (fun i hi y hy => ?_) (fun i hi => ?_) (fun i hi e => ?_) (fun j hj => by omega)
  · have hi' : i + 1 < k := by simpa using hi
    rw [List.getElem_range] at hy ⊢
    rw [rN, map_getD _ _ _ (by omega)] at hy
    have hy : y = (i + 1) % k := by simpa using hy
    rw [hy, Nat.mod_eq_of_lt hi']
  · have hi' : i + 1 < k := by simpa using hi
    rw [List.getElem_range, List.getElem_range, rN, map_getD _ _ _ (by omega), Nat.mod_eq_of_lt hi']
    simp
  · have e' : i + 1 = k := by simpa using e
    rw [List.getElem_range, rN, map_getD _ _ _ (by omega), e', Nat.mod_self]
    simp
theorem ok_cut {k c : Nat} (h : k ≤ 60) : OfOk (rC k c k) (rA k c k) := by
  have key : ∀ i, i < k → (i + 1) % k < k := fun i hi => Nat.mod_lt _ (by omega)
  refine ⟨by simp [rC]; omega, fun l hl => ?_, fun l hl => ?_⟩
  · obtain ⟨i, hi, rfl⟩ := List.mem_map.1 hl
    have hi := List.mem_range.1 hi
    have := key i hi
    split
    · simp
    · refine ⟨by simp, fun z hz => ?_⟩
      obtain rfl : z = (i + 1) % k := by simpa using hz
      simpa [rC] using this
  · obtain ⟨i, hi, rfl⟩ := List.mem_map.1 hl
    have hi := List.mem_range.1 hi
    have := key i hi
    split
    · refine ⟨by simp, fun z hz => ?_⟩
      obtain rfl : z = (i + 1) % k := by simpa using hz
      simpa [rC] using this
    · simp
theorem fc_cut {k c : Nat} (h : k ≤ 60) (hc : c < k) : findC (ofP (rC k c k) (rA k c k)) = [] := by
  refine (ok_cut h).find_no (fun i => if i ≤ c then c - i else c + k - i) (fun i hi y hy => ?_)
  have hi : i < k := by simpa [rC] using hi
  rw [rC, map_getD _ _ _ hi] at hy
  by_cases e : i = c
  · simp [e] at hy
  · simp only [e, if_false] at hy
    have hy : y = (i + 1) % k := by simpa using hy
    by_cases e2 : i + 1 = k
    · rw [e2, Nat.mod_self] at hy
      subst hy
      split <;> split <;> omega
    · rw [Nat.mod_eq_of_lt (by omega)] at hy
      subst hy
      split <;> split <;> omega
theorem ck_ring {k : Nat} (h0 : 0 < k) (h : k ≤ 60) : ckC (ofP (rN k k) []) = 8 := by
  rw [(ok_ring h).ck, fc_ring h0 h, if_neg (by simp [wL]; omega)]
theorem ck_cut {k c : Nat} (h : k ≤ 60) (hc : c < k) : ckC (ofP (rC k c k) (rA k c k)) = 0 := by
  rw [(ok_cut h).ck, fc_cut h hc]
  rfl
end Go.Proofs.YtjdlmhkfaodkgaaDoor.Lex
namespace Go.Proofs.YtjdlmhkfaodkgaaDoor.Lex
theorem nat_c {n : Int} (h : (Lit.int .u8 n).wf = true) : ∃ k : Nat, k < 256 ∧ n = (k : Int) := by
  simp [Lit.wf, IntKind.min, IntKind.max, IntKind.signed, IntKind.bits] at h
  exact ⟨n.toNat, by omega, by omega⟩
end Go.Proofs.YtjdlmhkfaodkgaaDoor.Lex
namespace Go.Proofs.YtjdlmhkfaodkgaaDoor.Lex
open Go.ChangeShapes Go.WideShapes Go.ChangeAt Go.RowKit Go.Joins
/-- Two programs in their variables, names, and the tables. -/
structure RG (w : World) (k1 k2 : Nat) (P Q : Pg) (f1 f2 vl : Value) (l : List ByteArray) (W : World) : Prop where
  p1 : PB k1 P f1 W
  p2 : PB k2 Q f2 W
  tx : TxAt W vl l
  R : TabR W
  J : TabJ W
  below : Below w.heap.size w W
theorem RG.keep {w W W' : World} {k1 k2 : Nat} {P Q : Pg} {f1 f2 vl : Value} {l : List ByteArray} (h : RG w k1 k2 P Q f1 f2 vl l W) (hb : Below W.heap.size W W') : RG w k1 k2 P Q f1 f2 vl l W' := ⟨h.p1.keep hb, h.p2.keep hb, h.tx.keep hb, h.R.below hb, h.J.below hb, bstep h.below hb⟩
set_option maxRecDepth 100000 in
set_option maxHeartbeats 4000000 in
theorem walk5 (n c0 : Nat) (w : World) (hn : n < 256) (hc0 : c0 < 256) (hR : TabR w) (hJ : TabJ w) : Calls Tryd.prog 5 #[.int .u8 (n : Int), .int .u8 (c0 : Int)] w fun e w' => e = .returned (.bool true) ∧ Below w.heap.size w w' := by
  have HT := hid (And.intro hR hJ)
  clear hR hJ
  obtain ⟨m, hm⟩ : ∃ m, n % 60 = m := ⟨_, rfl⟩
  have hm60 : m < 60 := by omega
  have hmod : (n : Int) % 60 = (m : Int) := by omega
  have hmod' : Int.tmod (n : Int) 60 = (m : Int) := by rw [← hmod]; exact Int.tmod_eq_emod_of_nonneg (by omega)
  have hwu : IntKind.u8.wrap (m : Int) = (m : Int) := by rw [show IntKind.u8.wrap (m : Int) = (m : Int) % 256 from rfl]; omega
  have hwi : IntKind.i64.wrap (m : Int) = (m : Int) := by rw [IntKind.wrap_i64]; omega
  obtain ⟨k, hkm⟩ : ∃ k, k = m + 1 := ⟨_, rfl⟩
  have hwk : IntKind.i64.wrap ((m : Int) + 1) = (k : Int) := by rw [IntKind.wrap_i64]; omega
  have hk0 : 0 < k := by omega
  have hk60 : k ≤ 60 := by omega
  obtain ⟨c, hcc⟩ : ∃ c, c0 % k = c := ⟨_, rfl⟩
  have hck : c < k := by rw [← hcc]; exact Nat.mod_lt _ hk0
  have hcm : Int.tmod (c0 : Int) (k : Int) = (c : Int) := by rw [Int.tmod_eq_emod_of_nonneg (by omega), ← hcc]; rfl
  have hcm' : (c0 : Int) % (k : Int) = (c : Int) := by rw [← hcc]; rfl
  have hwc : IntKind.i64.wrap (c0 : Int) = (c0 : Int) := by rw [IntKind.wrap_i64]; omega
  have HM := hid (And.intro hm (And.intro hkm hcc))
  obtain ⟨i35, hi, hz0, hz1, hz2⟩ := info_parts inf35
  obtain ⟨i9, hi9, hz90, hz91, hz92⟩ := info_parts inf9N
  clear hm hkm hcc hmod
  go_enter Tryd.func5, Tryd.ntmps5
  go_wp2_with (fail)
  go_loopw [6, 7, 8, 9, 10] (fun va vb vc vl i wr => ∃ j : Nat, j ≤ k ∧ i = .int .i64 (j : Int) ∧ Hid (RI w (rN k j) (rC k c j) (rA k c j) (wL j) va vb vc vl wr)) (fun _ _ _ _ i _ => k - (intOf i).toNat)
  case atStart => exact ⟨0, Nat.zero_le _, rfl, hid (RI.start w)⟩
  case round =>
    obtain ⟨j, hj, rfl, XK⟩ := hrel
    by_cases hjk : j < k
    · skip
      have hjk' : (j : Int) < (k : Int) := by omega
      have hmod := Nat.mod_lt (j + 1) (show 0 < k by omega)
      have hw1 : IntKind.i64.wrap ((j : Int) + 1) = (j : Int) + 1 := by rw [IntKind.wrap_i64]; omega
      have hrem : Int.tmod ((j : Int) + 1) (k : Int) = (((j + 1) % k : Nat) : Int) := by
        rw [Int.tmod_eq_emod_of_nonneg (by omega)]
        rfl
      have hrem' : ((j : Int) + 1) % (k : Int) = (((j + 1) % k : Nat) : Int) := rfl
      have hne : ¬ (k : Int) = 0 := by omega
      have HNS := hid (rN_succ k j)
      have HWS := hid (wL_succ j)
      have HCS := hid (And.intro (fun e : j = c => by have := rC_same k j; rw [e] at this ⊢; exact this) (fun e : ¬ j = c => rC_succ (k := k) e) : (j = c → rC k c (j + 1) = rC k c j ++ [[]]) ∧ (¬ j = c → rC k c (j + 1) = rC k c j ++ [[(j + 1) % k]]))
      have HAS := hid (And.intro (fun e : j = c => by have := rA_same k j; rw [e] at this ⊢; exact this) (fun e : ¬ j = c => rA_succ (k := k) e) : (j = c → rA k c (j + 1) = rA k c j ++ [[(j + 1) % k]]) ∧ (¬ j = c → rA k c (j + 1) = rA k c j ++ [[]]))
      have HLa : Hid ((rN k j).length ≤ 60) := hid (by simp [rN]; omega)
      have HLb : Hid ((rC k c j).length ≤ 60) := hid (by simp [rC]; omega)
      have HLc : Hid ((rA k c j).length ≤ 60) := hid (by simp [rA]; omega)
      have HLl : Hid ((wL j).length ≤ 60) := hid (by simp [wL]; omega)
      generalize hjn : (j + 1) % k = jn at *
      clear hjn
      generalize rN k j = A at *
      generalize rC k c j = B at *
      generalize rA k c j = C at *
      generalize wL j = L at *
      have K0 := hid (XK.out.keep ((Below.refl wr.heap.size wr).alloc (Nat.le_refl _) (.cells #[.int .i64 (jn : Int)] 3)))
      have I0 := hid (i3_one wr jn)
      have K1 := hid (K0.out.keep ((Below.refl (wr.alloc (.cells #[.int .i64 (jn : Int)] 3)).heap.size (wr.alloc (.cells #[.int .i64 (jn : Int)] 3))).alloc (Nat.le_refl _) (.cells #[.slice (some ⟨wr.heap.size, 0, none⟩) 1 1] 35)))
      have I1 := hid (I0.out.below ((Below.refl (wr.alloc (.cells #[.int .i64 (jn : Int)] 3)).heap.size (wr.alloc (.cells #[.int .i64 (jn : Int)] 3))).alloc (Nat.le_refl _) (.cells #[.slice (some ⟨wr.heap.size, 0, none⟩) 1 1] 35)))
      obtain ⟨xs1, hx1⟩ := K1.out.ra
      have HX1 := hid hx1
      clear hx1
      have nc1 := next_cells (wr.alloc (.cells #[.int .i64 (jn : Int)] 3)) [.slice (some ⟨wr.heap.size, 0, none⟩) 1 1] 35
      rw [World.size_alloc] at nc1
      have NC1 := hid nc1
      clear nc1
      go_wp2_with (at_builtin; refine wpList_append_own_at _ rfl (.tmp 28) (.tmp 30) 34 rfl w.heap.size 35 i35 _ 1 24 Tryd.underlying34 hi hz0 hz1 hz2 rfl (by decide) u6 _ _ rfl HX1.out.own ⟨wr.heap.size + 1, 0, none⟩ 1 1 [.slice (some ⟨wr.heap.size, 0, none⟩) 1 1] rfl rfl NC1.out (by simp [Value.oneCell']) (by have := HLa.out; unfold maxLen; omega) (by have := HLa.out; omega) K1.out.below.size ?_; intro y1 w1 hown hg _ hloc; have R1 := hid (K1.out.appA HX1.out hown hg hloc I1.out); have J1 := hid (I1.out.grown hg (fun g e => (HX1.out.blk g e).2) (by decide)); clear hown hg hloc)
      clear K0 K1 I0 I1 HX1 XK
      refine (word j (by omega) _).mono ?_
      rintro e w2 ⟨rfl, hb2⟩
      have R2 := hid (R1.out.keep hb2)
      have J2 := hid (J1.out.below hb2)
      clear hb2 R1 J1
      have R3 := hid (R2.out.keep ((Below.refl w2.heap.size w2).alloc (Nat.le_refl _) (.cells #[.string (wordB j)] 9)))
      have J3 := hid (J2.out.below ((Below.refl w2.heap.size w2).alloc (Nat.le_refl _) (.cells #[.string (wordB j)] 9)))
      have NC3 := hid (next_cells w2 [.string (wordB j)] 9)
      clear R2 J2
      by_cases hjc : j = c
      · have hjc' : ((j : Int) == (c : Int)) = true := by simp; omega
        have HJ := hid hjc
        clear hjc
        go_wp2_with (first | (at_builtin; refine wpList_append_own_at _ rfl (.tmp 32) (.tmp 35) 24 rfl w.heap.size 9 i9 _ 1 16 Tryd.underlying24 hi9 hz90 hz91 hz92 rfl (by decide) u9 _ _ rfl R3.out.rl ⟨w2.heap.size, 0, none⟩ 1 1 [.string (wordB j)] rfl rfl NC3.out (by simp [Value.oneCell']) (by have := HLl.out; unfold maxLen; omega) (by have := HLl.out; omega) R3.out.below.size ?_; intro y4 w4 hown hg _ _; have R4 := hid (R3.out.appL hown hg); have J4 := hid (J3.out.grown hg (fun g e => (own_blk R3.out.rl g e).2) (by decide)); clear hown hg) | (have K5 := hid (R4.out.keep ((Below.refl w4.heap.size w4).alloc (Nat.le_refl _) (.cells #[.slice none 0 0] 35))); have I5 := hid (J4.out.below ((Below.refl w4.heap.size w4).alloc (Nat.le_refl _) (.cells #[.slice none 0 0] 35))); obtain ⟨xs5, hx5⟩ := K5.out.rb; have HX5 := hid hx5; clear hx5; at_builtin; refine wpList_append_own_at _ rfl (.tmp 43) (.tmp 44) 34 rfl w.heap.size 35 i35 _ 1 24 Tryd.underlying34 hi hz0 hz1 hz2 rfl (by decide) u7 _ _ rfl HX5.out.own ⟨w4.heap.size, 0, none⟩ 1 1 [.slice none 0 0] rfl rfl (next_cells w4 [.slice none 0 0] 35) (by simp [Value.oneCell']) (by have := HLb.out; unfold maxLen; omega) (by have := HLb.out; omega) K5.out.below.size ?_; intro y5 w5 hown hg _ hloc; have R5 := hid (K5.out.appB HX5.out hown hg hloc (i3_nil _ _ _)); have J5 := hid (I5.out.grown hg (fun g e => (HX5.out.blk g e).2) (by decide)); clear hown hg hloc) | (have K6 := hid (R5.out.keep ((Below.refl w5.heap.size w5).alloc (Nat.le_refl _) (.cells #[.slice (some ⟨wr.heap.size, 0, none⟩) 1 1] 35))); have I6 := hid (J5.out.below ((Below.refl w5.heap.size w5).alloc (Nat.le_refl _) (.cells #[.slice (some ⟨wr.heap.size, 0, none⟩) 1 1] 35))); obtain ⟨xs6, hx6⟩ := K6.out.rc; have HX6 := hid hx6; clear hx6; at_builtin; refine wpList_append_own_at _ rfl (.tmp 46) (.tmp 48) 34 rfl w.heap.size 35 i35 _ 1 24 Tryd.underlying34 hi hz0 hz1 hz2 rfl (by decide) u8 _ _ rfl HX6.out.own ⟨w5.heap.size, 0, none⟩ 1 1 [.slice (some ⟨wr.heap.size, 0, none⟩) 1 1] rfl rfl (next_cells w5 [.slice (some ⟨wr.heap.size, 0, none⟩) 1 1] 35) (by simp [Value.oneCell']) (by have := HLc.out; unfold maxLen; omega) (by have := HLc.out; omega) K6.out.below.size ?_; intro y6 w6 hown hg _ hloc; have R6 := hid (K6.out.appC HX6.out hown hg hloc I6.out); have J6 := hid (I6.out.grown hg (fun g e => (HX6.out.blk g e).2) (by decide)); clear hown hg hloc))
        go_roundw
        case rel => exact ⟨j + 1, by omega, by go_num, hid (by rw [HNS.out, HWS.out, HCS.out.1 HJ.out, HAS.out.1 HJ.out]; exact R6.out)⟩
        case measure => simp [intOf]; omega
      · have hjc' : ((j : Int) == (c : Int)) = false := by simp; omega
        have HJ := hid hjc
        clear hjc
        go_wp2_with (first | (at_builtin; refine wpList_append_own_at _ rfl (.tmp 32) (.tmp 35) 24 rfl w.heap.size 9 i9 _ 1 16 Tryd.underlying24 hi9 hz90 hz91 hz92 rfl (by decide) u9 _ _ rfl R3.out.rl ⟨w2.heap.size, 0, none⟩ 1 1 [.string (wordB j)] rfl rfl NC3.out (by simp [Value.oneCell']) (by have := HLl.out; unfold maxLen; omega) (by have := HLl.out; omega) R3.out.below.size ?_; intro y4 w4 hown hg _ _; have R4 := hid (R3.out.appL hown hg); have J4 := hid (J3.out.grown hg (fun g e => (own_blk R3.out.rl g e).2) (by decide)); clear hown hg) | (have K5 := hid (R4.out.keep ((Below.refl w4.heap.size w4).alloc (Nat.le_refl _) (.cells #[.slice (some ⟨wr.heap.size, 0, none⟩) 1 1] 35))); have I5 := hid (J4.out.below ((Below.refl w4.heap.size w4).alloc (Nat.le_refl _) (.cells #[.slice (some ⟨wr.heap.size, 0, none⟩) 1 1] 35))); obtain ⟨xs5, hx5⟩ := K5.out.rb; have HX5 := hid hx5; clear hx5; at_builtin; refine wpList_append_own_at _ rfl (.tmp 50) (.tmp 52) 34 rfl w.heap.size 35 i35 _ 1 24 Tryd.underlying34 hi hz0 hz1 hz2 rfl (by decide) u7 _ _ rfl HX5.out.own ⟨w4.heap.size, 0, none⟩ 1 1 [.slice (some ⟨wr.heap.size, 0, none⟩) 1 1] rfl rfl (next_cells w4 [.slice (some ⟨wr.heap.size, 0, none⟩) 1 1] 35) (by simp [Value.oneCell']) (by have := HLb.out; unfold maxLen; omega) (by have := HLb.out; omega) K5.out.below.size ?_; intro y5 w5 hown hg _ hloc; have R5 := hid (K5.out.appB HX5.out hown hg hloc I5.out); have J5 := hid (I5.out.grown hg (fun g e => (HX5.out.blk g e).2) (by decide)); clear hown hg hloc) | (have K6 := hid (R5.out.keep ((Below.refl w5.heap.size w5).alloc (Nat.le_refl _) (.cells #[.slice none 0 0] 35))); have I6 := hid (J5.out.below ((Below.refl w5.heap.size w5).alloc (Nat.le_refl _) (.cells #[.slice none 0 0] 35))); obtain ⟨xs6, hx6⟩ := K6.out.rc; have HX6 := hid hx6; clear hx6; at_builtin; refine wpList_append_own_at _ rfl (.tmp 54) (.tmp 55) 34 rfl w.heap.size 35 i35 _ 1 24 Tryd.underlying34 hi hz0 hz1 hz2 rfl (by decide) u8 _ _ rfl HX6.out.own ⟨w5.heap.size, 0, none⟩ 1 1 [.slice none 0 0] rfl rfl (next_cells w5 [.slice none 0 0] 35) (by simp [Value.oneCell']) (by have := HLc.out; unfold maxLen; omega) (by have := HLc.out; omega) K6.out.below.size ?_; intro y6 w6 hown hg _ hloc; have R6 := hid (K6.out.appC HX6.out hown hg hloc (i3_nil _ _ _)); have J6 := hid (I6.out.grown hg (fun g e => (HX6.out.blk g e).2) (by decide)); clear hown hg hloc))
        go_roundw
        case rel => exact ⟨j + 1, by omega, by go_num, hid (by rw [HNS.out, HWS.out, HCS.out.2 HJ.out, HAS.out.2 HJ.out]; exact R6.out)⟩
        case measure => simp [intOf]; omega
    · skip
      have hjk' : ¬ (j : Int) < (k : Int) := by omega
      obtain rfl : j = k := by omega
      have HNR := hid (ok_ring hk60)
      have HCR := hid (ok_cut (c := c) hk60)
      go_wp2_with (fail)
      refine (of_1 _ _ _ _ _ XK.out.ra.lat (lat0 _) (by simp [rN]; omega) (fun l hl => ⟨by have := (HNR.out.now1 l hl).1; omega, fun z hz => by have := (HNR.out.now1 l hl).2 z hz; have h2 := HNR.out.len; omega⟩) (fun l hl => by cases hl)).mono ?_
      rintro e w5 ⟨a1, n1, c1, rfl, hp, hb⟩
      have X5 := hid (XK.out.keep hb)
      have P5 := hid hp
      clear hp hb XK
      have X6 := hid (X5.out.keep ((Below.refl w5.heap.size w5).alloc (Nat.le_refl _) (.cells #[.int .i64 1, .slice none 0 0, .slice a1 n1 c1, .slice none 0 0] 26)))
      have P6 := hid (PB.new P5.out)
      clear X5 P5
      go_wp2_with (fail)
      refine (of_1 _ _ _ _ _ X6.out.rb.lat X6.out.rc.lat (by simp [rC]; omega) (fun l hl => ⟨by have := (HCR.out.now1 l hl).1; omega, fun z hz => by have := (HCR.out.now1 l hl).2 z hz; have h2 := HCR.out.len; omega⟩) (fun l hl => ⟨by have := (HCR.out.ago1 l hl).1; omega, fun z hz => by have := (HCR.out.ago1 l hl).2 z hz; have h2 := HCR.out.len; omega⟩)).mono ?_
      rintro e w7 ⟨a2, n2, c2, rfl, hp, hb⟩
      have T7 := hid (X6.out.shapes.keep hb)
      have B7 := hid (bstep X6.out.below hb)
      have P7 := hid (P6.out.keep hb)
      have Q7 := hid hp
      clear hp hb X6 P6
      have hb := (Below.refl w7.heap.size w7).alloc (Nat.le_refl _) (.cells #[.int .i64 1, .slice none 0 0, .slice a2 n2 c2, .slice none 0 0] 26)
      have X8 : Hid (RG w w5.heap.size w7.heap.size (ofP (rN j j) []) (ofP (rC j c j) (rA j c j)) (.slice a1 n1 c1) (.slice a2 n2 c2) u9 (wL j) (w7.alloc (.cells #[.int .i64 1, .slice none 0 0, .slice a2 n2 c2, .slice none 0 0] 26))) := hid ⟨P7.out.keep hb, PB.new Q7.out, T7.out.keep hb, HT.out.1.below (bstep B7.out hb), HT.out.2.below (bstep B7.out hb), bstep B7.out hb⟩
      clear hb T7 B7 P7 Q7 HT
      have c12p := fun W p1 p2 p3 => circles_check (ofP (rN j j) []) W (.slice none 0 0) (.slice a1 n1 c1) (.slice none 0 0) p1 p2 p3
      have c12q := fun W p1 p2 p3 => circles_check (ofP (rC j c j) (rA j c j)) W (.slice none 0 0) (.slice a2 n2 c2) (.slice none 0 0) p1 p2 p3
      have c11p := fun W p1 => circles_find (ofP (rN j j) []) W (.slice none 0 0) (.slice a1 n1 c1) (.slice none 0 0) p1 HNR.out.chk (by rw [ofP_len]; have := HNR.out.len; omega) ofP_name
      have c11q := fun W p1 => circles_find (ofP (rC j c j) (rA j c j)) W (.slice none 0 0) (.slice a2 n2 c2) (.slice none 0 0) p1 HCR.out.chk (by rw [ofP_len]; have := HCR.out.len; omega) ofP_name
      rw [ck_ring hk0 hk60] at c12p
      rw [ck_cut hk60 hck] at c12q
      rw [fc_ring hk0 hk60] at c11p
      rw [fc_cut hk60 hck] at c11q
      have HC := hid (And.intro c12p (And.intro c12q (And.intro c11p c11q)))
      clear c12p c12q c11p c11q
      have HPS : Hid ((ofP (rN j j) []).st = 1) := hid rfl
      have HQS : Hid ((ofP (rC j c j) (rA j c j)).st = 1) := hid rfl
      have HWL : Hid ((wL j).length ≤ 1048576) := hid (by simp [wL]; omega)
      generalize (ofP (rN j j) []) = P at *
      generalize (ofP (rC j c j) (rA j c j)) = Q at *
      generalize wL j = L at *
      obtain ⟨c12p, c12q, c11p, c11q⟩ := HC.out
      have e1 := HPS.out
      have e2 := HQS.out
      unfold pgV pgC at c12p c12q c11p c11q
      rw [e1] at c12p c11p
      rw [e2] at c12q c11q
      clear e1 e2
      have F := hid (And.intro c12p (And.intro c12q (And.intro c11p c11q)))
      clear c12p c12q c11p c11q HC
      generalize w5.heap.size = k1 at *
      go_wp2_with (fail)
      refine (alive _ X8.out.R X8.out.J).mono ?_
      rintro e w9 ⟨rfl, hb⟩
      have X9 := hid (X8.out.keep hb)
      clear hb X8
      obtain ⟨s0, s1, s2, s3⟩ := row4 X9.out.p1.row
      go_wp2_with (fail)
      refine (F.out.1 _ X9.out.p1.P X9.out.R X9.out.J).mono ?_
      rintro e w10 ⟨rfl, hb⟩
      have X10 := hid (X9.out.keep hb)
      clear hb X9 s0 s1 s2 s3
      obtain ⟨s0, s1, s2, s3⟩ := row4 X10.out.p1.row
      go_wp2_with (fail)
      refine (F.out.2.2.1 _ X10.out.p1.P).mono ?_
      rintro e w11 ⟨fv, rfl, hnl⟩
      have X11 := hid (X10.out.keep hnl.below)
      have T11 := hid hnl.tx
      clear hnl X10 s0 s1 s2 s3
      go_wp2_with (fail)
      refine (same_texts _ _ _ _ T11.out X11.out.tx HWL.out).mono ?_
      rintro e w12 ⟨rfl, hb⟩
      have X12 := hid (X11.out.keep hb)
      clear hb X11 T11
      obtain ⟨s0, s1, s2, s3⟩ := row4 X12.out.p2.row
      go_wp2_with (fail)
      refine (F.out.2.1 _ X12.out.p2.P X12.out.R X12.out.J).mono ?_
      rintro e w13 ⟨rfl, hb⟩
      have X13 := hid (X12.out.keep hb)
      clear hb X12 s0 s1 s2 s3
      obtain ⟨s0, s1, s2, s3⟩ := row4 X13.out.p2.row
      go_wp2_with (fail)
      refine (F.out.2.2.2 _ X13.out.p2.P).mono ?_
      rintro e w14 ⟨fv, rfl, hnl⟩
      have X14 := hid (X13.out.keep hnl.below)
      obtain ⟨fa, fc, rfl⟩ := hnl.shape
      clear hnl X13 s0 s1 s2 s3
      have HB := hid X14.out.below
      go_wp2_with (fail)
      go_ret
      exact ⟨rfl, HB.out⟩
end Go.Proofs.YtjdlmhkfaodkgaaDoor.Lex
