/-
  A list's longer copy, while it grows.
-/
import Derived.Test.YtobmnndimlhfpaaGreatDoorBk1
namespace Go.Proofs.YtobmnndimlhfpaaGreatDoor.Slo
set_option linter.unusedVariables false
open Go.ChangeShapes Go.WideShapes Go.ChangeAt Go.RowKit Go.Joins
theorem cell_bel {w w' : World} {a : Addr} {v : Value} (hb : Below w.heap.size w w') (h : w.cell? a = some v) : w'.cell? a = some v := (hb.cell (World.block_lt_of_cell? w a h)).trans h
theorem rep_cell {w : World} {e sz n g cap i j : Nat} {l : List Value} (h : w.ownsRow 0 e sz (.slice (some ⟨g, 0, none⟩) n cap) n (rep n l)) (hl : l.length = sz) (hi : i < n) (hj : j < sz) : w.cell? ⟨g, i * sz + j, none⟩ = l[j]? := by
  have h2 := rep_at l (j := j) (by omega) n i hi
  rw [hl] at h2
  have h3 : (rep n l)[i * sz + j]? = some (l[j]'(by omega)) := by rw [h2, List.getElem?_eq_getElem]
  have := h.cells (g := g) rfl _ _ h3
  rw [show (⟨g, 0, none⟩ : Addr).add (i * sz + j) = ⟨g, i * sz + j, none⟩ by unfold Addr.add; split <;> simp_all] at this
  rw [this, List.getElem?_eq_getElem]
/-- One list more. -/
theorem KAt.more {w w' : World} {th e sz bk m k : Nat} {mk : Nat → List Value} {vb vb' v : Value} {E : List En} {C : Array Value} {t : TypeId} (h : KAt w th e sz mk vb E 0 0) (hte : th ≠ e) (htb : t ≠ e) (hbk : w.heap[bk]? = some (.cells C t (0, 0))) (hv : ∃ xs, w.ownsRow 0 e sz v m xs)
    (hap : ∀ (j : Nat) (b : En), E[j]? = some b → ∀ i, b.v.ownBlock = some i → v.ownBlock ≠ some i) (hm : Mv w w' (fun i => i = bk ∨ vb.ownBlock = some i)) (ho : w'.ownsRow 0 th 3 vb' (E.length + 1) (heldC E ++ enC ⟨v, m, .slice none 0 0, k⟩)) :
    KAt w' th e sz mk vb' (E ++ [⟨v, m, .slice none 0 0, k⟩]) 0 0 := by
  have k1 : ∀ {u : Value} {n : Nat} {xs : List Value}, w.ownsRow 0 e sz u n xs → w'.ownsRow 0 e sz u n xs := fun {u n xs} hr => own_moved hr hm (fun b hb hS => by
    obtain ⟨c1, h1⟩ := own_type hr hb
    rcases hS with rfl | hS
    · rw [hbk] at h1
      injection h1 with h1
      injection h1 with _ h1 _
      exact htb h1
    · obtain ⟨c2, h2⟩ := own_type h.row hS
      rw [h1] at h2
      injection h2 with h2
      injection h2 with _ h2 _
      exact hte h2.symm)
  have hget : ∀ (j : Nat) (b : En), (E ++ [⟨v, m, .slice none 0 0, k⟩])[j]? = some b → (j = E.length ∧ b = ⟨v, m, .slice none 0 0, k⟩) ∨ (j < E.length ∧ E[j]? = some b) := fun j b hb => by
    by_cases hj : j < E.length
    · rw [List.getElem?_append_left hj] at hb
      exact .inr ⟨hj, hb⟩
    · rw [List.getElem?_append_right (by omega)] at hb
      have hl := (List.getElem?_eq_some_iff.1 hb).1
      have e2 : j - E.length = 0 := by simp at hl; omega
      rw [e2] at hb
      exact .inl ⟨by omega, by simpa using hb.symm⟩
  refine ⟨?_, fun j b hb => ?_, fun i j a b ha hb hij q hq => ?_, fun j b _ hj => by omega, fun j b _ hj => by omega, fun i j a b _ _ hi => by omega, fun j b hb => ?_⟩
  · rw [heldC_app, List.length_append]
    exact ho
  · rcases hget j b hb with ⟨_, rfl⟩ | ⟨_, hb⟩
    · exact hv.imp fun _ => k1
    · exact (h.own j b hb).imp fun _ => k1
  · rcases hget i a ha with ⟨h1, rfl⟩ | ⟨h1, ha⟩ <;> rcases hget j b hb with ⟨h2, rfl⟩ | ⟨h2, hb⟩
    · omega
    · intro e2
      exact hap j b hb q e2 hq
    · exact hap i a ha q hq
    · exact h.apart i j a b ha hb hij q hq
  · rcases hget j b hb with ⟨_, rfl⟩ | ⟨_, hb⟩
    · exact ⟨_, _, _, rfl⟩
    · exact h.sl j b hb
/-- What an operation on one kind may turn has that kind's types. -/
theorem KAt.typed {w : World} {th e sz f g : Nat} {mk : Nat → List Value} {vb : Value} {E : List En} (h : KAt w th e sz mk vb E f g) {i : Nat} (hi : KB E i ∨ vb.ownBlock = some i) : ∃ cur, w.heap[i]? = some (.cells cur th (0, 0)) ∨ w.heap[i]? = some (.cells cur e (0, 0)) := by
  rcases hi with ⟨j, a, ha, hb⟩ | hb
  · obtain ⟨xs, hx⟩ := h.own j a ha
    obtain ⟨c, hc⟩ := own_type hx hb
    exact ⟨c, .inr hc⟩
  · obtain ⟨c, hc⟩ := own_type h.row hb
    exact ⟨c, .inl hc⟩
theorem ty_ne {w : World} {i s t : Nat} {c d : Array Value} (h : w.heap[i]? = some (.cells c s (0, 0))) (hst : s ≠ t) : w.heap[i]? ≠ some (.cells d t (0, 0)) := fun h2 => by
  rw [h] at h2
  injection h2 with h2
  injection h2 with _ h2 _
  exact hst h2
/-- Another kind stays as it is. -/
theorem KAt.side {w w' : World} {th e sz f g th2 e2 sz2 f2 g2 : Nat} {mk mk2 : Nat → List Value} {vb vb2 : Value} {E E2 : List En} (h : KAt w th e sz mk vb E f g) (h2 : KAt w th2 e2 sz2 mk2 vb2 E2 f2 g2) (hne : th2 ≠ th ∧ th2 ≠ e ∧ e2 ≠ th ∧ e2 ≠ e) (hm : Mv w w' (fun i => KB E2 i ∨ vb2.ownBlock = some i)) : KAt w' th e sz mk vb E f g :=
  h.moved hm (fun i hi cur => by
    obtain ⟨c, hc | hc⟩ := h2.typed hi
    · exact ⟨ty_ne hc hne.1, ty_ne hc hne.2.1⟩
    · exact ⟨ty_ne hc hne.2.2.1, ty_ne hc hne.2.2.2⟩)
/-- The book's own cells stay as they are. -/
theorem KAt.bookKept {w w' : World} {th2 e2 sz2 f2 g2 bk t : Nat} {C : Array Value} {mk2 : Nat → List Value} {vb2 : Value} {E2 : List En} (h2 : KAt w th2 e2 sz2 mk2 vb2 E2 f2 g2) (hbk : w.heap[bk]? = some (.cells C t (0, 0))) (hne : th2 ≠ t ∧ e2 ≠ t) (hm : Mv w w' (fun i => KB E2 i ∨ vb2.ownBlock = some i)) : w'.heap[bk]? = some (.cells C t (0, 0)) :=
  hm.cellsRow hbk (fun hi => by
    obtain ⟨c, hc | hc⟩ := h2.typed hi
    · exact ty_ne hc hne.1 hbk
    · exact ty_ne hc hne.2 hbk)
/-- The same lists, whatever their longer copies. -/
def Same (E E1 : List En) : Prop := E1.length = E.length ∧ ∀ (i : Nat) (a : En), E1[i]? = some a → ∃ b, E[i]? = some b ∧ b.v = a.v ∧ b.m = a.m ∧ b.k = a.k
theorem Same.refl (E : List En) : Same E E := ⟨rfl, fun i a h => ⟨a, h, rfl, rfl, rfl⟩⟩
theorem Same.set {E E1 : List En} (h : Same E E1) {j : Nat} {a : En} (ha : E1[j]? = some a) (x : Value) : Same E (E1.set j ⟨a.v, a.m, x, a.k⟩) := by
  refine ⟨by rw [List.length_set]; exact h.1, fun i b hb => ?_⟩
  have hj : j < E1.length := (List.getElem?_eq_some_iff.1 ha).1
  by_cases e2 : i = j
  · subst e2
    rw [List.getElem?_set_self hj] at hb
    injection hb with hb
    subst hb
    obtain ⟨c, h1, h2, h3, h4⟩ := h.2 i a ha
    exact ⟨c, h1, h2, h3, h4⟩
  · rw [List.getElem?_set_ne (fun e3 => e2 e3.symm)] at hb
    exact h.2 i b hb
/-- The longer copy with q marks more. -/
structure Gi (W1 w : World) (e sz : Nat) (l : List Value) (v : Value) (m : Nat) (L : Value) (q : Nat) : Prop where
  own : w.ownsRow 0 e sz L (m + q) (rep (m + q) l)
  full : w.ownsRow 0 e sz v m (rep m l)
  mv : Mv W1 w (fun i => v.ownBlock = some i)
  old : ∀ k, v.ownBlock = some k → k < W1.heap.size
  place : (∃ ao cap, v = .slice ao m cap ∧ L = .slice ao (m + q) cap) ∨ ∀ k, L.ownBlock = some k → W1.heap.size ≤ k
theorem Gi.keep {W1 w w2 : World} {e sz : Nat} {l : List Value} {v : Value} {m : Nat} {L : Value} {q : Nat} (h : Gi W1 w e sz l v m L q) (hb : Below w.heap.size w w2) : Gi W1 w2 e sz l v m L q :=
  ⟨own_carry h.own (fun k hk => hb.block k (own_lo h.own k hk).2), own_carry h.full (fun k hk => hb.block k (own_lo h.full k hk).2), h.mv.trans (Mv.ofBelow (S := fun _ => False) hb) (fun i hi => hi.elim), h.old, h.place⟩
theorem own_prefix {w : World} {e sz m n g cap : Nat} {l : List Value} (hl : l.length = sz) (hm : m ≤ n) (h : w.ownsRow 0 e sz (.slice (some ⟨g, 0, none⟩) n cap) n (rep n l)) : w.ownsRow 0 e sz (.slice (some ⟨g, 0, none⟩) m cap) m (rep m l) := by
  rcases h.2 with ⟨h1, _⟩ | ⟨g2, c2, cur, h1, _, h3, h4, h5, h6, h7⟩
  · cases h1
  · cases h1
    refine ⟨by rw [rep_len, hl], .inr ⟨g, cap, cur, rfl, Nat.zero_le _, h3, by omega, h5, h6, ?_⟩⟩
    have := congrArg (List.take (m * sz)) h7
    rw [List.take_take, Nat.min_eq_left (Nat.mul_le_mul_right _ hm)] at this
    rw [this]
    obtain ⟨d, rfl⟩ : ∃ d, n = m + d := ⟨n - m, by omega⟩
    rw [← hl]
    exact rep_take l m d
theorem Gi.step {W1 w w' : World} {e sz : Nat} {l : List Value} {v : Value} {m : Nat} {L v' : Value} {q : Nat} (hl : l.length = sz) (h : Gi W1 w e sz l v m L q) (ho : w'.ownsRow 0 e sz v' (m + q + 1) (rep (m + q) l ++ l))
    (hc : (∃ g cap, L = .slice (some ⟨g, 0, none⟩) (m + q) cap ∧ v' = .slice (some ⟨g, 0, none⟩) (m + q + 1) cap ∧ w.grownBy w' (some g)) ∨ (v'.ownBlock = some w.heap.size ∧ w.grownBy w' none)) : Gi W1 w' e sz l v m v' (q + 1) := by
  rw [← rep_succ] at ho
  have hws := h.mv.size
  rcases hc with ⟨g, cap, hL, hv', hg⟩ | ⟨hnb, hg⟩
  · rcases h.place with ⟨ao, c2, hv, hL2⟩ | hfar
    · rw [hL] at hL2
      injection hL2 with e1 _ e3
      subst e1 e3
      refine ⟨ho, ?_, h.mv.trans (Mv.grown (S := fun i => v.ownBlock = some i) hg (fun i hi => .inl (by rw [hv]; exact hi))) (fun i hi => .inl hi), h.old, .inl ⟨some ⟨g, 0, none⟩, cap, hv, hv'⟩⟩
      rw [hv]
      rw [hv'] at ho
      exact own_prefix hl (by omega) ho
    · have hgn : W1.heap.size ≤ g := hfar g (by rw [hL]; rfl)
      refine ⟨ho, own_carry h.full (fun k hk => hg.block k (own_lo h.full k hk).2 (fun e2 => by have := h.old k hk; have : k = g := Option.some.inj e2; omega)), h.mv.trans (Mv.grown (S := fun i => W1.heap.size ≤ i) hg (fun i hi => .inl (by injection hi with hi; omega))) (fun i hi => .inr hi), h.old, .inr (fun k hk => ?_)⟩
      rw [hv'] at hk
      have : g = k := Option.some.inj hk
      omega
  · refine ⟨ho, own_carry h.full (fun k hk => hg.block k (own_lo h.full k hk).2 (fun e2 => by cases e2)), h.mv.trans (Mv.grown (S := fun _ => False) hg (fun i hi => by cases hi)) (fun i hi => hi.elim), h.old, .inr (fun k hk => ?_)⟩
    rw [hnb] at hk
    have : w.heap.size = k := Option.some.inj hk
    omega
end Go.Proofs.YtobmnndimlhfpaaGreatDoor.Slo
