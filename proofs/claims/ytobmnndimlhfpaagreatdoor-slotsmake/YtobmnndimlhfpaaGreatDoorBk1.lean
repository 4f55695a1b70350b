/-
  Rows that are written over, element by element.
-/
import Derived.Test.YtobmnndimlhfpaaGreatDoorBk0
namespace Go.Proofs.YtobmnndimlhfpaaGreatDoor.Slo
set_option linter.unusedVariables false
open Go.ChangeShapes Go.WideShapes Go.ChangeAt Go.RowKit Go.Joins
theorem own_form {w : World} {lo t c n : Nat} {v : Value} {xs : List Value} (h : w.ownsRow lo t c v n xs) : ∃ a c, v = .slice a n c := by
  rcases h.2 with ⟨h1, h2⟩ | ⟨g, c, cur, h1, _⟩
  · exact ⟨none, 0, by rw [h1, h2]⟩
  · exact ⟨_, _, h1⟩
theorem next_cells (w : World) (l : List Value) (t : TypeId) : ∀ j u, l[j]? = some u → (w.alloc (.cells l.toArray t)).cell? ((⟨w.heap.size, 0, none⟩ : Addr).add j) = some u := by
  intro j u hj
  have hadd : (⟨w.heap.size, 0, none⟩ : Addr).add j = ⟨w.heap.size, j, none⟩ := by unfold Addr.add; split <;> simp_all
  rw [hadd, World.cell?_alloc_at _ _ _ _ rfl]
  simpa using hj
theorem puts_row {t : TypeId} {g : Nat} : ∀ (vs : List Value) (o : Nat) (w : World) (cur : Array Value), w.heap[g]? = some (.cells cur t (0, 0)) → ∃ cur' : Array Value, (w.setCells g o vs).heap[g]? = some (.cells cur' t (0, 0)) ∧ cur'.size = cur.size ∧ (∀ j, j < o → cur'[j]? = cur[j]?) ∧ (o + vs.length ≤ cur.size → ∀ j, j < vs.length → cur'[o + j]? = vs[j]?)
  | [], o, w, cur, h => ⟨cur, h, rfl, fun _ _ => rfl, fun _ j hj => by simp at hj⟩
  | v :: vs, o, w, cur, h => by
    obtain ⟨c2, h1, h2, h3, h4⟩ := puts_row vs (o + 1) (w.setCell ⟨g, o, none⟩ v) (cur.setIfInBounds o v) (heap_setCell_same _ _ _ _ t v h)
    refine ⟨c2, h1, by rw [h2]; simp, fun j hj => ?_, fun hl j hj => ?_⟩
    · rw [h3 j (by omega), Array.getElem?_setIfInBounds_ne (by omega)]
    · have hl' : o + (vs.length + 1) ≤ cur.size := hl
      have hs : (cur.setIfInBounds o v).size = cur.size := by simp
      have hj' : j < vs.length + 1 := hj
      cases j with
      | zero =>
        rw [h3 _ (by omega), Nat.add_zero, Array.getElem?_setIfInBounds_self, if_pos (by omega)]
        rfl
      | succ j =>
        have := h4 (by omega) j (by omega)
        rw [show o + (j + 1) = o + 1 + j by omega, this]
        rfl
theorem puts_other {b g : Nat} (hne : b ≠ g) : ∀ (vs : List Value) (o : Nat) (w : World), (w.setCells g o vs).heap[b]? = w.heap[b]?
  | [], _, _ => rfl
  | _ :: vs, o, _ => (puts_other hne vs (o + 1) _).trans (heap_setCell_other _ _ _ _ hne)
theorem puts_grown (g : Nat) : ∀ (vs : List Value) (o : Nat) (w : World), w.grownBy (w.setCells g o vs) (some g)
  | [], _, w => ⟨rfl, rfl, rfl, Nat.le_refl _, fun _ _ _ => rfl⟩
  | v :: vs, o, w => by
    have h := puts_grown g vs (o + 1) (w.setCell ⟨g, o, none⟩ v)
    refine ⟨h.os, h.tape, h.output, Nat.le_trans (by simp [World.setCell]) h.size, fun k hk hne => ?_⟩
    exact (h.block k (by simpa [World.setCell] using hk) hne).trans (heap_setCell_other _ _ _ _ (fun e => hne (by rw [e])))
theorem grown_below {w w1 w2 : World} {r : Option Nat} (h : w.grownBy w1 r) (hb : Below w1.heap.size w1 w2) : w.grownBy w2 r := ⟨hb.os.trans h.os, hb.tape.trans h.tape, hb.output.trans h.output, Nat.le_trans h.size hb.size, fun k hk hne => (hb.block k (Nat.lt_of_lt_of_le hk h.size)).trans (h.block k hk hne)⟩
theorem grown_grown {w w1 w2 : World} {r : Option Nat} (h : w.grownBy w1 r) (hb : w1.grownBy w2 r) : w.grownBy w2 r := ⟨hb.os.trans h.os, hb.tape.trans h.tape, hb.output.trans h.output, Nat.le_trans h.size hb.size, fun k hk hne => (hb.block k (Nat.lt_of_lt_of_le hk h.size) hne).trans (h.block k hk hne)⟩
/-- A list whose first q elements are marks. -/
def Part (w : World) (e sz : Nat) (v : Value) (m : Nat) (l : List Value) (q : Nat) : Prop :=
  (v = .slice none 0 0 ∧ m = 0) ∨ ∃ g cap cur, v = .slice (some ⟨g, 0, none⟩) m cap ∧ w.heap[g]? = some (.cells cur e (0, 0)) ∧ m ≤ cap ∧ cap ≤ maxLen ∧ cur.size = cap * sz ∧ ∀ i j, i < q → j < sz → cur[i * sz + j]? = l[j]?
theorem Part.start {w : World} {e sz m : Nat} {v : Value} {xs : List Value} (l : List Value) (h : w.ownsRow 0 e sz v m xs) : Part w e sz v m l 0 := by
  rcases h.2 with ⟨h1, h2⟩ | ⟨g, cap, cur, h1, _, h3, h4, h5, h6, _⟩
  · exact .inl ⟨h1, h2⟩
  · exact .inr ⟨g, cap, cur, h1, h3, h4, h5, h6, fun i j hi => by omega⟩
theorem Part.full {w : World} {e sz m : Nat} {v : Value} {l : List Value} (hl : l.length = sz) (hsz : 0 < sz) (h : Part w e sz v m l m) : w.ownsRow 0 e sz v m (rep m l) := by
  refine ⟨by rw [rep_len, hl], ?_⟩
  rcases h with ⟨h1, h2⟩ | ⟨g, cap, cur, h1, h3, h4, h5, h6, h7⟩
  · exact .inl ⟨h1, h2⟩
  · refine .inr ⟨g, cap, cur, h1, Nat.zero_le _, h3, h4, h5, h6, ?_⟩
    apply List.ext_getElem?
    intro k
    by_cases hk : k < m * sz
    · rw [List.getElem?_take_of_lt hk]
      have hq : k / sz < m := (Nat.div_lt_iff_lt_mul hsz).2 hk
      have hr : k % sz < sz := Nat.mod_lt _ hsz
      have he : k / sz * sz + k % sz = k := by rw [Nat.mul_comm]; exact Nat.div_add_mod k sz
      have h8 := h7 (k / sz) (k % sz) hq hr
      have h9 := rep_at l (j := k % sz) (by omega) m (k / sz) hq
      rw [hl, he] at h9
      rw [he] at h8
      rw [h9, ← h8]
      simp
    · rw [List.getElem?_eq_none (by rw [List.length_take]; omega), List.getElem?_eq_none (by rw [rep_len, hl]; omega)]
theorem Part.carry {w w' : World} {e sz m q : Nat} {v : Value} {l : List Value} (h : Part w e sz v m l q) (hb : ∀ g, v.ownBlock = some g → w'.heap[g]? = w.heap[g]?) : Part w' e sz v m l q := by
  rcases h with h | ⟨g, cap, cur, h1, h3, h4⟩
  · exact .inl h
  · exact .inr ⟨g, cap, cur, h1, (hb g (by rw [h1]; rfl)).trans h3, h4⟩
theorem Part.put {w : World} {e sz m q o g cap : Nat} {l : List Value} (h : Part w e sz (.slice (some ⟨g, 0, none⟩) m cap) m l q) (hl : l.length = sz) (hq : q < m) (ho : o = q * sz) : Part (w.setCells g o l) e sz (.slice (some ⟨g, 0, none⟩) m cap) m l (q + 1) := by
  rcases h with ⟨h1, _⟩ | ⟨g', cap', cur, h1, h3, h4, h5, h6, h7⟩
  · cases h1
  · cases h1
    obtain ⟨c2, k1, k2, k3, k4⟩ := puts_row l o w cur h3
    have hle : o + l.length ≤ cur.size := by
      have := Nat.mul_le_mul_right sz (show q + 1 ≤ cap by omega)
      rw [Nat.add_mul] at this
      rw [hl, h6, ho]
      omega
    refine .inr ⟨g, cap, c2, rfl, k1, h4, h5, by rw [k2, h6], fun i j hi hj => ?_⟩
    by_cases e2 : i = q
    · subst e2
      rw [← ho, k4 hle j (by omega)]
    · rw [k3 _ (by
        have := Nat.mul_le_mul_right sz (show i + 1 ≤ q by omega)
        rw [Nat.add_mul] at this
        omega), h7 i j (by omega) hj]
/-- A cell of an element that is there. -/
theorem Part.cell {w : World} {e sz m q g cap : Nat} {l : List Value} (h : Part w e sz (.slice (some ⟨g, 0, none⟩) m cap) m l q) {k : Nat} (hk : k < m * sz) : (∃ u, w.cell? ⟨g, k, none⟩ = some u) ∧ w.frozen? ⟨g, k, none⟩ = false := by
  rcases h with ⟨h1, _⟩ | ⟨g', cap', cur, h1, h3, h4, h5, h6, h7⟩
  · cases h1
  · cases h1
    have := Nat.mul_le_mul_right sz h4
    exact ⟨⟨cur[k]'(by omega), by rw [cell_of_row _ _ _ _ e (0, 0) h3, Array.getElem?_eq_getElem (by omega)]⟩, frozen_of_row _ _ _ _ e h3⟩
/-- The slice that a list is. -/
theorem Part.form {w : World} {e sz m q : Nat} {v : Value} {l : List Value} (h : Part w e sz v m l q) : (v = .slice none 0 0 ∧ m = 0) ∨ ∃ g cap, v = .slice (some ⟨g, 0, none⟩) m cap := by
  rcases h with h | ⟨g, cap, cur, h1, _⟩
  · exact .inl h
  · exact .inr ⟨g, cap, h1⟩
/-- The cells of a held list. -/
theorem held_cells {w : World} {th gb cb i : Nat} {E : List En} {a : En} (h : w.ownsRow 0 th 3 (.slice (some ⟨gb, 0, none⟩) E.length cb) E.length (heldC E)) (ha : E[i]? = some a) : w.cell? ⟨gb, i * 3, none⟩ = some a.v ∧ w.cell? ⟨gb, i * 3 + 1, none⟩ = some a.x ∧ w.cell? ⟨gb, i * 3 + 2, none⟩ = some (.int .i64 (a.k : Int)) := by
  have key : ∀ j u, (heldC E)[j]? = some u → w.cell? ⟨gb, j, none⟩ = some u := fun j u hu => by
    have := h.cells (g := gb) rfl j u hu
    rwa [show (⟨gb, 0, none⟩ : Addr).add j = ⟨gb, j, none⟩ by unfold Addr.add; split <;> simp_all] at this
  obtain ⟨h1, h2, h3⟩ := heldC_get E i a ha
  exact ⟨key _ _ h1, key _ _ h2, key _ _ h3⟩
end Go.Proofs.YtobmnndimlhfpaaGreatDoor.Slo
