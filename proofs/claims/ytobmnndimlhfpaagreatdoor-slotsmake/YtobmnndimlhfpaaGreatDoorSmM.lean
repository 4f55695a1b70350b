/-
  What SlotsMake holds: what both makes answer; lists put into the book.
-/
import Derived.Test.YtobmnndimlhfpaaGreatDoorTbl
import Derived.Test.YtobmnndimlhfpaaGreatDoorRMk
import Derived.Test.YtobmnndimlhfpaaGreatDoorRFits
import Derived.Test.YtobmnndimlhfpaaGreatDoorLiv
import Derived.Test.YtobmnndimlhfpaaGreatDoorApa
namespace Go.Proofs.YtobmnndimlhfpaaGreatDoor.Slo
set_option linter.unusedVariables false
open Go.ChangeShapes Go.WideShapes Go.ChangeAt Go.RowKit Go.Joins
/-- A row's first elements. -/
theorem own_cut {w : World} {base e sz n g cap : Nat} {xs sp : List Value} (hx : xs.length = n * sz) (h : w.ownsRow base e sz (.slice (some ⟨g, 0, none⟩) (n + 1) cap) (n + 1) (xs ++ sp)) : w.ownsRow base e sz (.slice (some ⟨g, 0, none⟩) n cap) n xs := by
  rcases h.2 with ⟨h1, _⟩ | ⟨g2, c2, cur, h1, h2, h3, h4, h5, h6, h7⟩
  · cases h1
  · cases h1
    refine ⟨hx, .inr ⟨g, cap, cur, rfl, h2, h3, by omega, h5, h6, ?_⟩⟩
    have := congrArg (List.take (n * sz)) h7
    rw [List.take_take, Nat.min_eq_left (Nat.mul_le_mul_right _ (Nat.le_succ n)), ← hx, List.take_left] at this
    rw [← hx]
    exact this
theorem tw_own {w : World} {base : Nat} {v : Value} {r : List Int} (h : TwInt w base v r) : w.ownsRow base 3 1 v r.length (ints r) := by
  obtain ⟨g, cap, rfl, ho⟩ := h
  exact own_cut (by rw [ints_len]; omega) ho
theorem tws_own {w : World} {base : Nat} {v : Value} {l : List Sl} (h : TwSlot w base v l) : w.ownsRow base 64 3 v l.length (slsC l) := by
  obtain ⟨g, cap, rfl, ho⟩ := h
  exact own_cut (slsC_len l) ho
theorem tw_keep {w w2 : World} {base : Nat} {v : Value} {r : List Int} (h : TwInt w base v r) (hb : Below w.heap.size w w2) : TwInt w2 base v r := by
  obtain ⟨g, cap, rfl, ho⟩ := h
  exact ⟨g, cap, rfl, own_carry ho (fun b e => hb.block b (own_lo ho b e).2)⟩
theorem tws_keep {w w2 : World} {base : Nat} {v : Value} {l : List Sl} (h : TwSlot w base v l) (hb : Below w.heap.size w w2) : TwSlot w2 base v l := by
  obtain ⟨g, cap, rfl, ho⟩ := h
  exact ⟨g, cap, rfl, own_carry ho (fun b e => hb.block b (own_lo ho b e).2)⟩
/-- A row of ints of one's own can be read. -/
theorem rd_own {w : World} {base : Nat} {v : Value} {r : List Int} (h : w.ownsRow base 3 1 v r.length (ints r)) (hl : r.length ≤ 1048576) : Rd w w.heap.size v r := by
  rcases h.2 with ⟨h1, h2⟩ | ⟨g, c, cur, h1, _, hrow, hc, hm, hs, ht⟩
  · exact ⟨none, 0, by rw [h1, h2], by omega, by omega, .inl (List.length_eq_zero_iff.1 h2)⟩
  · have hg := (own_lo h g (by rw [h1]; rfl)).2
    refine ⟨_, c, h1, hc, ⟨by simp only [maxLen] at hm; omega, by omega⟩, .inr ⟨g, 0, rfl, hg, fun i hi => ?_⟩⟩
    subst h1
    have h3 : (ints r)[i]? = some (.int .i64 (ga r i)) := by simp [ints, ga, hi]
    have := h.cells (g := g) rfl i _ h3
    rw [show (⟨g, 0, none⟩ : Addr).add i = ⟨g, i, none⟩ by unfold Addr.add; split <;> simp_all] at this
    rw [Nat.zero_add]
    exact this
theorem tb_sls (s : Su) (r : List Int) (g : Int) (h8 : r.length ≤ 8) : tbA s r g = slsC (tgL s r g r.length) := by
  apply List.ext_getElem?
  intro j
  by_cases hj : j < r.length * 3
  · rw [tbA_at s r g hj]
    have hq : j / 3 < r.length := by omega
    have hr : j % 3 < 3 := Nat.mod_lt _ (by decide)
    have he : j / 3 * 3 + j % 3 = j := by omega
    have h1 := slsC_at (tgL s r g r.length) (j / 3) (by rw [tgL_len]; exact hq) (j % 3) hr
    rw [he] at h1
    rw [h1]
    have e : (tgL s r g r.length)[j / 3]'(by rw [tgL_len]; exact hq) = (rdN s r g (j / 3), rdN s r g (j / 3) + g, rdN s r g (j / 3 + 1)) := by simp [tgL]
    rw [e]
    unfold plZ
    rw [if_pos (by omega), if_pos hq]
    rcases (show j % 3 = 0 ∨ j % 3 = 1 ∨ j % 3 = 2 by omega) with h | h | h
    · rw [h, if_pos rfl]; rfl
    · rw [h, if_neg (by decide), if_pos rfl]; rfl
    · rw [h, if_neg (by decide), if_neg (by decide)]; rfl
  · rw [List.getElem?_eq_none (by rw [tbA_len]; omega), List.getElem?_eq_none (by rw [slsC_len, tgL_len]; omega)]
/-- What a make answers, whoever makes. -/
def Ans (s : Su) (r : List Int) (q : Int) (l : List Sl) (R G : Int) : Prop :=
  (mayF s r = false ∧ q = 1 ∧ l = [] ∧ R = 0 ∧ G = 0) ∨ (mayF s r = true ∧ NoG s r ∧ q = 10 ∧ l = [] ∧ R = 0 ∧ G = 0) ∨ (mayF s r = true ∧ Lea s r G ∧ q = 0 ∧ l = tgL s r G r.length ∧ R = RD s r G)
theorem Ans.one {s : Su} {r : List Int} {q q2 : Int} {l l2 : List Sl} {R R2 G G2 : Int} (h : Ans s r q l R G) (h2 : Ans s r q2 l2 R2 G2) : q = q2 ∧ l = l2 ∧ R = R2 ∧ G = G2 := by
  rcases h with ⟨a, b, c, d, e⟩ | ⟨a, f, b, c, d, e⟩ | ⟨a, f, b, c, d⟩ <;> rcases h2 with ⟨a', b', c', d', e'⟩ | ⟨a', f', b', c', d', e'⟩ | ⟨a', f', b', c', d'⟩
  · exact ⟨b.trans b'.symm, c.trans c'.symm, d.trans d'.symm, e.trans e'.symm⟩
  · rw [a] at a'; cases a'
  · rw [a] at a'; cases a'
  · rw [a] at a'; cases a'
  · exact ⟨b.trans b'.symm, c.trans c'.symm, d.trans d'.symm, e.trans e'.symm⟩
  · exact (f _ f'.lo f'.hi f'.fine).elim
  · rw [a] at a'; cases a'
  · exact (f' _ f.lo f.hi f.fine).elim
  · have h1 := f.lb _ f'.lo f'.hi f'.fine
    have h2 := f'.lb _ f.lo f.hi f.fine
    have e : G = G2 := by omega
    subst e
    exact ⟨b.trans b'.symm, c.trans c'.symm, d.trans d'.symm, rfl⟩
theorem Ans.len {s : Su} {r : List Int} {q : Int} {l : List Sl} {R G : Int} (h : Ans s r q l R G) : l.length ≤ 8 := by
  rcases h with ⟨_, _, c, _⟩ | ⟨_, _, _, c, _⟩ | ⟨a, _, _, c, _⟩
  · rw [c]; simp
  · rw [c]; simp
  · rw [c, tgL_len]
    have := (wi_iff.1 (mayF_iff.1 a).2.1).2
    omega
theorem make_ans {W w2 : World} {s : Su} {r : List Int} {e : Ending} (h : MkA W w2 s r e) : ∃ q v l R G, e = .returned (.tuple #[.agg (tbC v R G), .int .i64 q]) ∧ Ans s r q l R G ∧ w2.ownsRow W.heap.size 64 3 v l.length (slsC l) := by
  rcases h with ⟨h, he⟩ | ⟨hm, h, he⟩ | ⟨hm, g, b, hL, hb, he, hrow⟩
  · exact ⟨1, .slice none 0 0, [], 0, 0, he, .inl ⟨h, rfl, rfl, rfl, rfl⟩, rfl, .inl ⟨rfl, rfl⟩⟩
  · exact ⟨10, .slice none 0 0, [], 0, 0, he, .inr (.inl ⟨hm, h, rfl, rfl, rfl, rfl⟩), rfl, .inl ⟨rfl, rfl⟩⟩
  · have h8 : r.length ≤ 8 := by have := (wi_iff.1 (mayF_iff.1 hm).2.1).2; omega
    refine ⟨0, _, tgL s r g r.length, RD s r g, g, he, .inr (.inr ⟨hm, hL, rfl, rfl, rfl⟩), by rw [slsC_len], .inr ⟨b, r.length, _, by rw [tgL_len], hb, hrow, by rw [tgL_len]; exact Nat.le_refl _, by unfold maxLen; omega, by rw [List.size_toArray, tbA_len], ?_⟩⟩
    rw [← tb_sls s r g h8, tgL_len, ← tbA_len s r g]
    exact List.take_length
theorem rmake_ans {W w2 : World} {s : Su} {r : List Int} {e : Ending} (h : RmA W w2 s r e) : ∃ q v l R G, e = .returned (.tuple #[.agg (tbC v R G), .int .i64 q]) ∧ Ans s r q l R G ∧ w2.ownsRow W.heap.size 64 3 v l.length (slsC l) := by
  rcases h with ⟨h, he⟩ | ⟨hm, h, he⟩ | ⟨hm, g, u, hL, he, hrow⟩
  · exact ⟨1, .slice none 0 0, [], 0, 0, he, .inl ⟨h, rfl, rfl, rfl, rfl⟩, rfl, .inl ⟨rfl, rfl⟩⟩
  · exact ⟨10, .slice none 0 0, [], 0, 0, he, .inr (.inl ⟨hm, h, rfl, rfl, rfl, rfl⟩), rfl, .inl ⟨rfl, rfl⟩⟩
  · exact ⟨0, u, tgL s r g r.length, RD s r g, g, he, .inr (.inr ⟨hm, hL, rfl, rfl, rfl⟩), by rw [tgL_len]; exact hrow⟩
set_option maxHeartbeats 2000000 in
theorem ints_keep (bs : Nat) (w : World) (bk : Nat) (C : Array Value) (n : Nat) (vb v : Value) (m : Nat) (E : List En) (hbk : w.heap[bk]? = some (.cells C 59 (0, 0))) (hC0 : C[0]? = some (.int .i64 (n : Int))) (hC : C[2]? = some vb) (hK : IntAt w vb E 0 0) (hn : n < 1000) (hE : E.length < 1000)
    (hv : ∃ xs, w.ownsRow 0 3 1 v m xs) (hap : ∀ (j : Nat) (b : En), E[j]? = some b → ∀ i, b.v.ownBlock = some i → v.ownBlock ≠ some i) (hbs : bs ≤ w.heap.size) (hlo : ∀ i, vb.ownBlock = some i → bs ≤ i) :
    Calls Tryz.prog 18 #[.pointer (some ⟨bk, 0, none⟩), v] w fun e w' => (∃ x, e = .returned x) ∧ ∃ vb', w'.heap[bk]? = some (.cells ((C.setIfInBounds 0 (.int .i64 ((n : Int) + 1))).setIfInBounds 2 vb') 59 (0, 0)) ∧ IntAt w' vb' (E ++ [⟨v, m, .slice none 0 0, n + 1⟩]) 0 0 ∧ Mv w w' (fun i => i = bk ∨ vb.ownBlock = some i) ∧ ∀ i, vb'.ownBlock = some i → bs ≤ i := by
  go_enter Tryz.func18, Tryz.ntmps18
  go_wp2_with (go_at_call 34; refine (keep_Int bs w bk C n vb v m E hbk hC0 hC hK hn hE hv hap hbs hlo).mono ?_; rintro e w' ⟨⟨u, rfl⟩, vb', h1, h2, h3, h4⟩)
  go_end0
  exact ⟨⟨_, rfl⟩, vb', h1, h2, h3, h4⟩
set_option maxHeartbeats 2000000 in
theorem slots_keep (bs : Nat) (w : World) (bk : Nat) (C : Array Value) (n : Nat) (vb v : Value) (m : Nat) (E : List En) (hbk : w.heap[bk]? = some (.cells C 59 (0, 0))) (hC0 : C[0]? = some (.int .i64 (n : Int))) (hC : C[12]? = some vb) (hK : SlotAt w vb E 0 0) (hn : n < 1000) (hE : E.length < 1000)
    (hv : ∃ xs, w.ownsRow 0 64 3 v m xs) (hap : ∀ (j : Nat) (b : En), E[j]? = some b → ∀ i, b.v.ownBlock = some i → v.ownBlock ≠ some i) (hbs : bs ≤ w.heap.size) (hlo : ∀ i, vb.ownBlock = some i → bs ≤ i) :
    Calls Tryz.prog 35 #[.pointer (some ⟨bk, 0, none⟩), v] w fun e w' => (∃ x, e = .returned x) ∧ ∃ vb', w'.heap[bk]? = some (.cells ((C.setIfInBounds 0 (.int .i64 ((n : Int) + 1))).setIfInBounds 12 vb') 59 (0, 0)) ∧ SlotAt w' vb' (E ++ [⟨v, m, .slice none 0 0, n + 1⟩]) 0 0 ∧ Mv w w' (fun i => i = bk ∨ vb.ownBlock = some i) ∧ ∀ i, vb'.ownBlock = some i → bs ≤ i := by
  go_enter Tryz.func35, Tryz.ntmps35
  go_wp2_with (go_at_call 88; refine (keep_Slot bs w bk C n vb v m E hbk hC0 hC hK hn hE hv hap hbs hlo).mono ?_; rintro e w' ⟨⟨u, rfl⟩, vb', h1, h2, h3, h4⟩)
  go_end0
  exact ⟨⟨_, rfl⟩, vb', h1, h2, h3, h4⟩
set_option maxHeartbeats 2000000 in
theorem table_keep (bs : Nat) (w : World) (bk : Nat) (C : Array Value) (n : Nat) (vb v : Value) (R G : Int) (m : Nat) (E : List En) (hbk : w.heap[bk]? = some (.cells C 59 (0, 0))) (hC0 : C[0]? = some (.int .i64 (n : Int))) (hC : C[12]? = some vb) (hK : SlotAt w vb E 0 0) (hn : n < 1000) (hE : E.length < 1000)
    (hv : ∃ xs, w.ownsRow 0 64 3 v m xs) (hap : ∀ (j : Nat) (b : En), E[j]? = some b → ∀ i, b.v.ownBlock = some i → v.ownBlock ≠ some i) (hbs : bs ≤ w.heap.size) (hlo : ∀ i, vb.ownBlock = some i → bs ≤ i) :
    Calls Tryz.prog 19 #[.pointer (some ⟨bk, 0, none⟩), .agg (tbC v R G)] w fun e w' => (∃ x, e = .returned x) ∧ ∃ vb', w'.heap[bk]? = some (.cells ((C.setIfInBounds 0 (.int .i64 ((n : Int) + 1))).setIfInBounds 12 vb') 59 (0, 0)) ∧ SlotAt w' vb' (E ++ [⟨v, m, .slice none 0 0, n + 1⟩]) 0 0 ∧ Mv w w' (fun i => i = bk ∨ vb.ownBlock = some i) ∧ ∀ i, vb'.ownBlock = some i → bs ≤ i := by
  obtain ⟨xs, hx⟩ := hv
  obtain ⟨va, vc, hva⟩ := own_form hx
  subst hva
  have hal := balloc w (.cells (tbC (.slice va m vc) R G) 27)
  have hk := slots_keep bs (w.alloc (.cells (tbC (.slice va m vc) R G) 27)) bk C n vb (.slice va m vc) m E (push_old hbk) hC0 hC (hK.below hal) hn hE ⟨xs, own_carry hx (fun b e => hal.block b (own_lo hx b e).2)⟩ hap (Nat.le_trans hbs hal.size) hlo
  have HAL := hid hal
  clear hal
  go_enter Tryz.func19, Tryz.ntmps19
  go_wp2_with (go_at_call 35; refine hk.mono ?_; rintro e w' ⟨⟨u, rfl⟩, vb', h1, h2, h3, h4⟩)
  go_end0
  exact ⟨⟨_, rfl⟩, vb', h1, h2, (Mv.ofBelow (S := fun i => i = bk ∨ vb.ownBlock = some i) HAL.out).trans h3 (fun i hi => .inl hi), h4⟩
end Go.Proofs.YtobmnndimlhfpaaGreatDoor.Slo
