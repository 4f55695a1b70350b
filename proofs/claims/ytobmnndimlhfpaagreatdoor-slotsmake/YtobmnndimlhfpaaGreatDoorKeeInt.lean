/-
  keepInt: one list more is held.
-/
import Derived.Test.YtobmnndimlhfpaaGreatDoorBk2
import Derived.Test.YtobmnndimlhfpaaGreatDoorFilInt
import Derived.Deep.RegionLaw
import Derived.Deep.AppendLies
namespace Go.Proofs.YtobmnndimlhfpaaGreatDoor.Slo
set_option linter.unusedVariables false
open Go.ChangeShapes Go.WideShapes Go.ChangeAt Go.RowKit Go.Joins
theorem inh_Int : (Tryz.prog.info? 84).map (fun i => (i.zero, i.size, i.bytes)) = some (some (.agg #[.slice none 0 0, .slice none 0 0, .int .i64 0]), 3, 56) := by kernel_rfl
theorem own_upInt {w : World} {bs e sz n : Nat} {v : Value} {xs : List Value} (h : w.ownsRow 0 e sz v n xs) (hlo : ∀ i, v.ownBlock = some i → bs ≤ i) : w.ownsRow bs e sz v n xs := by
  rcases h.2 with h2 | ⟨g, c, cur, h2, _, h3⟩
  · exact ⟨h.1, .inl h2⟩
  · exact ⟨h.1, .inr ⟨g, c, cur, h2, hlo g (by rw [h2]; rfl), h3⟩⟩
/-- Behind the append, ahead of the store into the book. -/
theorem keep_midInt {W1 w2 : World} {o : Obj} {x : Option Nat} {bk : Nat} {C : Array Value} {t : TypeId} (hg : (W1.alloc o).drew.grownBy w2 x) (hno : some bk ≠ x) (h : W1.heap[bk]? = some (.cells C t (0, 0))) : Hid (w2.heap[bk]? = some (.cells C t (0, 0))) ∧ (∀ i u, C[i]? = some u → w2.cell? ⟨bk, i, none⟩ = some u) ∧ ∀ i, w2.frozen? ⟨bk, i, none⟩ = false := by
  have hl := (Array.getElem?_eq_some_iff.1 h).1
  have h2 : w2.heap[bk]? = some (.cells C t (0, 0)) := (hg.block bk (by show bk < (W1.alloc o).heap.size; rw [World.size_alloc]; omega) hno).trans ((Below.heap_alloc _ _ _ hl).trans h)
  exact ⟨h2, fun i u hu => (cell_of_row _ _ _ _ t (0, 0) h2).trans hu, fun i => frozen_of_row _ _ _ _ t h2⟩
theorem keep_endInt {w W1 w2 : World} {o : Obj} {bk n m gg cap bc : Nat} {ba : Option Addr} {C D : Array Value} {v : Value} {E : List En} {xs0 : List Value} (hbt : (59 : Nat) ≠ 3 ∧ (59 : Nat) ≠ 84) (hK : IntAt w (.slice ba E.length bc) E 0 0) (hbk : w.heap[bk]? = some (.cells C 59 (0, 0))) (hx : w.ownsRow 0 3 1 v m xs0)
    (hap : ∀ (j : Nat) (b : En), E[j]? = some b → ∀ i, b.v.ownBlock = some i → v.ownBlock ≠ some i) (hm1 : Mv w W1 (fun i => i = bk ∨ (Value.slice ba E.length bc).ownBlock = some i)) (hg : (W1.alloc o).drew.grownBy w2 (Value.slice ba E.length bc).ownBlock) (h2 : w2.heap[bk]? = some (.cells D 59 (0, 0)))
    (ho : w2.ownsRow 0 84 3 (.slice (some ⟨gg, 0, none⟩) (E.length + 1) cap) (E.length + 1) (heldC E ++ [v, .slice none 0 0, .int .i64 ((n : Int) + 1)])) (hno : some bk ≠ (Value.slice ba E.length bc).ownBlock) :
    (w2.setCell ⟨bk, 2, none⟩ (.slice (some ⟨gg, 0, none⟩) (E.length + 1) cap)).heap[bk]? = some (.cells (D.setIfInBounds 2 (.slice (some ⟨gg, 0, none⟩) (E.length + 1) cap)) 59 (0, 0)) ∧
    IntAt (w2.setCell ⟨bk, 2, none⟩ (.slice (some ⟨gg, 0, none⟩) (E.length + 1) cap)) (.slice (some ⟨gg, 0, none⟩) (E.length + 1) cap) (E ++ [⟨v, m, .slice none 0 0, n + 1⟩]) 0 0 ∧ Mv w (w2.setCell ⟨bk, 2, none⟩ (.slice (some ⟨gg, 0, none⟩) (E.length + 1) cap)) (fun i => i = bk ∨ (Value.slice ba E.length bc).ownBlock = some i) := by
  have hm2 : Mv w w2 (fun i => i = bk ∨ (Value.slice ba E.length bc).ownBlock = some i) := hm1.trans ((Mv.ofBelow (S := fun i => (Value.slice ba E.length bc).ownBlock = some i) ((balloc W1 o).drew)).trans (Mv.grown (S := fun i => (Value.slice ba E.length bc).ownBlock = some i) hg (fun i hi => .inl hi)) (fun i hi => .inl hi)) (fun i hi => .inl (.inr hi))
  have hm3 : Mv w (w2.setCell ⟨bk, 2, none⟩ (.slice (some ⟨gg, 0, none⟩) (E.length + 1) cap)) (fun i => i = bk ∨ (Value.slice ba E.length bc).ownBlock = some i) := hm2.trans (mv_cell _ _ _) (fun i hi => .inl (.inl hi))
  have ho3 : (w2.setCell ⟨bk, 2, none⟩ (.slice (some ⟨gg, 0, none⟩) (E.length + 1) cap)).ownsRow 0 84 3 (.slice (some ⟨gg, 0, none⟩) (E.length + 1) cap) (E.length + 1) (heldC E ++ [v, .slice none 0 0, .int .i64 ((n : Int) + 1)]) := own_carry ho (fun b hb => heap_setCell_other _ _ _ _ (fun e => by
    have e' : b = bk := e
    obtain ⟨c2, h3⟩ := own_type ho hb
    rw [e', h2] at h3
    injection h3 with h3
    injection h3 with _ h3 _
    exact hbt.2 h3))
  exact ⟨heap_setCell_same _ _ _ _ 59 _ h2, hK.more (by decide) hbt.1 hbk ⟨xs0, hx⟩ hap hm3 ho3, hm3⟩
set_option maxRecDepth 100000 in
set_option maxHeartbeats 4000000 in
theorem keep_Int (bs : Nat) (w : World) (bk : Nat) (C : Array Value) (n : Nat) (vb v : Value) (m : Nat) (E : List En) (hbk : w.heap[bk]? = some (.cells C 59 (0, 0))) (hC0 : C[0]? = some (.int .i64 (n : Int))) (hC : C[2]? = some vb) (hK : IntAt w vb E 0 0) (hn : n < 1000) (hE : E.length < 1000)
    (hv : ∃ xs, w.ownsRow 0 3 1 v m xs) (hap : ∀ (j : Nat) (b : En), E[j]? = some b → ∀ i, b.v.ownBlock = some i → v.ownBlock ≠ some i) (hbs : bs ≤ w.heap.size) (hlo : ∀ i, vb.ownBlock = some i → bs ≤ i) :
    Calls Tryz.prog 34 #[.pointer (some ⟨bk, 0, none⟩), v] w fun e w' => (∃ x, e = .returned x) ∧ ∃ vb', w'.heap[bk]? = some (.cells ((C.setIfInBounds 0 (.int .i64 ((n : Int) + 1))).setIfInBounds 2 vb') 59 (0, 0)) ∧ IntAt w' vb' (E ++ [⟨v, m, .slice none 0 0, n + 1⟩]) 0 0 ∧ Mv w w' (fun i => i = bk ∨ vb.ownBlock = some i) ∧ ∀ i, vb'.ownBlock = some i → bs ≤ i := by
  obtain ⟨i0, hi, hz0, hz1, hz2⟩ := info_parts inh_Int
  obtain ⟨xs0, hx0⟩ := hv
  obtain ⟨va, vc, hva⟩ := own_form hx0
  obtain ⟨ba, bc, hvb⟩ := own_form hK.row
  subst hva hvb
  have hno : some bk ≠ (Value.slice ba E.length bc).ownBlock := fun e => by
    obtain ⟨c2, h2⟩ := own_type hK.row e.symm
    rw [hbk] at h2
    injection h2 with h2
    injection h2 with _ h2 _
    exact absurd h2 (by decide)
  have hc0 : w.cell? ⟨bk, 0, none⟩ = some (.int .i64 (n : Int)) := (cell_of_row _ _ _ _ 59 (0, 0) hbk).trans hC0
  have hf0 : w.frozen? ⟨bk, 0, none⟩ = false := frozen_of_row _ _ _ _ 59 hbk
  have hni : (n : Int) < 1000 := by omega
  have hw : IntKind.i64.wrap ((n : Int) + 1) = (n : Int) + 1 := by rw [IntKind.wrap_i64]; omega
  have hsz : 2 < C.size := (Array.getElem?_eq_some_iff.1 hC).1
  go_enter Tryz.func34, Tryz.ntmps34
  go_wp2
  have hr1 : (w.setCell ⟨bk, 0, none⟩ (.int .i64 ((n : Int) + 1))).heap[bk]? = some (.cells (C.setIfInBounds 0 (.int .i64 ((n : Int) + 1))) 59 (0, 0)) := heap_setCell_same _ _ _ _ 59 _ hbk
  have hm1 : Mv w (w.setCell ⟨bk, 0, none⟩ (.int .i64 ((n : Int) + 1))) (fun i => i = bk ∨ (Value.slice ba E.length bc).ownBlock = some i) := (mv_cell w ⟨bk, 0, none⟩ _).mono (fun i hi => .inl (.inl hi))
  have ho1 : (w.setCell ⟨bk, 0, none⟩ (.int .i64 ((n : Int) + 1))).ownsRow bs 84 3 (.slice ba E.length bc) E.length (heldC E) := own_carry (own_upInt hK.row hlo) (fun b hb => heap_setCell_other _ _ _ _ (fun e => hno (by rw [hb]; exact congrArg some e.symm)))
  have hd0 : (C.setIfInBounds 0 (.int .i64 ((n : Int) + 1)))[0]? = some (.int .i64 ((n : Int) + 1)) := by rw [Array.getElem?_setIfInBounds_self, if_pos (show 0 < C.size by omega)]
  have hd1 : (C.setIfInBounds 0 (.int .i64 ((n : Int) + 1)))[2]? = some (.slice ba E.length bc) := by rw [Array.getElem?_setIfInBounds_ne (by decide)]; exact hC
  have hbs1 : bs ≤ (w.setCell ⟨bk, 0, none⟩ (.int .i64 ((n : Int) + 1))).heap.size := by simpa [World.setCell] using hbs
  generalize hD : C.setIfInBounds 0 (.int .i64 ((n : Int) + 1)) = D at *
  generalize w.setCell ⟨bk, 0, none⟩ (.int .i64 ((n : Int) + 1)) = W1 at hr1 hm1 ho1 hbs1 ⊢
  have lb : bk < W1.heap.size := (Array.getElem?_eq_some_iff.1 hr1).1
  have hw0 : W1.cell? ⟨bk, 0, none⟩ = some (.int .i64 ((n : Int) + 1)) := (cell_of_row _ _ _ _ 59 (0, 0) hr1).trans hd0
  have hw1 : W1.cell? ⟨bk, 2, none⟩ = some (.slice ba E.length bc) := (cell_of_row _ _ _ _ 59 (0, 0) hr1).trans hd1
  have hf1 : W1.frozen? ⟨bk, 2, none⟩ = false := frozen_of_row _ _ _ _ 59 hr1
  have hbt : (59 : Nat) ≠ 3 ∧ (59 : Nat) ≠ 84 := by decide
  have Hr1 := hid hr1
  have HK := hid hK
  have HX := hid hx0
  have HAP := hid hap
  have HBK := hid hbk
  have Hd := hid (And.intro hd0 hd1)
  have HM1 := hid hm1
  have HDD := hid hD
  clear hr1 hc0 hf0 hK hx0 hap hbk hd0 hd1 hm1 hC hC0 hD
  go_region_law ((refine step_append_lies _ (by rfl) _ _ _ (by rfl) bs 84 i0 _ 3 56 Tryz.underlying42 hi hz0 hz1 hz2 rfl (by omega) (.slice ba E.length bc) E.length (heldC E) (by rfl) ((ho1.alloc _).drew) ⟨W1.heap.size, 0, none⟩ 1 1 [.slice va m vc, .slice none 0 0, .int .i64 ((n : Int) + 1)] (by rfl) (by rfl) (World.news_of_block (cs := #[.slice va m vc, .slice none 0 0, .int .i64 ((n : Int) + 1)]) (t := 84) (fr := (0, 0)) (heap_alloc_new W1 _)) (by simp [Value.oneCell']) (by omega) (by unfold maxLen; omega) (by omega) (by show bs ≤ (W1.alloc _).heap.size; rw [World.size_alloc]; omega) (W1.heap.size + 1) (by simp) ?_; intro gg cap w2 hown2 hgrow hat hlt; obtain ⟨Hr2, hcs, hfs⟩ := keep_midInt hgrow hno Hr1.out; have hc20 := hcs 0 _ Hd.out.1; have hc2 := hcs 2 _ Hd.out.2; have hf2 := hfs 2))
  all_goals (
    go_end0
    obtain ⟨h1, h2, h3⟩ := keep_endInt hbt HK.out HBK.out HX.out HAP.out HM1.out hgrow Hr2.out (ownsRow_mono hown2 (Nat.zero_le _)) hno
    exact ⟨⟨_, rfl⟩, _, by rw [HDD.out]; exact h1, h2, h3, fun i hi => (own_lo hown2 i hi).1⟩)
end Go.Proofs.YtobmnndimlhfpaaGreatDoor.Slo
