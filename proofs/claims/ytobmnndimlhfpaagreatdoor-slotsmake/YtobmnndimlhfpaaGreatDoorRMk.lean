/-
  The document's own Make.
-/
import Derived.Test.YtobmnndimlhfpaaGreatDoorRTab
import Derived.Test.YtobmnndimlhfpaaGreatDoorMake
namespace Go.Proofs.YtobmnndimlhfpaaGreatDoor.Slo
open Go.ChangeShapes Go.WideShapes Go.ChangeAt Go.RowKit Go.Joins
/-- What the document's Make answers. -/
def RmA (W w2 : World) (s : Su) (r : List Int) (e : Ending) : Prop :=
  (mayF s r = false ∧ e = .returned (.tuple #[.agg tC0, .int .i64 1])) ∨ (mayF s r = true ∧ NoG s r ∧ e = .returned (.tuple #[.agg tC0, .int .i64 10])) ∨
  (mayF s r = true ∧ ∃ g u, Lea s r g ∧ e = .returned (.tuple #[.agg (tbC u (RD s r g) g), .int .i64 0]) ∧ w2.ownsRow W.heap.size 64 3 u r.length (slsC (tgL s r g r.length)))
/-- What is there in a round. -/
structure RmI (W wr : World) (s : Su) : Prop where
  box : wr.heap[W.heap.size]? = some (.cells (suC s) 23 (0, 0))
  res : wr.heap[W.heap.size + 1]? = some (.cells tC0 27 (0, 0))
  below : Below W.heap.size W wr
theorem RmI.keep {W wr w2 : World} {s : Su} (h : RmI W wr s) (hb : Below wr.heap.size wr w2) : RmI W w2 s := ⟨keep_row h.box hb, keep_row h.res hb, h.below.trans (hb.mono h.below.size)⟩
set_option maxRecDepth 100000 in
set_option maxHeartbeats 8000000 in
theorem rmake_at (W : World) (s : Su) (v : Value) (r : List Int) (h : Rd W W.heap.size v r) : Calls Tryz.prog 8 #[.agg (suC s), v] W fun e w' => RmA W w' s r e ∧ Below W.heap.size W w' := by
  have HR := hid h
  go_enter Tryz.func8, Tryz.ntmps8
  go_wp2_with (fail)
  have H1 : Hid (RmI W ((W.alloc (.cells (suC s) 23)).alloc (.cells tC0 27)) s) := hid ⟨push_old (push_new W _ _ rfl), push_new _ _ _ (by simp), bstep (balloc _ _) (balloc _ _)⟩
  generalize ((W.alloc (.cells (suC s) 23)).alloc (.cells tC0 27)) = W1 at *
  obtain ⟨x0, x1, x2, x3, x4⟩ := su_cells H1.out.box
  go_wp2_with (fail)
  refine (rmay_at W1 s v r (HR.out.keepW H1.out.below)).mono ?_
  rintro e w1 ⟨rfl, hb⟩
  have H2 := hid (H1.out.keep hb)
  clear hb H1 x0 x1 x2 x3 x4
  cases hm : mayF s r
  · go_wp2_with (refine wpList_store_row rfl 27 _ _ rfl (W.heap.size + 1) tC0 rfl rfl 27 _ H2.out.res (by kernel_rfl) rfl (by simp [Value.oneCell']) ?_)
    exact bodyPost_ret (results_row_tmp rfl _ _ (W.heap.size + 1) tC0 rfl (run_loadVar_row _ _ 27 27 tC0 (0, 0) _ (setRow_heap _ _ _ _ _ _ H2.out.res) Tryz.underlying27 rfl (by kernel_rfl))) rfl ⟨.inl ⟨hm, rfl⟩, below_row H2.out.below H2.out.below.size (by omega) _⟩
  have HM := hid hm
  clear hm
  go_wp2_with (fail)
  go_loopw [6] (fun s6 wr => ∃ g : Int, 0 ≤ g ∧ g ≤ 100000000000 ∧ s6 = .int .i64 g ∧ Hid (LB s r g) ∧ Hid (RmI W wr s)) (fun s6 _ => (1073741825 - intOf s6).toNat)
  case atStart => exact ⟨0, by omega, by omega, rfl, hid (fun x hx _ _ => hx), H2⟩
  case round =>
    clear H2
    obtain ⟨g, hg0, hg1, rfl, HB, HK⟩ := hrel
    obtain ⟨x0, x1, x2, x3, x4⟩ := su_cells HK.out.box
    by_cases hgm : g ≤ 1073741824
    · have hgm' : decide (g ≤ 1073741824) = true := decide_eq_true hgm
      go_wp2_with (fail)
      refine (rtable_at wr s v r g (HR.out.keepW HK.out.below) HM.out (by omega)).mono ?_
      rintro e w2 ⟨⟨u, rfl, hown⟩, hb⟩
      obtain ⟨ua, uc, rfl⟩ := own_form hown
      have hs2 := HK.out.below.size
      have hK2 := HK.out.keep hb
      have H3 : Hid (RmI W (w2.alloc (.cells (tbC (.slice ua r.length uc) (RD s r g) g) 27)) s) := hid (hK2.keep (balloc _ _))
      have hT3 : (w2.alloc (.cells (tbC (.slice ua r.length uc) (RD s r g) g) 27)).heap[w2.heap.size]? = some (.cells (tbC (.slice ua r.length uc) (RD s r g) g) 27 (0, 0)) := push_new _ _ _ rfl
      have HO3 : Hid ((w2.alloc (.cells (tbC (.slice ua r.length uc) (RD s r g) g) 27)).ownsRow (W.heap.size + 2) 64 3 (.slice ua r.length uc) r.length (slsC (tgL s r g r.length))) := hid (ownsRow_mono (own_carry hown (fun b e => Below.heap_alloc _ _ _ (own_lo hown b e).2)) (by have := (Array.getElem?_eq_some_iff.1 HK.out.res).1; omega))
      have HP0 : Hid (W.heap.size + 1 < w2.heap.size) := hid (Array.getElem?_eq_some_iff.1 hK2.res).1
      have HSB := hid (HB.out.step HM.out hg0)
      have HSG := hid (sk_ge s (RD s r g))
      have HFI : Hid (Fine s r g ↔ sk s (RD s r g) ≤ g) := hid Iff.rfl
      have HT := hid hT3
      clear hb hown hs2 hK2 hT3 x0 x1 x2 x3 x4
      obtain ⟨R, hR⟩ : ∃ R, R = RD s r g := ⟨_, rfl⟩
      have HRR := hid hR
      rw [← hR] at H3 HT HO3 HSB HSG HFI ⊢
      clear hR
      obtain ⟨x0, x1, x2, x3, x4⟩ := su_cells H3.out.box
      obtain ⟨t0, t1, t2⟩ := tb_cells HT.out
      go_wp2_with (fail)
      obtain ⟨P, hP⟩ : ∃ P, P = w2.heap.size := ⟨_, rfl⟩
      rw [← hP] at HT HP0 ⊢
      clear hP x0 x1 x2 x3 x4 t0 t1 t2
      generalize (w2.alloc (.cells (tbC (.slice ua r.length uc) R g) 27)) = w3 at *
      refine (rskew_at w3 s R).mono ?_
      rintro e w4 ⟨rfl, hb⟩
      have H4 := hid (H3.out.keep hb)
      have HT4 := hid (keep_row HT.out hb)
      have HO4 := hid (own_carry HO3.out (fun b e => hb.block b (own_lo HO3.out b e).2))
      clear hb H3 HT HO3
      obtain ⟨t0, t1, t2⟩ := tb_cells HT4.out
      generalize sk s R = z at *
      by_cases hz : z ≤ g
      · have hz' : decide (z ≤ g) = true := decide_eq_true hz
        go_wp2_with (refine wpList_store_row rfl 27 _ _ rfl (W.heap.size + 1) (tbC (.slice ua r.length uc) R g) rfl rfl 27 _ H4.out.res (by kernel_rfl) rfl (by simp [Value.oneCell']) ?_)
        try rw [Exit.noGoto_ret]
        exact bodyPost_ret (results_row_tmp rfl _ _ (W.heap.size + 1) (tbC (.slice ua r.length uc) R g) rfl (run_loadVar_row _ _ 27 27 (tbC (.slice ua r.length uc) R g) (0, 0) _ (setRow_heap _ _ _ _ _ _ H4.out.res) Tryz.underlying27 rfl (by kernel_rfl))) rfl ⟨.inr (.inr ⟨HM.out, g, _, ⟨hg0, hgm, HFI.out.2 hz, HB.out⟩, by rw [← HRR.out]; rfl, ownsRow_mono (own_carry HO4.out (fun b e => setRow_other _ _ _ _ (by have := (own_lo HO4.out b e).1; omega))) (by omega)⟩), below_row H4.out.below H4.out.below.size (by omega) _⟩
      · have hz' : decide (z ≤ g) = false := decide_eq_false hz
        go_wp2_with (fail)
        go_roundw
        case rel => exact ⟨z, by omega, HSG.out.2, rfl, HSB, H4⟩
        case measure => simp [intOf]; omega
    · have hgm' : decide (g ≤ 1073741824) = false := decide_eq_false hgm
      go_wp2_with (refine wpList_store_row rfl 27 _ _ rfl (W.heap.size + 1) tC0 rfl rfl 27 _ HK.out.res (by kernel_rfl) rfl (by simp [Value.oneCell']) ?_)
      try rw [Exit.noGoto_ret]
      exact bodyPost_ret (results_row_tmp rfl _ _ (W.heap.size + 1) tC0 rfl (run_loadVar_row _ _ 27 27 tC0 (0, 0) _ (setRow_heap _ _ _ _ _ _ HK.out.res) Tryz.underlying27 rfl (by kernel_rfl))) rfl ⟨.inr (.inl ⟨HM.out, fun x hx hx2 hf => by have := HB.out x hx hx2 hf; omega, rfl⟩), below_row HK.out.below HK.out.below.size (by omega) _⟩
end Go.Proofs.YtobmnndimlhfpaaGreatDoor.Slo
