/-
  The chapter's table.
-/
import Derived.Test.YtobmnndimlhfpaaGreatDoorLawM
namespace Go.Proofs.YtobmnndimlhfpaaGreatDoor.Slo
open Go.ChangeShapes Go.WideShapes Go.ChangeAt Go.RowKit Go.Joins
abbrev hC : Array Value := #[.int .i64 100, .int .i64 100, .int .i64 100, .int .i64 100]
abbrev hC3 : Array Value := #[.int .i64 100, .int .i64 100, .int .i64 100]
/-- What Make answers, as the laws use it. -/
theorem make_4 {W w2 : World} {e : Ending} (h : MkA W w2 sL r4 e) : ∃ b, e = .returned (.tuple #[.agg (tC b 4 4244 28), .int .i64 0]) ∧ W.heap.size ≤ b ∧ w2.heap[b]? = some (.cells (tbA sL r4 28).toArray 64 (0, 0)) := by
  rcases h with ⟨h, _⟩ | ⟨_, h, _⟩ | ⟨_, g, b, hL, hb, he, hrow⟩
  · rw [may_4] at h; cases h
  · exact (nog_4 h).elim
  · obtain rfl := lea_28 hL
    rw [rd_28] at he
    exact ⟨b, he, hb, hrow⟩
theorem make_3 {W w2 : World} {e : Ending} (h : MkA W w2 sL r3 e) : e = .returned (.tuple #[.agg tC0, .int .i64 1]) := by
  rcases h with ⟨_, h⟩ | ⟨h, _⟩ | ⟨h, _⟩
  · exact h
  · rw [may_3] at h; cases h
  · rw [may_3] at h; cases h
structure LvI (W wr : World) (B P Q b : Nat) : Prop where
  box : wr.heap[B]? = some (.cells (suC sL) 23 (0, 0))
  tab : wr.heap[P]? = some (.cells (tC b 4 4244 28) 27 (0, 0))
  row : wr.heap[b]? = some (.cells (tbA sL r4 28).toArray 64 (0, 0))
  below : Below W.heap.size W wr
theorem LvI.keep {W wr w2 : World} {B P Q b : Nat} (h : LvI W wr B P Q b) (hb : Below wr.heap.size wr w2) : LvI W w2 B P Q b := ⟨keep_row h.box hb, keep_row h.tab hb, keep_row h.row hb, h.below.trans (hb.mono h.below.size)⟩
theorem row_1 {w : World} {b : Nat} (h : w.heap[b]? = some (.cells (tbA sL r4 28).toArray 64 (0, 0))) : w.cell? ⟨b, 3, none⟩ = some (.int .i64 1061) ∧ w.cell? ⟨b, 4, none⟩ = some (.int .i64 1089) ∧ w.cell? ⟨b, 5, none⟩ = some (.int .i64 2122) :=
  ⟨by rw [cell_of_row _ _ _ _ 64 (0, 0) h]; kernel_rfl, by rw [cell_of_row _ _ _ _ 64 (0, 0) h]; kernel_rfl, by rw [cell_of_row _ _ _ _ 64 (0, 0) h]; kernel_rfl⟩
set_option maxRecDepth 100000 in
set_option maxHeartbeats 8000000 in
theorem lives_at (W : World) : Calls Tryz.prog 4 #[] W fun e w' => e = .returned (.bool true) ∧ Below W.heap.size W w' := by
  go_enter Tryz.func4, Tryz.ntmps4
  go_wp2_with (fail)
  have H1 : Hid (((W.alloc (.cells (suC sL) 23)).alloc (.cells hC 3)).heap[W.heap.size]? = some (.cells (suC sL) 23 (0, 0)) ∧ Rd ((W.alloc (.cells (suC sL) 23)).alloc (.cells hC 3)) ((W.alloc (.cells (suC sL) 23)).alloc (.cells hC 3)).heap.size (.slice (some ⟨W.heap.size + 1, 0, none⟩) 4 4) r4 ∧ Below W.heap.size W ((W.alloc (.cells (suC sL) 23)).alloc (.cells hC 3))) := hid ⟨push_old (push_new W _ _ rfl), (rd_new r4 3 (by simp) (push_new _ _ _ (by simp))).up (by simp), bstep (balloc _ _) (balloc _ _)⟩
  refine (make_at ((W.alloc (.cells (suC sL) 23)).alloc (.cells hC 3)) sL _ r4 H1.out.2.1).mono ?_
  rintro e w1 ⟨hA, hb⟩
  obtain ⟨b, rfl, hbb, hrow⟩ := make_4 hA
  clear hA
  have H2 : Hid (LvI W (w1.alloc (.cells (tC b 4 4244 28) 27)) W.heap.size w1.heap.size 0 b) := hid ⟨push_old (keep_row H1.out.1 hb), push_new _ _ _ rfl, push_old hrow, bstep (H1.out.2.2.trans (hb.mono H1.out.2.2.size)) (balloc _ _)⟩
  clear hb hbb hrow H1
  obtain ⟨x0, x1, x2, x3, x4⟩ := su_cells H2.out.box
  go_wp2_with (fail)
  obtain ⟨P, hP⟩ : ∃ P, P = w1.heap.size := ⟨_, rfl⟩
  rw [← hP] at H2 ⊢
  have HZ : Hid ((w1.alloc (.cells (tC b 4 4244 28) 27)).heap.size = P + 1) := hid (by rw [hP]; simp)
  clear hP
  generalize (w1.alloc (.cells (tC b 4 4244 28) 27)) = w2 at *
  have H3 : Hid (LvI W (w2.alloc (.cells hC3 3)) W.heap.size P 0 b ∧ Rd (w2.alloc (.cells hC3 3)) (w2.alloc (.cells hC3 3)).heap.size (.slice (some ⟨P + 1, 0, none⟩) 3 3) r3) := hid ⟨H2.out.keep (balloc _ _), (rd_new r3 3 (by simp) (push_new _ _ _ HZ.out)).up (by rw [World.size_alloc, HZ.out]; omega)⟩
  refine (make_at (w2.alloc (.cells hC3 3)) sL _ r3 H3.out.2).mono ?_
  rintro e w3 ⟨hA, hb⟩
  obtain rfl := make_3 hA
  have H4 : Hid (LvI W (w3.alloc (.cells tC0 27)) W.heap.size P 0 b) := hid ((H3.out.1.keep hb).keep (balloc _ _))
  clear hA hb H3 H2 x0 x1 x2 x3 x4
  obtain ⟨x0, x1, x2, x3, x4⟩ := su_cells H4.out.box
  go_wp2_with (fail)
  generalize (w3.alloc (.cells tC0 27)) = w4 at *
  refine (skew_at _ sL 0).mono ?_
  rintro e w5 ⟨rfl, hb⟩
  rw [sk_0]
  have H5 := hid (H4.out.keep hb)
  clear hb H4 x0 x1 x2 x3 x4
  obtain ⟨x0, x1, x2, x3, x4⟩ := su_cells H5.out.box
  go_wp2_with (fail)
  refine (skew_at _ sL 1000000).mono ?_
  rintro e w6 ⟨rfl, hb⟩
  rw [sk_m]
  have H6 := hid (H5.out.keep hb)
  clear hb H5 x0 x1 x2 x3 x4
  obtain ⟨x0, x1, x2, x3, x4⟩ := su_cells H6.out.box
  obtain ⟨t0, t1, t2⟩ := tb_cells H6.out.tab
  have HS := hid (slr_row H6.out.row (by simp))
  obtain ⟨r0, r1, r2⟩ := row_1 H6.out.row
  have H7 : Hid (LvI W (w6.alloc (.cells hC 3)) W.heap.size P 0 b ∧ Rd (w6.alloc (.cells hC 3)) (w6.alloc (.cells hC 3)).heap.size (.slice (some ⟨w6.heap.size, 0, none⟩) 4 4) r4) := hid ⟨H6.out.keep (balloc _ _), (rd_new r4 3 (by simp) (push_new _ _ _ rfl)).up (by simp)⟩
  obtain ⟨q0, q1, q2⟩ := tb_cells H7.out.1.tab
  go_wp2_with (fail)
  refine (fits_at (w6.alloc (.cells hC 3)) sL (.slice (some ⟨w6.heap.size, 0, none⟩) 4 4) (.slice (some ⟨b, 0, none⟩) 4 4) r4 (tgL sL r4 28 4) 4244 28 H7.out.2 (HS.out.keepW (balloc _ _))).mono ?_
  rintro e w8 ⟨⟨y, rfl, hy⟩, hb⟩
  obtain rfl := hy.2 fit_28
  have H8 := hid (H7.out.1.keep hb)
  clear hb hy H7 x0 x1 x2 x3 x4 t0 t1 t2 r0 r1 r2 q0 q1 q2
  go_wp2_with (fail)
  go_ret
  exact ⟨rfl, H8.out.below⟩
end Go.Proofs.YtobmnndimlhfpaaGreatDoor.Slo
