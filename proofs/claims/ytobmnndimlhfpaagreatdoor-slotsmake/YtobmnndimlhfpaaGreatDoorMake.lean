/-
  A table for frames of so many bits.
-/
import Derived.Test.YtobmnndimlhfpaaGreatDoorTab
namespace Go.Proofs.YtobmnndimlhfpaaGreatDoor.Slo
open Go.ChangeShapes Go.WideShapes Go.ChangeAt Go.RowKit Go.Joins
/-- No table. -/
abbrev tC0 : Array Value := #[.slice none 0 0, .int .i64 0, .int .i64 0]
/-- A table. -/
abbrev tC (b n : Nat) (R g : Int) : Array Value := #[.slice (some ⟨b, 0, none⟩) n n, .int .i64 R, .int .i64 g]
/-- What Make answers. -/
def MkA (W w2 : World) (s : Su) (r : List Int) (e : Ending) : Prop :=
  (mayF s r = false ∧ e = .returned (.tuple #[.agg tC0, .int .i64 1])) ∨ (mayF s r = true ∧ NoG s r ∧ e = .returned (.tuple #[.agg tC0, .int .i64 10])) ∨
  (mayF s r = true ∧ ∃ g b, Lea s r g ∧ W.heap.size ≤ b ∧ e = .returned (.tuple #[.agg (tC b r.length (RD s r g) g), .int .i64 0]) ∧ w2.heap[b]? = some (.cells (tbA s r g).toArray 64 (0, 0)))
set_option maxRecDepth 100000 in
set_option maxHeartbeats 8000000 in
theorem make_at (W : World) (s : Su) (v : Value) (r : List Int) (h : Rd W W.heap.size v r) : Calls Tryz.prog 7 #[.agg (suC s), v] W fun e w' => MkA W w' s r e ∧ Below W.heap.size W w' := by
  have HR := hid h
  obtain ⟨C0, hC0⟩ : ∃ C0, C0 = zC := ⟨_, rfl⟩
  have z50 : ∀ w, (zeroValue 69).run Tryz.prog w = .ok (.agg C0) w := by rw [hC0]; exact zero50
  have n0 : C0.size = 27 := by rw [hC0]; exact zC_size
  have HC0 := hid hC0
  clear hC0
  go_enter Tryz.func7, Tryz.ntmps7
  go_wp2_with (fail)
  have HW1 : Hid (((W.alloc (.cells (suC s) 23)).alloc (.cells tC0 27)).heap[W.heap.size]? = some (.cells (suC s) 23 (0, 0)) ∧ ((W.alloc (.cells (suC s) 23)).alloc (.cells tC0 27)).heap[W.heap.size + 1]? = some (.cells tC0 27 (0, 0)) ∧ Below W.heap.size W ((W.alloc (.cells (suC s) 23)).alloc (.cells tC0 27))) := hid ⟨push_old (push_new W _ W.heap.size rfl), push_new _ _ _ (by simp), bstep (balloc _ _) (balloc _ _)⟩
  generalize ((W.alloc (.cells (suC s) 23)).alloc (.cells tC0 27)) = W1 at *
  obtain ⟨x0, x1, x2, x3, x4⟩ := su_cells HW1.out.1
  go_wp2_with (fail)
  refine (may_at W1 s v r (HR.out.keepW HW1.out.2.2)).mono ?_
  rintro e w1 ⟨rfl, hb⟩
  have HW2 : Hid (w1.heap[W.heap.size]? = some (.cells (suC s) 23 (0, 0)) ∧ w1.heap[W.heap.size + 1]? = some (.cells tC0 27 (0, 0)) ∧ Below W.heap.size W w1) := hid ⟨keep_row HW1.out.1 hb, keep_row HW1.out.2.1 hb, HW1.out.2.2.trans (hb.mono HW1.out.2.2.size)⟩
  clear hb HW1 x0 x1 x2 x3 x4
  cases hm : mayF s r
  · go_wp2_with (refine wpList_store_row rfl 27 _ _ rfl (W.heap.size + 1) tC0 rfl rfl 27 _ HW2.out.2.1 (by kernel_rfl) rfl (by simp [Value.oneCell']) ?_)
    exact bodyPost_ret (results_row_tmp rfl _ _ (W.heap.size + 1) tC0 rfl (run_loadVar_row _ _ 27 27 tC0 (0, 0) _ (setRow_heap _ _ _ _ _ _ HW2.out.2.1) Tryz.underlying27 rfl (by kernel_rfl))) rfl ⟨.inl ⟨hm, rfl⟩, below_row HW2.out.2.2 HW2.out.2.2.size (by omega) _⟩
  obtain ⟨x0, x1, x2, x3, x4⟩ := su_cells HW2.out.1
  go_wp2_with (fail)
  refine (least_at w1 s v r (HR.out.keepW HW2.out.2.2) hm).mono ?_
  rintro e w2 ⟨C, ok, rfl, hA, hb⟩
  have HA := hid hA
  have n1 : C.size = 27 := by
    rcases hA with ⟨_, g, rfl, _⟩ | ⟨_, rfl, _⟩
    · exact plA_size _ _ _ _ _
    · exact zC_size
  have HO : Hid (C.all (·.oneCell') = true) := hid (by
    rcases hA with ⟨_, g, rfl, _⟩ | ⟨_, rfl, _⟩
    · exact plA_one _ _ _ _ _
    · exact zC_one)
  have hst := run_storeCells_new (P := Tryz.prog) w2 69 C0 C (by rw [n1]; exact inf50) (by rw [n0, n1]) HO.out
  have HW3 : Hid ((w2.alloc (.cells C 69)).heap[W.heap.size + 1]? = some (.cells tC0 27 (0, 0)) ∧ Below W.heap.size W (w2.alloc (.cells C 69)) ∧ (w2.alloc (.cells C 69)).heap[w2.heap.size]? = some (.cells C 69 (0, 0)) ∧ W.heap.size + 1 < w2.heap.size) := hid ⟨push_old (keep_row HW2.out.2.1 hb), bstep (HW2.out.2.2.trans (hb.mono HW2.out.2.2.size)) (balloc _ _), push_new _ _ _ rfl, (Array.getElem?_eq_some_iff.1 (keep_row HW2.out.2.1 hb)).1⟩
  clear hA hb HW2 x0 x1 x2 x3 x4
  cases ok
  · have HN : Hid (NoG s r) := hid (by rcases HA.out with ⟨h, _⟩ | ⟨_, _, h⟩; cases h; exact h)
    go_wp2_with (refine wpList_store_row rfl 27 _ _ rfl (W.heap.size + 1) tC0 rfl rfl 27 _ HW3.out.1 (by kernel_rfl) rfl (by simp [Value.oneCell']) ?_)
    exact bodyPost_ret (results_row_tmp rfl _ _ (W.heap.size + 1) tC0 rfl (run_loadVar_row _ _ 27 27 tC0 (0, 0) _ (setRow_heap _ _ _ _ _ _ HW3.out.1) Tryz.underlying27 rfl (by kernel_rfl))) rfl ⟨.inr (.inl ⟨hm, HN.out, rfl⟩), below_row HW3.out.2.1 HW3.out.2.1.size (by omega) _⟩
  · go_wp2_with (refine wpList_load_row rfl 69 _ rfl w2.heap.size rfl 69 C (0, 0) _ HW3.out.2.2.1 Tryz.underlying69 rfl (by rw [n1]; exact inf50) ?_)
    generalize hP : w2.heap.size = P at *
    generalize (w2.alloc (.cells C 69)) = W4 at *
    clear hst hP
    obtain ⟨g, HE, HL⟩ : ∃ g, Hid (C = plA s r r.length g r.length) ∧ Hid (Lea s r g) := by
      rcases HA.out with ⟨_, g, h1, h2⟩ | ⟨h, _⟩
      · exact ⟨g, hid h1, hid h2⟩
      · cases h
    have h8 : r.length ≤ 8 := by have := (wi_iff.1 (mayF_iff.1 hm).2.1).2; omega
    rw [HE.out]
    refine (table_at W4 s r g h8).mono ?_
    rintro e w5 ⟨b, hb0, rfl, hrow, hb⟩
    have HW5 : Hid (w5.heap[W.heap.size + 1]? = some (.cells tC0 27 (0, 0)) ∧ Below W.heap.size W w5 ∧ w5.heap[b]? = some (.cells (tbA s r g).toArray 64 (0, 0)) ∧ W.heap.size + 1 < b) := hid ⟨keep_row HW3.out.1 hb, HW3.out.2.1.trans (hb.mono HW3.out.2.1.size), hrow, by have := (Array.getElem?_eq_some_iff.1 HW3.out.1).1; omega⟩
    clear hrow hb HW3 hb0
    rw [← HE.out]
    clear HE
    have HL2 := HL
    clear HL HA
    generalize hRe : RD s r g = R
    have HE2 := hid hRe
    clear hRe
    have HT : Hid (RD s r g = R) := HE2
    clear HE2
    go_wp2_with (refine wpList_store_row rfl 27 _ _ rfl (W.heap.size + 1) (tC b r.length R g) rfl rfl 27 _ HW5.out.1 (by kernel_rfl) rfl (by simp [Value.oneCell']) ?_)
    exact bodyPost_ret (results_row_tmp rfl _ _ (W.heap.size + 1) (tC b r.length R g) rfl (run_loadVar_row _ _ 27 27 (tC b r.length R g) (0, 0) _ (setRow_heap _ _ _ _ _ _ HW5.out.1) Tryz.underlying27 rfl (by kernel_rfl))) rfl ⟨.inr (.inr ⟨hm, g, b, HL2.out, by have := HW5.out.2.2.2; omega, by rw [HT.out]; rfl, by rw [setRow_other _ _ _ _ (by have := HW5.out.2.2.2; omega)]; exact HW5.out.2.2.1⟩), below_row HW5.out.2.1 HW5.out.2.1.size (by omega) _⟩
end Go.Proofs.YtobmnndimlhfpaaGreatDoor.Slo
