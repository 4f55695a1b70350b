/-
  The plan of a guard.
-/
import Derived.Test.YtobmnndimlhfpaaGreatDoorPlnM
namespace Go.Proofs.YtobmnndimlhfpaaGreatDoor.Slo
open Go.ChangeShapes Go.WideShapes Go.ChangeAt Go.RowKit Go.Joins
/-- What is there in a round: the setup, the answer's variable, the plan. -/
structure PlI (W wr : World) (s : Su) (C : Array Value) : Prop where
  box : wr.heap[W.heap.size]? = some (.cells (suC s) 23 (0, 0))
  res : wr.heap[W.heap.size + 1]? = some (.cells zC 69 (0, 0))
  pl : wr.heap[W.heap.size + 1 + 1]? = some (.cells C 69 (0, 0))
  below : Below W.heap.size W wr
theorem PlI.keep {W wr w2 : World} {s : Su} {C : Array Value} (h : PlI W wr s C) (hb : Below wr.heap.size wr w2) : PlI W w2 s C :=
  ⟨keep_row h.box hb, keep_row h.res hb, keep_row h.pl hb, h.below.trans (hb.mono h.below.size)⟩
theorem PlI.slot {W wr : World} {s : Su} {C : Array Value} (h : PlI W wr s C) (_hC : C.size = 27) (i : Nat) (_hi : i < 27) {v : Value} (hv : C[i]? = some v) : wr.cell? ⟨W.heap.size + 1 + 1, i, none⟩ = some v := by
  rw [cell_of_row _ _ _ _ 69 (0, 0) h.pl]; exact hv
theorem PlI.there {W wr : World} {s : Su} {C : Array Value} (h : PlI W wr s C) (hC : C.size = 27) {o n : Nat} (hi : o + n ≤ 27) : wr.there (W.heap.size + 1 + 1) o n := fun j hj =>
  ⟨by rw [cell_of_row _ _ _ _ 69 (0, 0) h.pl, Array.getElem?_eq_getElem (by omega)]; rfl, frozen_of_row _ _ _ _ 69 h.pl⟩
theorem PlI.put {W wr : World} {s : Su} {C : Array Value} (h : PlI W wr s C) (i : Nat) (v : Value) : PlI W (wr.setCell ⟨W.heap.size + 1 + 1, i, none⟩ v) s (C.setIfInBounds i v) :=
  ⟨by rw [heap_setCell_other _ _ _ _ (by show W.heap.size ≠ W.heap.size + 1 + 1; omega)]; exact h.box,
   by rw [heap_setCell_other _ _ _ _ (by show W.heap.size + 1 ≠ W.heap.size + 1 + 1; omega)]; exact h.res,
   heap_setCell_same _ _ _ _ 69 v h.pl, h.below.setCell (by show W.heap.size ≤ W.heap.size + 1 + 1; omega) _⟩
set_option maxRecDepth 100000 in
set_option maxHeartbeats 8000000 in
theorem planned_at (W : World) (s : Su) (v : Value) (r : List Int) (g : Int) (h : Rd W W.heap.size v r) (hs : chk s = true) (hr : btAll r = true) (h8 : r.length ≤ 8) (hg : 0 ≤ g ∧ g ≤ 1099511627776) : Calls Tryz.prog 87 #[.agg (suC s), v, .int .i64 g] W fun e w' => e = .returned (.agg (plA s r r.length g r.length)) ∧ Below W.heap.size W w' := by
  obtain ⟨ao, c, rfl, hle, hcc, hcs⟩ := h
  have HC := hid hcs
  clear hcs
  obtain ⟨C0, hC0⟩ : ∃ C0, C0 = zC := ⟨_, rfl⟩
  have z50 : ∀ w, (zeroValue 69).run Tryz.prog w = .ok (.agg C0) w := by rw [hC0]; exact zero50
  have n0 : C0.size = 27 := by rw [hC0]; exact zC_size
  have hC1 : (C0.setIfInBounds 24 (.int .i64 (r.length : Int))).setIfInBounds 26 (.int .i64 g) = plA s r r.length g 0 := by rw [hC0]; kernel_rfl
  have hst := run_storeCells_new (P := Tryz.prog) ((W.alloc (.cells (suC s) 23)).alloc (.cells C0 69)) 69 C0 ((C0.setIfInBounds 24 (.int .i64 (r.length : Int))).setIfInBounds 26 (.int .i64 g)) (by rw [Array.size_setIfInBounds, Array.size_setIfInBounds, n0]; exact inf50) (by simp) (by rw [hC1]; exact plA_one _ _ _ _ _)
  rw [World.size_alloc, World.size_alloc, Array.toList_setIfInBounds, Array.toList_setIfInBounds, hC1] at hst
  have HI : Hid (PlI W (((W.alloc (.cells (suC s) 23)).alloc (.cells C0 69)).alloc (.cells (plA s r r.length g 0) 69)) s (plA s r r.length g 0)) := hid
    ⟨push_old (push_old (push_new W _ W.heap.size rfl)), by rw [← hC0]; exact push_old (push_new _ _ _ (by simp)), push_new _ _ _ (by simp), bstep (bstep (balloc _ _) (balloc _ _)) (balloc _ _)⟩
  clear hC0 hC1
  go_enter Tryz.func87, Tryz.ntmps87
  go_wp2_with (fail)
  generalize (((W.alloc (.cells (suC s) 23)).alloc (.cells C0 69)).alloc (.cells (plA s r r.length g 0) 69)) = W1 at *
  clear hst z50 n0
  go_loopw [18] (fun s18 wr => ∃ k : Nat, k ≤ r.length ∧ s18 = .int .i64 (k : Int) ∧ Hid (PlI W wr s (plA s r r.length g k))) (fun s18 _ => r.length - (intOf s18).toNat)
  case atStart => exact ⟨0, by omega, rfl, HI⟩
  case round =>
    clear HI
    obtain ⟨k, hk, rfl, HK⟩ := hrel
    by_cases hlt : k < r.length
    · have hlt' : (k : Int) < (r.length : Int) := by omega
      have hk8 : k < 8 := by omega
      obtain ⟨b, o, rfl, hb, hc⟩ := HC.out.resolve_left (by intro e; rw [e] at hlt; simp at hlt)
      have hck := (HK.out.below.cell (p := ⟨b, o + k, none⟩) hb).trans (hc k hlt)
      clear hc
      have hz := bit_le hs (btAll_at hr hlt)
      have hR := rdN_le (T := 2300000000000) hs hr hg.1 (by omega) k (by omega)
      have hf := (chk_iff.1 hs).2.1
      have HN : Hid (rdN s r g (k + 1) = rdN s r g k + g + ga r k * s.b + s.f + g) := hid rfl
      have x25 := HK.out.slot (plA_size _ _ _ _ _) 25 (by omega) (v := .int .i64 (rdN s r g k)) (by rw [plA_at _ _ _ _ _ (by omega)]; simp [plZ])
      have HS : Hid (((((plA s r r.length g k).setIfInBounds (k * 3) (.int .i64 (rdN s r g k))).setIfInBounds (k * 3 + 1) (.int .i64 (rdN s r g k + g))).setIfInBounds (k * 3 + 1 + 1) (.int .i64 (rdN s r g (k + 1)))).setIfInBounds 25 (.int .i64 (rdN s r g (k + 1))) = plA s r r.length g (k + 1)) := hid (plA_step s r r.length g k hk8)
      obtain ⟨x0, x1, x2, x3, x4⟩ := su_cells HK.out.box
      have HZ := hid (plA_size s r r.length g k)
      obtain ⟨D, hD⟩ : ∃ D, D = plA s r r.length g (k + 1) := ⟨_, rfl⟩
      rw [← hD] at HS
      have HD := hid hD
      clear hD
      generalize plA s r r.length g k = C at *
      generalize rdN s r g (k + 1) = y2 at *
      generalize rdN s r g k = y at *
      generalize ga r k = z at *
      go_wp2_with (fail)
      refine (shut_at wr s (y + g) z g (by omega) (by omega) (by omega) (by omega) (by omega) (by omega) (by omega) (by omega)).mono ?_
      rintro e w1 ⟨rfl, hb1⟩
      have P1 := hid (HK.out.keep hb1)
      rw [← HN.out]
      have x25' := P1.out.slot HZ.out 25 (by omega) (v := .int .i64 y) (by have := x25; rw [cell_of_row _ _ _ _ 69 (0, 0) HK.out.pl] at this; exact this)
      have TH := P1.out.there HZ.out (o := k * 3) (n := 3) (by omega)
      clear x25 hb1 x0 x1 x2 x3 x4 hck
      go_wp2_with (refine wpList_store_mid rfl 64 _ _ rfl (W.heap.size + 1 + 1) (k * 3) #[.int .i64 y, .int .i64 (y + g), .int .i64 y2] rfl rfl TH inf39 (by simp [Value.oneCell']) ?_; have P5 := ((P1.out.put (k * 3) (.int .i64 y)).put (k * 3 + 1) (.int .i64 (y + g))).put (k * 3 + 1 + 1) (.int .i64 y2); change PlI W (w1.setCells (W.heap.size + 1 + 1) (k * 3) (#[.int .i64 y, .int .i64 (y + g), .int .i64 y2] : Array Value).toList) s _ at P5; generalize (w1.setCells (W.heap.size + 1 + 1) (k * 3) (#[.int .i64 y, .int .i64 (y + g), .int .i64 y2] : Array Value).toList) = W5 at *; have x25 := P5.slot (by simpa using HZ.out) 25 (by omega) (v := .int .i64 y) (by simp only [Array.getElem?_setIfInBounds]; rw [if_neg (by omega), if_neg (by omega), if_neg (by omega)]; have := x25'; rw [cell_of_row _ _ _ _ 69 (0, 0) P1.out.pl] at this; exact this); have f25 := frozen_of_row W5 (W.heap.size + 1 + 1) 25 _ 69 P5.pl; have P6 := P5.put 25 (.int .i64 y2); rw [HS.out] at P6; have P6 := hid P6; clear P5 TH x25' P1 HK)
      go_roundw
      case rel => exact ⟨k + 1, by omega, by go_num, by rw [← HD.out]; exact P6⟩
      case measure => simp [intOf]; omega
    · have hlt' : ¬ (k : Int) < (r.length : Int) := by omega
      obtain rfl : k = r.length := by omega
      have HZ := hid (plA_size s r r.length g r.length)
      have HO := hid (plA_one s r r.length g r.length)
      generalize hCe : plA s r r.length g r.length = C at *
      have HE := hid hCe
      clear hCe
      go_wp2_with (first | (refine wpList_load_row rfl 69 _ rfl (W.heap.size + 1 + 1) rfl 69 C (0, 0) _ HK.out.pl Tryz.underlying69 rfl (by rw [HZ.out]; exact inf50) ?_) | (refine wpList_store_row rfl 69 _ _ rfl (W.heap.size + 1) C rfl rfl 69 zC HK.out.res (by rw [HZ.out]; exact inf50) (by rw [HZ.out]; exact zC_size) HO.out ?_))
      have hrow := setRow_heap _ _ _ C _ _ HK.out.res
      have hrun := run_loadVar_row (P := Tryz.prog) _ (W.heap.size + 1) 69 69 C (0, 0) _ hrow Tryz.underlying69 rfl (by rw [HZ.out]; exact inf50)
      refine bodyPost_ret (v := .agg C) ?_ rfl ⟨by rw [HE.out], below_row HK.out.below HK.out.below.size (by omega) _⟩
      simp [results, Tryz.results87]
      show ((Sem.run Tryz.prog (asAddr (.pointer (some ⟨W.heap.size + 1, 0, none⟩))) _).andThen fun a w' => (loadVar 69 a).run Tryz.prog w') = _
      simp only [asAddr, Sem.run_pure, Result.andThen_ok]
      exact hrun
end Go.Proofs.YtobmnndimlhfpaaGreatDoor.Slo
