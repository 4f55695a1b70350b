/-
  The least guard that clocks keep, or none.
-/
import Derived.Test.YtobmnndimlhfpaaGreatDoorLgM
namespace Go.Proofs.YtobmnndimlhfpaaGreatDoor.Slo
open Go.ChangeShapes Go.WideShapes Go.ChangeAt Go.RowKit Go.Joins
/-- What the search answers. -/
def LgA (s : Su) (r : List Int) (C : Array Value) (ok : Bool) : Prop := (ok = true ∧ ∃ g, C = plA s r r.length g r.length ∧ Lea s r g) ∨ (ok = false ∧ C = zC ∧ NoG s r)
set_option maxRecDepth 100000 in
set_option maxHeartbeats 8000000 in
theorem least_at (W : World) (s : Su) (v : Value) (r : List Int) (h : Rd W W.heap.size v r) (hm : mayF s r = true) : Calls Tryz.prog 23 #[.agg (suC s), v] W fun e w' => ∃ C ok, e = .returned (.tuple #[.agg C, .bool ok]) ∧ LgA s r C ok ∧ Below W.heap.size W w' := by
  obtain ⟨hs, hl, hr⟩ := mayF_iff.1 hm
  have h8 : r.length ≤ 8 := by have := (wi_iff.1 hl).2; omega
  have HM := hid hm
  have HR := hid h
  obtain ⟨C0, hC0⟩ : ∃ C0, C0 = zC := ⟨_, rfl⟩
  have z50 : ∀ w, (zeroValue 69).run Tryz.prog w = .ok (.agg C0) w := by rw [hC0]; exact zero50
  have n0 : C0.size = 27 := by rw [hC0]; exact zC_size
  have HC0 := hid hC0
  clear hC0 hl hm
  have hbx : (W.alloc (.cells (suC s) 23)).heap[W.heap.size]? = some (.cells (suC s) 23 (0, 0)) := push_new W _ _ rfl
  go_enter Tryz.func23, Tryz.ntmps23
  go_wp2_with (fail)
  have HW1 : Hid (((W.alloc (.cells (suC s) 23)).alloc (.cells C0 69)).heap[W.heap.size]? = some (.cells (suC s) 23 (0, 0)) ∧ ((W.alloc (.cells (suC s) 23)).alloc (.cells C0 69)).heap[W.heap.size + 1]? = some (.cells zC 69 (0, 0)) ∧ Below W.heap.size W ((W.alloc (.cells (suC s) 23)).alloc (.cells C0 69)) ∧ ((W.alloc (.cells (suC s) 23)).alloc (.cells C0 69)).heap.size = W.heap.size + 1 + 1) := hid ⟨push_old (push_new W _ W.heap.size rfl), by rw [← HC0.out]; exact push_new _ _ _ (by simp), bstep (balloc _ _) (balloc _ _), by simp⟩
  generalize ((W.alloc (.cells (suC s) 23)).alloc (.cells C0 69)) = W1 at *
  clear hbx
  obtain ⟨x0, x1, x2, x3, x4⟩ := su_cells HW1.out.1
  go_step3
  go_wp2_with (fail)
  refine (planned_at W1 s v r 0 (HR.out.keepW HW1.out.2.2.1) hs hr h8 (by omega)).mono ?_
  rintro e w1 ⟨rfl, hb⟩
  have HO := hid (plA_one s r r.length 0 r.length)
  have HN := hid (plA_size s r r.length 0 r.length)
  obtain ⟨C1, hC1⟩ : ∃ C1, C1 = plA s r r.length 0 r.length := ⟨_, rfl⟩
  rw [← hC1] at HO HN ⊢
  have HC1 := hid hC1
  clear hC1
  have hst := run_storeCells_new (P := Tryz.prog) w1 69 C0 C1 (by rw [HN.out]; exact inf50) (by rw [n0, HN.out]) HO.out
  have HL : Hid (LgI W (w1.alloc (.cells C1 69)) s w1.heap.size C1) := hid ⟨push_old (keep_row HW1.out.1 hb), push_old (keep_row HW1.out.2.1 hb), push_new _ _ _ rfl, by have h1 := hb.size; have h2 := HW1.out.2.2.2; omega, bstep (HW1.out.2.2.1.trans (hb.mono HW1.out.2.2.1.size)) (balloc _ _)⟩
  have n1 := HN.out
  clear hb HW1 HO HN x0 x1 x2 x3 x4
  go_wp2_with (fail)
  go_step3
  go_wp2_with (fail)
  obtain ⟨P, hP⟩ : ∃ P, P = w1.heap.size := ⟨_, rfl⟩
  rw [← hP] at HL ⊢
  generalize (w1.alloc (.cells C1 69)) = W2 at *
  clear hst hP n1
  rw [HC1.out] at HL
  clear HC1
  go_loopw [7] (fun _ wr => ∃ g, 0 ≤ g ∧ g ≤ 1073741824 ∧ Hid (LB s r g) ∧ Hid (LgI W wr s P (plA s r r.length g r.length))) (fun _ wr => (1073741824 - gOf wr P).toNat)
  case atStart => exact ⟨0, by omega, by omega, hid fun x hx _ _ => hx, HL⟩
  case round =>
    clear HL
    obtain ⟨g, hg0, hg1, HB, HK⟩ := hrel
    obtain ⟨x0, x1, x2, x3, x4⟩ := su_cells HK.out.box
    have x25 : wr.cell? ⟨P, 25, none⟩ = some (.int .i64 (RD s r g)) := (by rw [cell_of_row _ _ _ _ 69 (0, 0) HK.out.pl, plA_at _ _ _ _ _ (by omega)]; simp [plZ, RD])
    go_wp2_with (fail)
    refine (skew_at wr s (RD s r g)).mono ?_
    rintro e w1 ⟨rfl, hb⟩
    have P1 := hid (HK.out.keep hb)
    have hz := sk_ge s (RD s r g)
    have x26 : w1.cell? ⟨P, 26, none⟩ = some (.int .i64 g) := (by rw [cell_of_row _ _ _ _ 69 (0, 0) P1.out.pl, plA_at _ _ _ _ _ (by omega)]; simp [plZ])
    have HG := hid HK.out.g
    clear hb x25 x0 x1 x2 x3 x4 HK
    have HS := hid (HB.out.step HM.out hg0)
    have HF : Hid (Fine s r g ↔ sk s (RD s r g) ≤ g) := hid Iff.rfl
    generalize sk s (RD s r g) = z at *
    by_cases hbig : 1073741824 < z
    · have hbig' : decide (z > 1073741824) = true := decide_eq_true (by omega)
      go_wp2_with (refine wpList_store_row rfl 69 _ _ rfl (W.heap.size + 1) C0 rfl rfl 69 zC P1.out.res (by rw [n0]; exact inf50) (by rw [n0]; exact zC_size) (by rw [HC0.out]; exact zC_one) ?_)
      try rw [Exit.noGoto_ret]
      refine bodyPost_ret (results_row_tmp rfl _ _ (W.heap.size + 1) C0 rfl (run_loadVar_row _ _ 69 69 C0 (0, 0) _ (setRow_heap _ _ _ _ _ _ P1.out.res) Tryz.underlying69 rfl (by rw [n0]; exact inf50))) rfl ⟨C0, false, rfl, .inr ⟨rfl, HC0.out, fun x hx hx2 hf => ?_⟩, below_row P1.out.below P1.out.below.size (by omega) _⟩
      have := HS.out x hx hx2 hf
      omega
    by_cases hle : z ≤ g
    · have hbig' : decide (z > 1073741824) = false := decide_eq_false (by omega)
      have hle' : decide (z ≤ g) = true := decide_eq_true hle
      have HZ := hid (plA_size s r r.length g r.length)
      have HO := hid (plA_one s r r.length g r.length)
      generalize hCe : plA s r r.length g r.length = C at *
      have HE := hid hCe
      clear hCe
      go_wp2_with (first | (refine wpList_load_row rfl 69 _ rfl P rfl 69 C (0, 0) _ P1.out.pl Tryz.underlying69 rfl (by rw [HZ.out]; exact inf50) ?_) | (refine wpList_store_row rfl 69 _ _ rfl (W.heap.size + 1) C rfl rfl 69 zC P1.out.res (by rw [HZ.out]; exact inf50) (by rw [HZ.out]; exact zC_size) HO.out ?_))
      try rw [Exit.noGoto_ret]
      exact bodyPost_ret (results_row_tmp rfl _ _ (W.heap.size + 1) C rfl (run_loadVar_row _ _ 69 69 C (0, 0) _ (setRow_heap _ _ _ _ _ _ P1.out.res) Tryz.underlying69 rfl (by rw [HZ.out]; exact inf50))) rfl ⟨C, true, rfl, .inl ⟨rfl, g, HE.out.symm, ⟨hg0, hg1, HF.out.2 hle, HB.out⟩⟩, below_row P1.out.below P1.out.below.size (by omega) _⟩
    · have hbig' : decide (z > 1073741824) = false := decide_eq_false (by omega)
      have hle' : decide (z ≤ g) = false := decide_eq_false hle
      obtain ⟨x0, x1, x2, x3, x4⟩ := su_cells P1.out.box
      go_wp2_with (fail)
      refine (planned_at w1 s v r z (HR.out.keepW P1.out.below) hs hr h8 (by omega)).mono ?_
      rintro e w2 ⟨rfl, hb⟩
      have P2 := hid (P1.out.keep hb)
      have HZ := hid (plA_size s r r.length z r.length)
      have HZ2 := hid (plA_size s r r.length g r.length)
      have HO := hid (plA_one s r r.length z r.length)
      have P3 := hid (P2.out.set (plA s r r.length z r.length))
      have HG3 := hid P3.out.g
      generalize hCe : plA s r r.length z r.length = C at *
      have HE := hid hCe
      clear hCe x0 x1 x2 x3 x4 x26 hb
      go_wp2_with (refine wpList_store_row rfl 69 _ _ rfl P C rfl rfl 69 _ P2.out.pl (by rw [HZ.out]; exact inf50) (by rw [HZ.out]; exact HZ2.out) HO.out ?_; simp only [Act.put])
      go_roundw
      case rel => exact ⟨z, by omega, by omega, HS, by rw [HE.out]; exact P3⟩
      case measure => rw [HG3.out, HG.out]; omega
end Go.Proofs.YtobmnndimlhfpaaGreatDoor.Slo
