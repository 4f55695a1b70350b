/-
  The operator of two that a token is: the contract of joinAt.
-/
import Derived.Test.YtkieljleopbhoaaDoorReader
import Derived.Test.YtkieljleopbhoaaDoorFields
namespace Go.Proofs.YtkieljleopbhoaaDoor.Lex
open Go.ChangeShapes Go.WideShapes Go.ChangeAt Go.RowKit Go.Joins
/-- Are a row's token and a mark the same? -/
def jIs (r : J) (m : Mark) : Bool := r.kind == m.kind && r.text.toList == m.text.toList
def jAt (m : Mark) : Option J := JT.find? fun r => jIs r m
theorem jAt_some {m : Mark} (k : Nat) (hk : k < 12) (h : ∀ j, j < k → jIs (jR j) m = false) (he : jIs (jR k) m = true) : jAt m = some (jR k) := by
  unfold jAt
  rw [List.find?_eq_some_iff_getElem]
  have hget : ∀ j (hj : j < JT.length), JT[j]'hj = jR j := fun j hj => by unfold jR; rw [List.getD_eq_getElem?_getD, List.getElem?_eq_getElem hj]; rfl
  have hk' : k < JT.length := hk
  refine ⟨he, k, hk', hget k hk', fun j hj => ?_⟩
  have e := hget j (by omega)
  have hn := h j hj
  rw [← e] at hn
  rw [hn]
  rfl
theorem jAt_none {m : Mark} (h : ∀ j, j < 12 → jIs (jR j) m = false) : jAt m = none := by
  unfold jAt
  rw [List.find?_eq_none]
  intro r hr
  obtain ⟨j, hj, e⟩ := List.getElem_of_mem hr
  have := h j hj
  unfold jR at this
  rw [List.getD_eq_getElem?_getD, List.getElem?_eq_getElem hj, e] at this
  simp only [Option.getD_some] at this
  rw [this]
  simp
def jAtOut (m : Mark) : Array Value := jrow ((jAt m).getD j0)
set_option maxRecDepth 100000 in
set_option maxHeartbeats 1000000 in
theorem joinAt (m : Mark) (w : World) (hT : TabJ w) : Calls Tryd.prog 85 #[mkV m] w fun e w' => e = .returned (.tuple #[.agg (jAtOut m), .bool (jAt m).isSome]) ∧ Below w.heap.size w w' := by
  obtain ⟨w0, hw0⟩ : ∃ w0, w0 = w.alloc (.cells #[.int .u8 (m.kind : Int), .string m.text] 81) := ⟨_, rfl⟩
  obtain ⟨w1, hw1⟩ : ∃ w1, w1 = w0.alloc (.cells (jrow j0) 83) := ⟨_, rfl⟩
  have hs0 : w0.heap.size = w.heap.size + 1 := by rw [hw0]; simp
  have hb0 : Below w.heap.size w w0 := by rw [hw0]; exact (Below.refl _ _).alloc (Nat.le_refl _) _
  have hb1' : Below w0.heap.size w0 w1 := by rw [hw1]; exact (Below.refl _ _).alloc (Nat.le_refl _) _
  have hb1 := bstep hb0 hb1'
  have hR1 : w1.heap[w.heap.size + 1]? = some (.cells (jrow j0) 83 (0, 0)) := by rw [hw1, ← hs0]; exact heap_alloc_new w0 _
  have hm1 : w1.heap[w.heap.size]? = some (.cells #[.int .u8 (m.kind : Int), .string m.text] 81 (0, 0)) := by
    rw [hb1'.block _ (by rw [hs0]; omega), hw0]; exact heap_alloc_new w _
  obtain ⟨t, fz, h0⟩ := hT.below hb1
  have HR := hid hR1
  have HM := hid hm1
  have HB := hid hb1
  clear hT hR1 hb1 hb0 hb1' hm1
  go_enter Tryd.func85, Tryd.ntmps85
  go_wp2_with (refine wpList_load_row rfl 96 _ rfl 0 rfl t joinV fz _ (by first | exact h0 | (rw [hw1, hw0] at h0; exact h0)) Tryd.underlying96 rfl (by kernel_rfl) ?_)
  go_loopw [7] (fun i wr => ∃ k : Nat, k ≤ 12 ∧ i = .int .i64 (k : Int) ∧ Hid (∀ j, j < k → jIs (jR j) m = false) ∧ Hid (Below w1.heap.size w1 wr)) (fun i _ => 12 - (intOf i).toNat)
  case atStart => exact ⟨0, by omega, rfl, fun j hj => by omega, by rw [hw1, hw0]; exact Below.refl _ _⟩
  case round =>
    obtain ⟨k, hk, rfl, hall, hB⟩ := hrel
    have hmr := (hB.out.block _ (Array.getElem?_eq_some_iff.1 HM.out).1).trans HM.out
    have q0 : wr.cell? ⟨w.heap.size, 0, none⟩ = some (.int .u8 (m.kind : Int)) := by rw [cell_of_row _ _ _ _ 81 (0, 0) hmr]; rfl
    have q1 : wr.cell? ⟨w.heap.size, 1, none⟩ = some (.string m.text) := by rw [cell_of_row _ _ _ _ 81 (0, 0) hmr]; rfl
    have qq := fun (C : Obj) => cell_kept q0 ((Below.refl wr.heap.size wr).alloc (Nat.le_refl _) C)
    have qr := fun (C : Obj) => cell_kept q1 ((Below.refl wr.heap.size wr).alloc (Nat.le_refl _) C)
    by_cases hlt : k < 12
    · have hlt' : (k : Int) < 12 := by omega
      have hx := fun W => j_index k hlt W
      unfold jrow at hx
      have y0 := qq (.cells (jrow (jR k)) 83)
      have y1 := qr (.cells (jrow (jR k)) 83)
      unfold jrow at y0 y1
      generalize hv : joinV = V at hx ⊢
      clear hv h0 hw1 hw0 qq qr q0 q1 hmr
      cases he : jIs (jR k) m
      · have Hnew : Hid (∀ j, j < k + 1 → jIs (jR j) m = false) := fun j hj => by
          by_cases e : j = k
          · rw [e]; exact he
          · exact hall.out j (by omega)
        have hsplit : (¬ (jR k).kind = m.kind) ∨ ((jR k).kind = m.kind ∧ ((jR k).text.toList == m.text.toList) = false) := by
          unfold jIs at he
          by_cases h : (jR k).kind = m.kind
          · right
            refine ⟨h, ?_⟩
            rw [h] at he
            simpa using he
          · exact .inl h
        clear hall he
        generalize (jR k).kind = K at *
        generalize (jR k).text = T at *
        rcases hsplit with h | ⟨rfl, h⟩
        · have h1 : ((K : Int) == (m.kind : Int)) = false := neN h
          go_wp2
          go_roundw
          case rel => exact ⟨k + 1, by omega, by go_num, Hnew, bstep hB.out ((Below.refl _ _).alloc (Nat.le_refl _) _)⟩
          case measure => simp [intOf]; omega
        · have h1 : ((m.kind : Int) == (m.kind : Int)) = true := by simp
          go_wp2
          go_roundw
          case rel => exact ⟨k + 1, by omega, by go_num, Hnew, bstep hB.out ((Below.refl _ _).alloc (Nat.le_refl _) _)⟩
          case measure => simp [intOf]; omega
      · have Hr : Hid (jAt m = some (jR k)) := jAt_some k hlt hall.out he
        have hboth : (jR k).kind = m.kind ∧ ((jR k).text.toList == m.text.toList) = true := by
          unfold jIs at he
          simpa using he
        have hRr : (wr.alloc (.cells (jrow (jR k)) 83)).heap[w.heap.size + 1]? = some (.cells (jrow j0) 83 (0, 0)) := by
          have hb := bstep hB.out ((Below.refl wr.heap.size wr).alloc (Nat.le_refl _) (.cells (jrow (jR k)) 83))
          exact (hb.block _ (Array.getElem?_eq_some_iff.1 HR.out).1).trans HR.out
        unfold jrow at hRr
        clear hall he
        obtain ⟨e1, e2⟩ := hboth
        have h1 : (((jR k).kind : Int) == (m.kind : Int)) = true := eqN e1
        clear e1
        go_wp2_with (refine wpList_store_row rfl 83 _ _ rfl (w.heap.size + 1) (jrow (jR k)) rfl rfl 83 _ hRr info83 rfl (by simp [Value.oneCell', jrow]) ?_)
        refine bodyPost_ret (results_row_tmp rfl _ _ (w.heap.size + 1) (jrow (jR k)) rfl (run_loadVar_row _ _ 83 83 (jrow (jR k)) (0, 0) _ (setRow_heap _ _ _ _ _ _ hRr) Tryd.underlying83 rfl info83)) rfl ⟨?_, ?_⟩
        · rw [jAtOut, Hr.out]; rfl
        · exact below_row (bstep (bstep HB.out hB.out) ((Below.refl _ _).alloc (Nat.le_refl _) _)) (by have := HB.out.size; have := hB.out.size; simp; omega) (by omega) _
    · have hlt' : ¬ (k : Int) < 12 := by omega
      have Hr : Hid (jAt m = none) := jAt_none fun j hj => hall.out j (by omega)
      have hRr : wr.heap[w.heap.size + 1]? = some (.cells (jrow j0) 83 (0, 0)) := (hB.out.block _ (Array.getElem?_eq_some_iff.1 HR.out).1).trans HR.out
      unfold jrow at hRr
      clear hall h0 hw1 hw0 qq qr q0 q1 hmr
      go_wp2_with (refine wpList_store_row rfl 83 _ _ rfl (w.heap.size + 1) (jrow j0) rfl rfl 83 _ hRr info83 rfl (by simp [Value.oneCell', jrow]) ?_)
      refine bodyPost_ret (results_row_tmp rfl _ _ (w.heap.size + 1) (jrow j0) rfl (run_loadVar_row _ _ 83 83 (jrow j0) (0, 0) _ (setRow_heap _ _ _ _ _ _ hRr) Tryd.underlying83 rfl info83)) rfl ⟨?_, ?_⟩
      · rw [jAtOut, Hr.out]; rfl
      · exact below_row (bstep HB.out hB.out) (by have := HB.out.size; have := hB.out.size; omega) (by omega) _
end Go.Proofs.YtkieljleopbhoaaDoor.Lex
