/-
  A plan as a table of its own memory.
-/
import Derived.Test.YtobmnndimlhfpaaGreatDoorLg
import Derived.Laws.CopyRow
import Derived.Laws.MakeOwn
namespace Go.Proofs.YtobmnndimlhfpaaGreatDoor.Slo
open Go.ChangeShapes Go.WideShapes Go.ChangeAt Go.RowKit Go.Joins
theorem run_copy_rows {P : Program} (w : World) (dT sT ty elem : TypeId) (g o dLen dCap m : Nat) (a : Addr) (sLen sCap : Nat) (cur : Array Value) (t : TypeId) (cs : List Value)
    (hu : P.underlying dT = some (.slice elem)) (hs : (P.info? elem).map (·.size) = some m)
    (hg : w.heap[g]? = some (.cells cur t (0, 0))) (hn : cs.length = Nat.min sLen dLen * m)
    (hsrc : ∀ j v, cs[j]? = some v → w.cell? (a.add j) = some v) (hfit : o + cs.length ≤ cur.size) (h1 : ∀ v ∈ cs, v.oneCell' = true) :
    (Builtin.copy_ #[dT, sT] ty #[.slice (some ⟨g, o, none⟩) dLen dCap, .slice (some a) sLen sCap]).run P w =
      .ok (goInt (Nat.min sLen dLen : Nat)) (w.setRow g (cur.toList.take o ++ cs ++ cur.toList.drop (o + cs.length)).toArray) := by
  have hl := run_loadCells_list (P := P) w a cs hsrc
  have hst := run_storeCells_at P g o t cs 0 cur w hg (by simpa using hfit) h1
  cases hq : P.info? elem with
  | none => simp [hq] at hs
  | some i =>
    have hi : i.size = m := by simpa [hq] using hs
    simp [Builtin.copy_, run_underlying hu, Builtin.lenOf, Builtin.firstCells, sizeOf, typeInfo, hq, hi, ← hn, hl, hst]
/-- The cells of a table's row. -/
def tbA (s : Su) (r : List Int) (g : Int) : List Value := (List.range (r.length * 3)).map fun j => Value.int .i64 (plZ s r r.length g r.length j)
theorem tbA_len (s : Su) (r : List Int) (g : Int) : (tbA s r g).length = r.length * 3 := by simp [tbA]
theorem tbA_one (s : Su) (r : List Int) (g : Int) : ∀ v ∈ tbA s r g, v.oneCell' = true := by
  intro v hv
  simp only [tbA, List.mem_map] at hv
  obtain ⟨j, _, rfl⟩ := hv
  rfl
theorem tbA_at (s : Su) (r : List Int) (g : Int) {j : Nat} (h : j < r.length * 3) : (tbA s r g)[j]? = some (.int .i64 (plZ s r r.length g r.length j)) := by simp [tbA, h]
theorem inf27 : Tryz.prog.underlying 25 = some (.slice 64) := Tryz.underlying25
theorem inf39z : (Tryz.prog.info? 64).map (fun i => (i.zero, i.size, i.bytes)) = some (some (.agg #[.int .i64 0, .int .i64 0, .int .i64 0]), 3, 24) := by kernel_rfl
theorem mk27 (n : Nat) (hn : n ≤ 8) (w : World) : (Instr.makeSlice 25 (.int .i64 (n : Int)) (.int .i64 (n : Int))).run Tryz.prog w = .ok (.slice (some ⟨w.heap.size, 0, none⟩) n n) (w.alloc (.cells (madeCells #[.int .i64 0, .int .i64 0, .int .i64 0] (n * 3)) 64)) := by
  obtain ⟨i0, hi, hz0, hz1, hz2⟩ := info_parts inf39z
  have := run_make (P := Tryz.prog) w 25 64 i0 _ Tryz.underlying25 hi hz0 .i64 .i64 (n : Int) (n : Int) (by omega) (by omega) (by rw [hz2]; omega) (by omega)
  rw [hz1, show ((n : Int)).toNat = n by omega] at this
  simpa [Value.cells] using this
set_option maxRecDepth 100000 in
set_option maxHeartbeats 8000000 in
theorem table_at (W : World) (s : Su) (r : List Int) (g : Int) (h8 : r.length ≤ 8) : Calls Tryz.prog 24 #[.agg (plA s r r.length g r.length)] W fun e w' => ∃ b, W.heap.size ≤ b ∧ e = .returned (.agg #[.slice (some ⟨b, 0, none⟩) r.length r.length, .int .i64 (RD s r g), .int .i64 g]) ∧ w'.heap[b]? = some (.cells (tbA s r g).toArray 64 (0, 0)) ∧ Below W.heap.size W w' := by
  have n0 := plA_size s r r.length g r.length
  have HA := hid (fun (j : Nat) (h : j < 27) => plA_at s r r.length g r.length h)
  have HO := hid (plA_one s r r.length g r.length)
  have HB : Hid ((tbA s r g).length = r.length * 3 ∧ (∀ v ∈ tbA s r g, v.oneCell' = true)) := hid ⟨tbA_len s r g, tbA_one s r g⟩
  have HT : Hid (∀ j v, (tbA s r g)[j]? = some v → (plA s r r.length g r.length)[j]? = some v) := hid (fun j v hv => by
    have hj : j < r.length * 3 := by have := (List.getElem?_eq_some_iff.1 hv).1; rw [tbA_len] at this; exact this
    rw [tbA_at s r g hj] at hv
    rw [plA_at s r r.length g r.length (by omega)]
    exact hv)
  generalize plA s r r.length g r.length = C at *
  generalize tbA s r g = T at *
  have c24 : C[24]'(by omega) = .int .i64 (r.length : Int) := by
    have := HA.out 24 (by omega)
    rw [Array.getElem?_eq_getElem (by omega)] at this
    simpa [plZ] using this
  have c25 : C[25]'(by omega) = .int .i64 (RD s r g) := by
    have := HA.out 25 (by omega)
    rw [Array.getElem?_eq_getElem (by omega)] at this
    simpa [plZ, RD] using this
  have c26 : C[26]'(by omega) = .int .i64 g := by
    have := HA.out 26 (by omega)
    rw [Array.getElem?_eq_getElem (by omega)] at this
    simpa [plZ] using this
  generalize RD s r g = R at *
  have mk := mk27 r.length h8
  have hcp : (Builtin.copy_ #[25, 25] 3 #[.slice (some ⟨W.heap.size + 1 + 1, 0, none⟩) r.length r.length, .slice (some ⟨W.heap.size, 0, none⟩) 8 8]).run Tryz.prog (((W.alloc (.cells C 69)).alloc (.cells #[.slice none 0 0, .int .i64 0, .int .i64 0] 27)).alloc (.cells (madeCells #[.int .i64 0, .int .i64 0, .int .i64 0] (r.length * 3)) 64)) = .ok (goInt (r.length : Nat)) ((((W.alloc (.cells C 69)).alloc (.cells #[.slice none 0 0, .int .i64 0, .int .i64 0] 27)).alloc (.cells (madeCells #[.int .i64 0, .int .i64 0, .int .i64 0] (r.length * 3)) 64)).setRow (W.heap.size + 1 + 1) T.toArray) := (by
    have hmin : Nat.min 8 r.length = r.length := Nat.min_eq_right h8
    have hg : (((W.alloc (.cells C 69)).alloc (.cells #[.slice none 0 0, .int .i64 0, .int .i64 0] 27)).alloc (.cells (madeCells #[.int .i64 0, .int .i64 0, .int .i64 0] (r.length * 3)) 64)).heap[W.heap.size + 1 + 1]? = some (.cells (madeCells #[.int .i64 0, .int .i64 0, .int .i64 0] (r.length * 3)) 64 (0, 0)) := push_new _ _ _ (by simp)
    have h0 : (((W.alloc (.cells C 69)).alloc (.cells #[.slice none 0 0, .int .i64 0, .int .i64 0] 27)).alloc (.cells (madeCells #[.int .i64 0, .int .i64 0, .int .i64 0] (r.length * 3)) 64)).heap[W.heap.size]? = some (.cells C 69 (0, 0)) := push_old (push_old (push_new W _ _ rfl))
    have := run_copy_rows (P := Tryz.prog) (((W.alloc (.cells C 69)).alloc (.cells #[.slice none 0 0, .int .i64 0, .int .i64 0] 27)).alloc (.cells (madeCells #[.int .i64 0, .int .i64 0, .int .i64 0] (r.length * 3)) 64)) 25 25 3 64 (W.heap.size + 1 + 1) 0 r.length r.length 3 ⟨W.heap.size, 0, none⟩ 8 8 _ 64 T Tryz.underlying25 inf39 hg (by rw [hmin]; exact HB.out.1) (fun j v hv => by
      rw [show (⟨W.heap.size, 0, none⟩ : Addr).add j = ⟨W.heap.size, j, none⟩ by unfold Addr.add; split <;> simp_all, cell_of_row _ _ _ _ 69 (0, 0) h0]
      exact HT.out j v hv) (by rw [size_madeCells, HB.out.1]; omega) HB.out.2
    rw [hmin] at this
    rw [this]
    congr 2
    have e : (madeCells #[.int .i64 0, .int .i64 0, .int .i64 0] (r.length * 3)).toList.drop (0 + T.length) = [] := List.drop_eq_nil_of_le (by rw [Array.length_toList, size_madeCells, HB.out.1]; omega)
    rw [e]
    simp)
  have HW : Hid (((((W.alloc (.cells C 69)).alloc (.cells #[.slice none 0 0, .int .i64 0, .int .i64 0] 27)).alloc (.cells (madeCells #[.int .i64 0, .int .i64 0, .int .i64 0] (r.length * 3)) 64)).setRow (W.heap.size + 1 + 1) T.toArray).heap[W.heap.size]? = some (.cells C 69 (0, 0)) ∧ ((((W.alloc (.cells C 69)).alloc (.cells #[.slice none 0 0, .int .i64 0, .int .i64 0] 27)).alloc (.cells (madeCells #[.int .i64 0, .int .i64 0, .int .i64 0] (r.length * 3)) 64)).setRow (W.heap.size + 1 + 1) T.toArray).heap[W.heap.size + 1]? = some (.cells #[.slice none 0 0, .int .i64 0, .int .i64 0] 27 (0, 0)) ∧ ((((W.alloc (.cells C 69)).alloc (.cells #[.slice none 0 0, .int .i64 0, .int .i64 0] 27)).alloc (.cells (madeCells #[.int .i64 0, .int .i64 0, .int .i64 0] (r.length * 3)) 64)).setRow (W.heap.size + 1 + 1) T.toArray).heap[W.heap.size + 1 + 1]? = some (.cells T.toArray 64 (0, 0)) ∧ Below W.heap.size W ((((W.alloc (.cells C 69)).alloc (.cells #[.slice none 0 0, .int .i64 0, .int .i64 0] 27)).alloc (.cells (madeCells #[.int .i64 0, .int .i64 0, .int .i64 0] (r.length * 3)) 64)).setRow (W.heap.size + 1 + 1) T.toArray)) := hid
    ⟨by rw [setRow_other _ _ _ _ (by omega)]; exact push_old (push_old (push_new W _ _ rfl)), by rw [setRow_other _ _ _ _ (by omega)]; exact push_old (push_new _ _ _ (by simp)), setRow_heap _ _ _ _ _ _ (push_new _ _ _ (by simp)), below_row (bstep (bstep (balloc _ _) (balloc _ _)) (balloc _ _)) (by simp; omega) (by omega) _⟩
  generalize hWc : (((W.alloc (.cells C 69)).alloc (.cells #[.slice none 0 0, .int .i64 0, .int .i64 0] 27)).alloc (.cells (madeCells #[.int .i64 0, .int .i64 0, .int .i64 0] (r.length * 3)) 64)).setRow (W.heap.size + 1 + 1) T.toArray = W4 at *
  have x25 : W4.cell? ⟨W.heap.size, 25, none⟩ = some (.int .i64 R) := (by rw [cell_of_row _ _ _ _ 69 (0, 0) HW.out.1, Array.getElem?_eq_getElem (by omega), c25])
  have x26 : W4.cell? ⟨W.heap.size, 26, none⟩ = some (.int .i64 g) := (by rw [cell_of_row _ _ _ _ 69 (0, 0) HW.out.1, Array.getElem?_eq_getElem (by omega), c26])
  clear hWc c25 c26
  go_enter Tryz.func24, Tryz.ntmps24
  go_wp2_with (refine wpList_store_row rfl 27 _ _ rfl (W.heap.size + 1) #[.slice (some ⟨W.heap.size + 1 + 1, 0, none⟩) r.length r.length, .int .i64 R, .int .i64 g] rfl rfl 27 _ HW.out.2.1 (by kernel_rfl) rfl (by simp [Value.oneCell']) ?_; simp only [Act.put])
  have hrow := setRow_heap _ _ _ #[.slice (some ⟨W.heap.size + 1 + 1, 0, none⟩) r.length r.length, .int .i64 R, .int .i64 g] _ _ HW.out.2.1
  have hrun := run_loadVar_row (P := Tryz.prog) _ (W.heap.size + 1) 27 27 _ (0, 0) _ hrow Tryz.underlying27 rfl (by kernel_rfl)
  refine bodyPost_ret (v := .agg #[.slice (some ⟨W.heap.size + 1 + 1, 0, none⟩) r.length r.length, .int .i64 R, .int .i64 g]) ?_ rfl ⟨_, by omega, rfl, by rw [setRow_other _ _ _ _ (by omega)]; exact HW.out.2.2.1, below_row HW.out.2.2.2 HW.out.2.2.2.size (by omega) _⟩
  simp [results, Tryz.results24]
  show ((Sem.run Tryz.prog (asAddr (.pointer (some ⟨W.heap.size + 1, 0, none⟩))) _).andThen fun a w' => (loadVar 27 a).run Tryz.prog w') = _
  simp only [asAddr, Sem.run_pure, Result.andThen_ok]
  exact hrun
end Go.Proofs.YtobmnndimlhfpaaGreatDoor.Slo
