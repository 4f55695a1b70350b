/-
  Twins: rows of numbers, and lists, in memory of their own.
-/
import Derived.Test.YtdhjedpgdhageaaBehW
namespace Go.Proofs.Ytdhjedpgdhageaa.Ord
open Go.ChangeShapes Go.WideShapes Go.ChangeAt Go.RowKit Go.Joins
theorem mk_cap (n : Nat) (hn : n ≤ 1099511627776) (w : World) : (Instr.makeSlice 25 (.int .i64 0) (.int .i64 ((n : Int) + 1))).run Try.prog w = .ok (.slice (some ⟨w.heap.size, 0, none⟩) 0 (n + 1)) (w.alloc (.cells (madeCells #[.int .i64 0] (n + 1)) 3)) := by
  obtain ⟨i0, hi, hz0, hz1, hz2⟩ := info_parts inf3
  have := run_make (P := Try.prog) w 25 3 i0 _ Try.underlying25 hi hz0 .i64 .i64 0 ((n : Int) + 1) (by omega) (by omega) (by rw [hz2]; omega) (by omega)
  rw [hz1, show ((n : Int) + 1).toNat = n + 1 by omega] at this
  simpa [Value.cells] using this
theorem made_cap (W : World) (n lo : Nat) (hlo : lo ≤ W.heap.size) (hn : n ≤ 1099511627776) : Row (W.alloc (.cells (madeCells #[.int .i64 0] (n + 1)) 3)) lo (.slice (some ⟨W.heap.size, 0, none⟩) 0 (n + 1)) [] :=
  ⟨rfl, .inr ⟨W.heap.size, n + 1, _, rfl, hlo, heap_alloc_new W _, Nat.zero_le _, by unfold maxLen; omega, by rw [size_madeCells]; omega, by simp [ints]⟩⟩
/-- A row that grows, in memory of its own. -/
structure RG (W wr : World) (v : Value) (l : List Int) : Prop where
  row : Row wr W.heap.size v l
  below : Below W.heap.size W wr
theorem RG.grow {W wr w2 : World} {v : Value} {l : List Int} {z : Int} {g cap : Nat} {o : Obj} (h : RG W wr v l) (hown : w2.ownsRow W.heap.size 3 1 (.slice (some ⟨g, 0, none⟩) (l.length + 1) cap) (l.length + 1) (ints l ++ [.int .i64 z])) (hg : (wr.alloc o).grownBy w2 v.ownBlock) : RG W w2 (.slice (some ⟨g, 0, none⟩) (l.length + 1) cap) (l ++ [z]) := by
  refine ⟨?_, (h.below.alloc h.below.size o).grown hg (Nat.le_trans h.below.size (by simp)) (fun j hj => (h.row.lo j hj).1)⟩
  have e1 : (l ++ [z]).length = l.length + 1 := by simp
  have e2 : ints (l ++ [z]) = ints l ++ [.int .i64 z] := by simp [ints]
  unfold Row
  rw [e1, e2]
  exact hown
set_option maxRecDepth 100000 in
set_option maxHeartbeats 1000000 in
theorem twin_ints (W : World) (lo : Nat) (hlo : lo ≤ W.heap.size) (v : Value) (r : List Int) (h : Rd W lo v r) (hr : r.length ≤ 1048576) : Calls Try.prog 17 #[v] W fun e w' => ∃ v', e = .returned v' ∧ RG W w' v' r := by
  obtain ⟨i0, hi, hz0, hz1, hz2⟩ := info_parts inf3
  obtain ⟨ao, c, rfl, hle, hcc, hcs⟩ := h
  have HC := hid hcs
  clear hcs
  have mk := mk_cap r.length (by omega)
  have R0 : Hid (RG W (W.alloc (.cells (madeCells #[.int .i64 0] (r.length + 1)) 3)) (.slice (some ⟨W.heap.size, 0, none⟩) 0 (r.length + 1)) []) := hid ⟨made_cap W r.length _ (Nat.le_refl _) (by omega), (Below.refl _ _).alloc (Nat.le_refl _) _⟩
  go_enter Try.func17, Try.ntmps17
  go_wp2_with (fail)
  generalize (W.alloc (.cells (madeCells #[.int .i64 0] (r.length + 1)) 3)) = W1 at *
  clear mk
  go_loopw [3, 4] (fun s3 s4 wr => ∃ k : Nat, k ≤ r.length ∧ s4 = .int .i64 (k : Int) ∧ Hid (RG W wr s3 (r.take k))) (fun _ s4 _ => r.length - (intOf s4).toNat)
  case atStart => exact ⟨0, by omega, rfl, R0⟩
  case round =>
    clear R0
    obtain ⟨k, hk, rfl, HK⟩ := hrel
    obtain ⟨sa, sc, hs, hsc, _⟩ := HK.out.row.at
    have htl : (r.take k).length = k := by rw [List.length_take]; omega
    rw [htl] at hs hsc
    subst hs
    have HRW : Hid (wr.ownsRow W.heap.size 3 1 (.slice sa k sc) k (ints (r.take k))) := hid (by have := HK.out.row; unfold Row at this; rw [htl] at this; exact this)
    have hsz := HK.out.below.size
    have HTL := hid htl
    clear htl
    by_cases hlt : k < r.length
    · have hlt' : (k : Int) < (r.length : Int) := by omega
      obtain ⟨b, o, rfl, hb, hc⟩ := HC.out.resolve_left (by intro e; rw [e] at hlt; simp at hlt)
      have hck := (HK.out.below.cell (p := ⟨b, o + k, none⟩) (show b < W.heap.size by omega)).trans (hc k hlt)
      clear hc
      have HTK := hid (take_ga hlt)
      generalize ga r k = z at *
      go_wp2_with (at_builtin; refine wpList_append_lies _ rfl (.tmp 15) (.tmp 20) 25 rfl W.heap.size 3 i0 _ 1 8 Try.underlying25 hi hz0 hz1 hz2 rfl (by decide) (.slice sa k sc) k (ints (r.take k)) rfl (World.ownsRow.alloc HRW.out _) ⟨wr.heap.size, 0, none⟩ 1 1 [.int .i64 z] rfl rfl (cell_one_new _ _ _) (by simp [Value.oneCell']) (by omega) (by unfold maxLen; omega) (by omega) (by simp; omega) (wr.heap.size + 1) (by simp) ?_; intro g cap w2 hown2 hgr2 _ _; have HO2 := hid hown2; have HG2 := hid hgr2; clear hown2 hgr2)
      go_roundw
      case rel =>
        refine ⟨k + 1, by omega, by go_num, hid ?_⟩
        rw [HTK.out]
        have := HK.out.grow (z := z) (g := g) (cap := cap) (by rw [HTL.out]; exact HO2.out) HG2.out
        rw [HTL.out] at this
        exact this
      case measure => simp [intOf]; omega
    · have hlt' : ¬ (k : Int) < (r.length : Int) := by omega
      obtain rfl : k = r.length := by omega
      have HX : Hid (RG W wr (.slice sa r.length sc) r) := hid (by have := HK.out; rw [List.take_length] at this; exact this)
      rw [List.take_length] at HRW
      clear HK
      go_wp2_with (at_builtin; refine wpList_append_lies _ rfl (.tmp 22) (.tmp 23) 25 rfl W.heap.size 3 i0 _ 1 8 Try.underlying25 hi hz0 hz1 hz2 rfl (by decide) (.slice sa r.length sc) r.length (ints r) rfl (World.ownsRow.alloc HRW.out _) ⟨wr.heap.size, 0, none⟩ 1 1 [.int .i64 77] rfl rfl (cell_one_new _ _ _) (by simp [Value.oneCell']) (by omega) (by unfold maxLen; omega) (by omega) (by simp; omega) (wr.heap.size + 1) (by simp) ?_; intro g cap w2 hown2 hgr2 _ _; have hcap : r.length + 1 ≤ cap := (by obtain ⟨_, ⟨h1, _⟩ | ⟨g', cap', cur, h1, _, _, h2, _⟩⟩ := hown2 <;> cases h1; exact h2); have HO2 := hid hown2; have HG2 := hid hgr2; clear hown2 hgr2)
      go_ret
      have hfin := HX.out.grow (z := 77) (g := g) (cap := cap) HO2.out HG2.out
      refine ⟨_, rfl, ?_, hfin.below⟩
      have hcut := Row.cut (l := r ++ [77]) (n := r.length) (c := cap) (g := g) (by rw [List.length_append]; exact hfin.row) (by simp)
      rw [List.take_append_of_le_length (Nat.le_refl _), List.take_length] at hcut
      exact hcut
end Go.Proofs.Ytdhjedpgdhageaa.Ord
