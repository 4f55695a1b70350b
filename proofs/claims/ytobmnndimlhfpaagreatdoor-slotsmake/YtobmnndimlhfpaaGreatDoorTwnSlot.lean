/-
  A list in memory of its own, and one value more behind it: TwinSlots.
-/
import Derived.Test.YtobmnndimlhfpaaGreatDoorBk2
import Derived.Test.YtobmnndimlhfpaaGreatDoorRTab
import Derived.Test.YtobmnndimlhfpaaGreatDoorTwnInt
namespace Go.Proofs.YtobmnndimlhfpaaGreatDoor.Slo
set_option linter.unusedVariables false
open Go.ChangeShapes Go.WideShapes Go.ChangeAt Go.RowKit Go.Joins
theorem take_Slot {r : List Sl} {k : Nat} (h : k < r.length) : slsC (r.take (k + 1)) = slsC (r.take k) ++ [.int .i64 (sO r k), .int .i64 (sS r k), .int .i64 (sH r k)] := by
  rw [List.take_succ_eq_append_getElem h]
  unfold slsC
  rw [List.map_append, List.flatten_append]
  congr 1
  simp [slV, sO, sS, sH, h]
/-- A twin: the list's cells, and a spare element behind them. -/
def TwSlot (w : World) (base : Nat) (v : Value) (r : List Sl) : Prop := ∃ g cap, v = .slice (some ⟨g, 0, none⟩) r.length cap ∧ w.ownsRow base 64 3 (.slice (some ⟨g, 0, none⟩) (r.length + 1) cap) (r.length + 1) (slsC r ++ [.int .i64 (-77), .int .i64 0, .int .i64 0])
theorem inz_Slot : (Tryz.prog.info? 64).map (fun i => (i.zero, i.size, i.bytes)) = some (some (.agg #[.int .i64 0, .int .i64 0, .int .i64 0]), 3, 24) := by kernel_rfl
theorem mkc_Slot (n : Nat) (hn : n ≤ 1099511627776) (w : World) : (Instr.makeSlice 25 (.int .i64 0) (.int .i64 ((n : Int) + 1))).run Tryz.prog w = .ok (.slice (some ⟨w.heap.size, 0, none⟩) 0 (n + 1)) (w.alloc (.cells (madeCells #[.int .i64 0, .int .i64 0, .int .i64 0] ((n + 1) * 3)) 64)) := by
  obtain ⟨i0, hi, hz0, hz1, hz2⟩ := info_parts inz_Slot
  have := run_make (P := Tryz.prog) w 25 64 i0 _ Tryz.underlying25 hi hz0 .i64 .i64 0 ((n : Int) + 1) (by omega) (by omega) (by rw [hz2]; omega) (by omega)
  rw [hz1, show ((n : Int) + 1).toNat = n + 1 by omega] at this
  simpa [Value.cells] using this
/-- While it grows. -/
structure TgSlot (W wr : World) (v : Value) (r : List Sl) : Prop where
  row : wr.ownsRow W.heap.size 64 3 v r.length (slsC r)
  below : Below W.heap.size W wr
set_option maxRecDepth 100000 in
set_option maxHeartbeats 4000000 in
theorem twin_Slot (W : World) (v : Value) (r : List Sl) (h : SlR W W.heap.size v r) (hr : r.length ≤ 1048576) : Calls Tryz.prog 21 #[v] W fun e w' => ∃ v', e = .returned v' ∧ TwSlot w' W.heap.size v' r ∧ Below W.heap.size W w' := by
  obtain ⟨i0, hi, hz0, hz1, hz2⟩ := info_parts inz_Slot
  obtain ⟨ao, c, rfl, hle, hcc, hcs⟩ := h
  have HC := hid hcs
  clear hcs
  have mk := mkc_Slot r.length (by omega)
  have R0 : Hid (TgSlot W (W.alloc (.cells (madeCells #[.int .i64 0, .int .i64 0, .int .i64 0] ((r.length + 1) * 3)) 64)) (.slice (some ⟨W.heap.size, 0, none⟩) 0 (r.length + 1)) []) := hid
    ⟨⟨rfl, .inr ⟨W.heap.size, r.length + 1, _, rfl, Nat.le_refl _, heap_alloc_new W _, Nat.zero_le _, by unfold maxLen; omega, by rw [size_madeCells], by simp [slsC]⟩⟩, balloc _ _⟩
  go_enter Tryz.func21, Tryz.ntmps21
  go_wp2_with (fail)
  generalize (W.alloc (.cells (madeCells #[.int .i64 0, .int .i64 0, .int .i64 0] ((r.length + 1) * 3)) 64)) = W1 at *
  clear mk
  go_loopw [3, 4] (fun s3 s4 wr => ∃ k : Nat, k ≤ r.length ∧ s4 = .int .i64 (k : Int) ∧ Hid (TgSlot W wr s3 (r.take k))) (fun _ s4 _ => r.length - (intOf s4).toNat)
  case atStart => exact ⟨0, by omega, rfl, R0⟩
  case round =>
    clear R0
    obtain ⟨k, hk, rfl, HK⟩ := hrel
    have htl : (r.take k).length = k := by rw [List.length_take]; omega
    obtain ⟨sa, sc, hs⟩ := own_form HK.out.row
    rw [htl] at hs
    subst hs
    have HRW : Hid (wr.ownsRow W.heap.size 64 3 (.slice sa k sc) k (slsC (r.take k))) := hid (by have := HK.out.row; rw [htl] at this; exact this)
    have hsz := HK.out.below.size
    have HTL := hid htl
    clear htl
    by_cases hlt : k < r.length
    · have hlt' : (k : Int) < (r.length : Int) := by omega
      obtain ⟨b, o, rfl, hb, hc⟩ := HC.out.resolve_left (by intro e; rw [e] at hlt; simp at hlt)
      obtain ⟨h0, h1, h2⟩ := hc k hlt
      have c0 := (HK.out.below.cell (p := ⟨b, _, none⟩) hb).trans h0
      have c1 := (HK.out.below.cell (p := ⟨b, _, none⟩) hb).trans h1
      have c2 := (HK.out.below.cell (p := ⟨b, _, none⟩) hb).trans h2
      clear h0 h1 h2
      have HTK := hid (take_Slot hlt)
      clear hc
      generalize sO r k = z0 at *
      generalize sS r k = z1 at *
      generalize sH r k = z2 at *
      have HBL := hid HK.out.below
      go_wp2_with (at_builtin; refine wpList_append_two rfl (.tmp 15) (.tmp 20) 25 rfl W.heap.size 64 i0 (.agg #[.int .i64 0, .int .i64 0, .int .i64 0]) 3 24 Tryz.underlying25 hi hz0 hz1 hz2 rfl (by decide) (.slice sa k sc) k (slsC (r.take k)) rfl (World.ownsRow.alloc HRW.out _) ⟨wr.heap.size, 0, none⟩ 1 1 [.int .i64 z0, .int .i64 z1, .int .i64 z2] rfl rfl (next_cells wr [.int .i64 z0, .int .i64 z1, .int .i64 z2] 64) (by simp [Value.oneCell']) (by omega) (by unfold maxLen; omega) (by omega) (by simp; omega) ?_; intro v2 w2 hown2 hc2; obtain ⟨va2, vc2, rfl⟩ := own_form hown2; have HO2 := hid hown2; have HG2 := hid (grown_two HRW.out HBL.out hc2); clear hown2 hc2)
      go_roundw
      case rel =>
        refine ⟨k + 1, by omega, by go_num, hid ⟨?_, HG2.out⟩⟩
        rw [HTK.out, show (r.take (k + 1)).length = k + 1 by rw [List.length_take]; omega]
        exact HO2.out
      case measure => simp [intOf]; omega
    · have hlt' : ¬ (k : Int) < (r.length : Int) := by omega
      obtain rfl : k = r.length := by omega
      rw [List.take_length] at HRW
      have HBL := hid HK.out.below
      clear HK
      go_wp2_with (at_builtin; refine wpList_append_two rfl (.tmp 22) (.tmp 24) 25 rfl W.heap.size 64 i0 (.agg #[.int .i64 0, .int .i64 0, .int .i64 0]) 3 24 Tryz.underlying25 hi hz0 hz1 hz2 rfl (by decide) (.slice sa r.length sc) r.length (slsC r) rfl (World.ownsRow.alloc HRW.out _) ⟨wr.heap.size, 0, none⟩ 1 1 [.int .i64 (-77), .int .i64 0, .int .i64 0] rfl rfl (next_cells wr [.int .i64 (-77), .int .i64 0, .int .i64 0] 64) (by simp [Value.oneCell']) (by omega) (by unfold maxLen; omega) (by omega) (by simp; omega) ?_; intro v2 w2 hown2 hc2; obtain ⟨g, cap, rfl⟩ : ∃ g cap, v2 = .slice (some ⟨g, 0, none⟩) (r.length + 1) cap := (by rcases hown2.2 with ⟨_, h2⟩ | ⟨g, cap, cur, h1, _⟩; omega; exact ⟨g, cap, h1⟩); have hcap : r.length + 1 ≤ cap := (by obtain ⟨_, ⟨h1, _⟩ | ⟨g', cap', cur, h1, _, _, h2, _⟩⟩ := hown2 <;> cases h1; exact h2); have HO2 := hid hown2; have HG2 := hid (grown_two HRW.out HBL.out hc2); clear hown2 hc2)
      go_ret
      exact ⟨_, rfl, ⟨g, cap, rfl, HO2.out⟩, HG2.out⟩
end Go.Proofs.YtobmnndimlhfpaaGreatDoor.Slo
