/-
  What says nothing; signs; what each kind of token is asked by; a token.
-/
import Derived.Test.YtkieljleopbhoaaDoorNum
import Derived.WalkKit
import Derived.ProofKit
import Derived.OpenShut
import Derived.ShutString
import Derived.ChangeOld
import Derived.Below
import Derived.LaidMore
import Derived.SizedLaws
import Derived.Lib.LaidTab
import Derived.Lib.SmallJoins
namespace Go.Proofs.YtkieljleopbhoaaDoor.Lex
open Go.RowKit
/-- How many bytes that say nothing a text begins with. -/
def silLen (l : List UInt8) : Nat := if Lib.hasPrefix l [45, 45] then span ofLine l else span blank l
theorem silentLength (s : ByteArray) (w : World) : Calls Tryd.prog 51 #[.string s] w fun e w' => e = .returned (.int .i64 (silLen s.data.toList : Int)) ∧ Below w.heap.size w w' := by
  have h1 : Calls Tryd.prog 69 #[.string s, .string ⟨#[45, 45]⟩] w fun e w' => e = .returned (.bool (Lib.hasPrefix s.data.toList [45, 45])) ∧ w' = w := Tryd.strings_HasPrefix s ⟨#[45, 45]⟩ w
  have h2 := run_ofLine s w
  have h3 := run_blank s w
  unfold silLen
  cases hp : Lib.hasPrefix s.data.toList [45, 45]
  · rw [hp] at h1
    rw [if_neg (by simp)]
    generalize span blank s.data.toList = n at h3
    go_enter Tryd.func51, Tryd.ntmps51
    go_wp2_with (first
      | (go_at_call 69; refine h1.mono ?_; rintro e w2 ⟨rfl, h⟩; rw [h]; clear h w2)
      | (go_at_call 74; refine h3.mono ?_; rintro e w2 ⟨rfl, hb⟩))
    go_ret
    exact ⟨rfl, hb⟩
  · rw [hp] at h1
    rw [if_pos rfl]
    generalize span ofLine s.data.toList = n at h2
    go_enter Tryd.func51, Tryd.ntmps51
    go_wp2_with (first
      | (go_at_call 69; refine h1.mono ?_; rintro e w2 ⟨rfl, h⟩; rw [h]; clear h w2)
      | (go_at_call 74; refine h2.mono ?_; rintro e w2 ⟨rfl, hb⟩))
    go_ret
    exact ⟨rfl, hb⟩
/-- The signs. -/
def sgL : List ByteArray := [⟨#[60, 61]⟩, ⟨#[61, 61]⟩, ⟨#[33, 61]⟩, ⟨#[45, 62]⟩, ⟨#[40]⟩, ⟨#[41]⟩, ⟨#[58]⟩, ⟨#[59]⟩, ⟨#[44]⟩, ⟨#[61]⟩, ⟨#[43]⟩, ⟨#[45]⟩, ⟨#[42]⟩, ⟨#[47]⟩, ⟨#[37]⟩, ⟨#[60]⟩]
def sgV : Array Value := #[.string ⟨#[60, 61]⟩, .string ⟨#[61, 61]⟩, .string ⟨#[33, 61]⟩, .string ⟨#[45, 62]⟩, .string ⟨#[40]⟩, .string ⟨#[41]⟩, .string ⟨#[58]⟩, .string ⟨#[59]⟩, .string ⟨#[44]⟩, .string ⟨#[61]⟩, .string ⟨#[43]⟩, .string ⟨#[45]⟩, .string ⟨#[42]⟩, .string ⟨#[47]⟩, .string ⟨#[37]⟩, .string ⟨#[60]⟩]
def sgS (k : Nat) : ByteArray := sgL.getD k ⟨#[]⟩
/-- How many bytes the first of the signs has that a text begins with. -/
def signLen (l : List UInt8) : Nat := match sgL.find? fun p => Lib.hasPrefix l p.data.toList with | some p => p.size | none => 0
/-- The package's table of signs stands as it is laid. -/
def TabS (w : World) : Prop := ∃ t fz, w.heap[1]? = some (.cells sgV t fz)
theorem TabS.below {w w' : World} (h : TabS w) (hb : Below w.heap.size w w') : TabS w' := by
  obtain ⟨t, fz, h⟩ := h
  exact ⟨t, fz, (hb.block 1 (Array.getElem?_eq_some_iff.1 h).1).trans h⟩
theorem sg_index_0 (w : World) : (Instr.index 100 (.agg sgV) (.int .i64 0)).run Tryd.prog w = .ok (.string ⟨#[60, 61]⟩) w := by kernel_rfl
theorem sg_index_1 (w : World) : (Instr.index 100 (.agg sgV) (.int .i64 1)).run Tryd.prog w = .ok (.string ⟨#[61, 61]⟩) w := by kernel_rfl
theorem sg_index_2 (w : World) : (Instr.index 100 (.agg sgV) (.int .i64 2)).run Tryd.prog w = .ok (.string ⟨#[33, 61]⟩) w := by kernel_rfl
theorem sg_index_3 (w : World) : (Instr.index 100 (.agg sgV) (.int .i64 3)).run Tryd.prog w = .ok (.string ⟨#[45, 62]⟩) w := by kernel_rfl
theorem sg_index_4 (w : World) : (Instr.index 100 (.agg sgV) (.int .i64 4)).run Tryd.prog w = .ok (.string ⟨#[40]⟩) w := by kernel_rfl
theorem sg_index_5 (w : World) : (Instr.index 100 (.agg sgV) (.int .i64 5)).run Tryd.prog w = .ok (.string ⟨#[41]⟩) w := by kernel_rfl
theorem sg_index_6 (w : World) : (Instr.index 100 (.agg sgV) (.int .i64 6)).run Tryd.prog w = .ok (.string ⟨#[58]⟩) w := by kernel_rfl
theorem sg_index_7 (w : World) : (Instr.index 100 (.agg sgV) (.int .i64 7)).run Tryd.prog w = .ok (.string ⟨#[59]⟩) w := by kernel_rfl
theorem sg_index_8 (w : World) : (Instr.index 100 (.agg sgV) (.int .i64 8)).run Tryd.prog w = .ok (.string ⟨#[44]⟩) w := by kernel_rfl
theorem sg_index_9 (w : World) : (Instr.index 100 (.agg sgV) (.int .i64 9)).run Tryd.prog w = .ok (.string ⟨#[61]⟩) w := by kernel_rfl
theorem sg_index_10 (w : World) : (Instr.index 100 (.agg sgV) (.int .i64 10)).run Tryd.prog w = .ok (.string ⟨#[43]⟩) w := by kernel_rfl
theorem sg_index_11 (w : World) : (Instr.index 100 (.agg sgV) (.int .i64 11)).run Tryd.prog w = .ok (.string ⟨#[45]⟩) w := by kernel_rfl
theorem sg_index_12 (w : World) : (Instr.index 100 (.agg sgV) (.int .i64 12)).run Tryd.prog w = .ok (.string ⟨#[42]⟩) w := by kernel_rfl
theorem sg_index_13 (w : World) : (Instr.index 100 (.agg sgV) (.int .i64 13)).run Tryd.prog w = .ok (.string ⟨#[47]⟩) w := by kernel_rfl
theorem sg_index_14 (w : World) : (Instr.index 100 (.agg sgV) (.int .i64 14)).run Tryd.prog w = .ok (.string ⟨#[37]⟩) w := by kernel_rfl
theorem sg_index_15 (w : World) : (Instr.index 100 (.agg sgV) (.int .i64 15)).run Tryd.prog w = .ok (.string ⟨#[60]⟩) w := by kernel_rfl
theorem sg_index (k : Nat) (hk : k < 16) (w : World) : (Instr.index 100 (.agg sgV) (.int .i64 (k : Int))).run Tryd.prog w = .ok (.string (sgS k)) w := by
  have h : k = 0 ∨ k = 1 ∨ k = 2 ∨ k = 3 ∨ k = 4 ∨ k = 5 ∨ k = 6 ∨ k = 7 ∨ k = 8 ∨ k = 9 ∨ k = 10 ∨ k = 11 ∨ k = 12 ∨ k = 13 ∨ k = 14 ∨ k = 15 := by omega
  rcases h with rfl | rfl | rfl | rfl | rfl | rfl | rfl | rfl | rfl | rfl | rfl | rfl | rfl | rfl | rfl | rfl
  · exact sg_index_0 w
  · exact sg_index_1 w
  · exact sg_index_2 w
  · exact sg_index_3 w
  · exact sg_index_4 w
  · exact sg_index_5 w
  · exact sg_index_6 w
  · exact sg_index_7 w
  · exact sg_index_8 w
  · exact sg_index_9 w
  · exact sg_index_10 w
  · exact sg_index_11 w
  · exact sg_index_12 w
  · exact sg_index_13 w
  · exact sg_index_14 w
  · exact sg_index_15 w
theorem sg_size (k : Nat) (hk : k < 16) : 1 ≤ (sgS k).size ∧ (sgS k).size ≤ 2 := by
  have h : k = 0 ∨ k = 1 ∨ k = 2 ∨ k = 3 ∨ k = 4 ∨ k = 5 ∨ k = 6 ∨ k = 7 ∨ k = 8 ∨ k = 9 ∨ k = 10 ∨ k = 11 ∨ k = 12 ∨ k = 13 ∨ k = 14 ∨ k = 15 := by omega
  rcases h with rfl | rfl | rfl | rfl | rfl | rfl | rfl | rfl | rfl | rfl | rfl | rfl | rfl | rfl | rfl | rfl
  all_goals exact ⟨by decide, by decide⟩
theorem find_at : ∀ (l : List ByteArray) (p : ByteArray → Bool) (k : Nat), k < l.length → (∀ j, j < k → p (l.getD j ⟨#[]⟩) = false) → p (l.getD k ⟨#[]⟩) = true → l.find? p = some (l.getD k ⟨#[]⟩)
  | [], _, k, hk, _, _ => by simp at hk
  | a :: l, p, 0, _, _, h => by simp at h; simp [List.find?, h]
  | a :: l, p, k + 1, hk, hl, h => by
    have h0 := hl 0 (by omega)
    simp at h0
    have := find_at l p k (by simpa using hk) (fun j hj => by simpa using hl (j + 1) (by omega)) (by simpa using h)
    simp only [List.find?, h0]
    simpa using this
theorem signLen_at {l : List UInt8} (k : Nat) (hk : k < 16) (h1 : ∀ j, j < k → Lib.hasPrefix l (sgS j).data.toList = false) (h2 : Lib.hasPrefix l (sgS k).data.toList = true) : signLen l = (sgS k).size := by
  unfold signLen
  rw [find_at sgL _ k hk h1 h2]
  rfl
theorem signLen_none {l : List UInt8} (h : ∀ j, j < 16 → Lib.hasPrefix l (sgS j).data.toList = false) : signLen l = 0 := by
  unfold signLen
  have : sgL.find? (fun p => Lib.hasPrefix l p.data.toList) = none := by
    rw [List.find?_eq_none]
    intro x hx hxs
    obtain ⟨k, hk, e⟩ := List.mem_iff_getElem.1 hx
    have := h k hk
    unfold sgS at this
    rw [List.getD_eq_getElem?_getD, List.getElem?_eq_getElem hk, e] at this
    simp only [Option.getD_some] at this
    rw [this] at hxs
    cases hxs
  rw [this]
theorem signsLength (s : ByteArray) (w : World) (hT : TabS w) : Calls Tryd.prog 54 #[.string s] w fun e w' => e = .returned (.int .i64 (signLen s.data.toList : Int)) ∧ w' = w := by
  obtain ⟨t, fz, h0⟩ := hT
  go_enter Tryd.func54, Tryd.ntmps54
  go_wp2_with (refine wpList_load_row rfl 100 _ rfl 1 rfl t sgV fz _ h0 Tryd.underlying100 rfl (by kernel_rfl) ?_)
  go_loop [6] (fun i => ∃ k : Nat, k ≤ 16 ∧ i = .int .i64 k ∧ Hid (∀ j, j < k → Lib.hasPrefix s.data.toList (sgS j).data.toList = false)) (fun i => 16 - (intOf i).toNat)
  case atStart => exact ⟨0, by omega, rfl, fun j hj => by omega⟩
  case round =>
    obtain ⟨k, hk, rfl, hall⟩ := hrel
    by_cases hlt : k < 16
    · have hlt' : (k : Int) < 16 := by omega
      have hx := fun W => sg_index k hlt W
      have hp := fun W => Tryd.strings_HasPrefix s (sgS k) W
      generalize hv : sgV = V at hx ⊢
      clear hv h0
      cases he : Lib.hasPrefix s.data.toList (sgS k).data.toList
      · rw [he] at hp
        have Hnew : Hid (∀ j, j < k + 1 → Lib.hasPrefix s.data.toList (sgS j).data.toList = false) := fun j hj => by
          by_cases e : j = k
          · rw [e]; exact he
          · exact hall.out j (by omega)
        generalize sgS k = S at hx hp
        clear he
        go_wp2_with (go_at_call 69; refine (hp _).mono ?_; rintro e w2 ⟨rfl, h⟩; rw [h]; clear h w2)
        go_round
        case rel => exact ⟨k + 1, by omega, by go_num, Hnew⟩
        case measure => simp [intOf]; omega
      · rw [he] at hp
        have Hr : Hid (signLen s.data.toList = (sgS k).size) := signLen_at k hlt hall.out he
        generalize sgS k = S at hx hp Hr
        clear he
        go_wp2_with (go_at_call 69; refine (hp _).mono ?_; rintro e w2 ⟨rfl, h⟩; rw [h]; clear h w2)
        go_ret
        exact ⟨by rw [Hr.out]; rfl, rfl⟩
    · have Hr : Hid (signLen s.data.toList = 0) := signLen_none fun j hj => hall.out j (by omega)
      have hlt' : ¬ (k : Int) < 16 := by omega
      go_wp2
      go_ret
      exact ⟨by rw [Hr.out]; rfl, rfl⟩
end Go.Proofs.YtkieljleopbhoaaDoor.Lex
