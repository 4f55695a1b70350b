/-
  The words of the language; names.
-/
import Derived.Test.YtkieljleopbhoaaDoorLen
import Derived.Laws.Rows
import Derived.OwnWalk
namespace Go.Proofs.YtkieljleopbhoaaDoor.Lex
open Go.RowKit
/-- The words of the language. -/
def resL : List ByteArray := [⟨#[115, 116, 97, 116, 105, 111, 110, 115]⟩, ⟨#[105, 110]⟩, ⟨#[97, 116]⟩, ⟨#[102, 108, 111, 119]⟩, ⟨#[100, 101, 102, 97, 117, 108, 116]⟩, ⟨#[111, 117, 116]⟩, ⟨#[105, 102]⟩, ⟨#[116, 104, 101, 110]⟩, ⟨#[101, 108, 115, 101]⟩, ⟨#[112, 114, 101]⟩, ⟨#[97, 110, 100]⟩, ⟨#[111, 114]⟩, ⟨#[110, 111, 116]⟩, ⟨#[116, 114, 117, 101]⟩, ⟨#[102, 97, 108, 115, 101]⟩, ⟨#[105, 110, 116]⟩, ⟨#[98, 111, 111, 108]⟩]
def resV : Array Value := #[.string ⟨#[115, 116, 97, 116, 105, 111, 110, 115]⟩, .string ⟨#[105, 110]⟩, .string ⟨#[97, 116]⟩, .string ⟨#[102, 108, 111, 119]⟩, .string ⟨#[100, 101, 102, 97, 117, 108, 116]⟩, .string ⟨#[111, 117, 116]⟩, .string ⟨#[105, 102]⟩, .string ⟨#[116, 104, 101, 110]⟩, .string ⟨#[101, 108, 115, 101]⟩, .string ⟨#[112, 114, 101]⟩, .string ⟨#[97, 110, 100]⟩, .string ⟨#[111, 114]⟩, .string ⟨#[110, 111, 116]⟩, .string ⟨#[116, 114, 117, 101]⟩, .string ⟨#[102, 97, 108, 115, 101]⟩, .string ⟨#[105, 110, 116]⟩, .string ⟨#[98, 111, 111, 108]⟩]
def resS (k : Nat) : ByteArray := resL.getD k ⟨#[]⟩
def isRes (s : ByteArray) : Bool := resL.any fun x => x.toList == s.toList
/-- The package's table of words stands as it is laid. -/
def TabR (w : World) : Prop := ∃ t fz, w.heap[3]? = some (.cells resV t fz)
theorem TabR.below {w w' : World} (h : TabR w) (hb : Below w.heap.size w w') : TabR w' := by
  obtain ⟨t, fz, h⟩ := h
  exact ⟨t, fz, (hb.block 3 (Array.getElem?_eq_some_iff.1 h).1).trans h⟩
theorem res_index_0 (w : World) : (Instr.index 129 (.agg resV) (.int .i64 0)).run Tryd.prog w = .ok (.string ⟨#[115, 116, 97, 116, 105, 111, 110, 115]⟩) w := by kernel_rfl
theorem res_index_1 (w : World) : (Instr.index 129 (.agg resV) (.int .i64 1)).run Tryd.prog w = .ok (.string ⟨#[105, 110]⟩) w := by kernel_rfl
theorem res_index_2 (w : World) : (Instr.index 129 (.agg resV) (.int .i64 2)).run Tryd.prog w = .ok (.string ⟨#[97, 116]⟩) w := by kernel_rfl
theorem res_index_3 (w : World) : (Instr.index 129 (.agg resV) (.int .i64 3)).run Tryd.prog w = .ok (.string ⟨#[102, 108, 111, 119]⟩) w := by kernel_rfl
theorem res_index_4 (w : World) : (Instr.index 129 (.agg resV) (.int .i64 4)).run Tryd.prog w = .ok (.string ⟨#[100, 101, 102, 97, 117, 108, 116]⟩) w := by kernel_rfl
theorem res_index_5 (w : World) : (Instr.index 129 (.agg resV) (.int .i64 5)).run Tryd.prog w = .ok (.string ⟨#[111, 117, 116]⟩) w := by kernel_rfl
theorem res_index_6 (w : World) : (Instr.index 129 (.agg resV) (.int .i64 6)).run Tryd.prog w = .ok (.string ⟨#[105, 102]⟩) w := by kernel_rfl
theorem res_index_7 (w : World) : (Instr.index 129 (.agg resV) (.int .i64 7)).run Tryd.prog w = .ok (.string ⟨#[116, 104, 101, 110]⟩) w := by kernel_rfl
theorem res_index_8 (w : World) : (Instr.index 129 (.agg resV) (.int .i64 8)).run Tryd.prog w = .ok (.string ⟨#[101, 108, 115, 101]⟩) w := by kernel_rfl
theorem res_index_9 (w : World) : (Instr.index 129 (.agg resV) (.int .i64 9)).run Tryd.prog w = .ok (.string ⟨#[112, 114, 101]⟩) w := by kernel_rfl
theorem res_index_10 (w : World) : (Instr.index 129 (.agg resV) (.int .i64 10)).run Tryd.prog w = .ok (.string ⟨#[97, 110, 100]⟩) w := by kernel_rfl
theorem res_index_11 (w : World) : (Instr.index 129 (.agg resV) (.int .i64 11)).run Tryd.prog w = .ok (.string ⟨#[111, 114]⟩) w := by kernel_rfl
theorem res_index_12 (w : World) : (Instr.index 129 (.agg resV) (.int .i64 12)).run Tryd.prog w = .ok (.string ⟨#[110, 111, 116]⟩) w := by kernel_rfl
theorem res_index_13 (w : World) : (Instr.index 129 (.agg resV) (.int .i64 13)).run Tryd.prog w = .ok (.string ⟨#[116, 114, 117, 101]⟩) w := by kernel_rfl
theorem res_index_14 (w : World) : (Instr.index 129 (.agg resV) (.int .i64 14)).run Tryd.prog w = .ok (.string ⟨#[102, 97, 108, 115, 101]⟩) w := by kernel_rfl
theorem res_index_15 (w : World) : (Instr.index 129 (.agg resV) (.int .i64 15)).run Tryd.prog w = .ok (.string ⟨#[105, 110, 116]⟩) w := by kernel_rfl
theorem res_index_16 (w : World) : (Instr.index 129 (.agg resV) (.int .i64 16)).run Tryd.prog w = .ok (.string ⟨#[98, 111, 111, 108]⟩) w := by kernel_rfl
theorem res_index (k : Nat) (hk : k < 17) (w : World) : (Instr.index 129 (.agg resV) (.int .i64 (k : Int))).run Tryd.prog w = .ok (.string (resS k)) w := by
  have h : k = 0 ∨ k = 1 ∨ k = 2 ∨ k = 3 ∨ k = 4 ∨ k = 5 ∨ k = 6 ∨ k = 7 ∨ k = 8 ∨ k = 9 ∨ k = 10 ∨ k = 11 ∨ k = 12 ∨ k = 13 ∨ k = 14 ∨ k = 15 ∨ k = 16 := by omega
  rcases h with rfl | rfl | rfl | rfl | rfl | rfl | rfl | rfl | rfl | rfl | rfl | rfl | rfl | rfl | rfl | rfl | rfl
  · exact res_index_0 w
  · exact res_index_1 w
  · exact res_index_2 w
  · exact res_index_3 w
  · exact res_index_4 w
  · exact res_index_5 w
  · exact res_index_6 w
  · exact res_index_7 w
  · exact res_index_8 w
  · exact res_index_9 w
  · exact res_index_10 w
  · exact res_index_11 w
  · exact res_index_12 w
  · exact res_index_13 w
  · exact res_index_14 w
  · exact res_index_15 w
  · exact res_index_16 w
theorem res_cell (k : Nat) (hk : k < 17) : resV[k]? = some (.string (resS k)) := by
  have h : k = 0 ∨ k = 1 ∨ k = 2 ∨ k = 3 ∨ k = 4 ∨ k = 5 ∨ k = 6 ∨ k = 7 ∨ k = 8 ∨ k = 9 ∨ k = 10 ∨ k = 11 ∨ k = 12 ∨ k = 13 ∨ k = 14 ∨ k = 15 ∨ k = 16 := by omega
  rcases h with rfl | rfl | rfl | rfl | rfl | rfl | rfl | rfl | rfl | rfl | rfl | rfl | rfl | rfl | rfl | rfl | rfl
  all_goals rfl
theorem isRes_true {s : ByteArray} (k : Nat) (hk : k < 17) (h : ((resS k).toList == s.toList) = true) : isRes s = true := by
  unfold isRes
  rw [List.any_eq_true]
  refine ⟨resS k, ?_, h⟩
  unfold resS
  rw [List.getD_eq_getElem?_getD, List.getElem?_eq_getElem (show k < resL.length from hk)]
  exact List.getElem_mem _
theorem isRes_false {s : ByteArray} (h : ∀ k, k < 17 → ((resS k).toList == s.toList) = false) : isRes s = false := by
  unfold isRes
  rw [List.any_eq_false]
  intro x hx hxs
  obtain ⟨k, hk, e⟩ := List.getElem_of_mem hx
  have := h k hk
  unfold resS at this
  rw [List.getD_eq_getElem?_getD, List.getElem?_eq_getElem hk, e] at this
  simp only [Option.getD_some] at this
  rw [this] at hxs
  cases hxs
theorem isReserved (s : ByteArray) (w : World) (hT : TabR w) : Calls Tryd.prog 91 #[.string s] w fun e w' => e = .returned (.bool (isRes s)) ∧ w' = w := by
  obtain ⟨t, fz, h0⟩ := hT
  go_enter Tryd.func91, Tryd.ntmps91
  go_wp2_with (refine wpList_load_row rfl 129 _ rfl 3 rfl t resV fz _ h0 Tryd.underlying129 rfl (by kernel_rfl) ?_)
  go_loop [6] (fun i => ∃ k : Nat, k ≤ 17 ∧ i = .int .i64 k ∧ Hid (∀ j, j < k → ((resS j).toList == s.toList) = false)) (fun i => 17 - (intOf i).toNat)
  case atStart => exact ⟨0, by omega, rfl, fun j hj => by omega⟩
  case round =>
    obtain ⟨k, hk, rfl, hall⟩ := hrel
    by_cases hlt : k < 17
    · have hlt' : (k : Int) < 17 := by omega
      have hx := fun W => res_index k hlt W
      generalize hv : resV = V at hx ⊢
      clear hv h0
      cases he : ((resS k).toList == s.toList)
      · have Hnew : Hid (∀ j, j < k + 1 → ((resS j).toList == s.toList) = false) := fun j hj => by
          by_cases e : j = k
          · rw [e]; exact he
          · exact hall.out j (by omega)
        go_wp2
        go_round
        case rel => exact ⟨k + 1, by omega, by go_num, Hnew⟩
        case measure => simp [intOf]; omega
      · have Hr : Hid (isRes s = true) := isRes_true k hlt he
        go_wp2
        go_ret
        exact ⟨by rw [Hr.out]; rfl, rfl⟩
    · have Hr : Hid (isRes s = false) := isRes_false fun j hj => hall.out j (by omega)
      have hlt' : ¬ (k : Int) < 17 := by omega
      go_wp2
      go_ret
      exact ⟨by rw [Hr.out]; rfl, rfl⟩
theorem size_list (s : ByteArray) : s.toList.length = s.size := by rw [ByteArray.toList_eq, ← Lib.size_eq]
theorem empty_yes {s : ByteArray} (h : s.size = 0) : s.toList.isEmpty = true := by
  rw [List.isEmpty_iff_length_eq_zero, size_list]; exact h
theorem empty_no {s : ByteArray} (h : ¬ s.size = 0) : s.toList.isEmpty = false := by
  cases he : s.toList.isEmpty with
  | false => rfl
  | true => rw [List.isEmpty_iff_length_eq_zero, size_list] at he; exact (h he).elim
/-- May a text be a name? -/
def isName (s : ByteArray) : Bool := decide (0 < s.size) && (decide (s.size ≤ 40) && (decide (wordLen s.data.toList = s.size) && !isRes s))
theorem name (s : ByteArray) (w : World) (hT : TabR w) : Calls Tryd.prog 71 #[.string s] w fun e w' => e = .returned (.bool (isName s)) ∧ Below w.heap.size w w' := by
  have hw := wordLength s w
  have hr := fun W hT => isReserved s W hT
  unfold isName
  generalize wordLen s.data.toList = n at hw
  generalize isRes s = r at hr
  by_cases h0 : s.size = 0
  · have he : s.toList.isEmpty = true := empty_yes h0
    have Hz : Hid (decide (0 < s.size) = false) := decide_eq_false (by omega)
    clear h0
    go_enter Tryd.func71, Tryd.ntmps71
    go_wp2
    go_ret
    exact ⟨by rw [Hz.out]; simp, Below.refl _ _⟩
  · have he : s.toList.isEmpty = false := empty_no h0
    have Hz : Hid (decide (0 < s.size) = true) := decide_eq_true (by omega)
    by_cases h40 : s.size ≤ 40
    · have h40' : (s.size : Int) ≤ 40 := by omega
      have H40 : Hid (decide (s.size ≤ 40) = true) := decide_eq_true h40
      by_cases hn : n = s.size
      · have hn' : ((n : Int) == (s.size : Int)) = true := by simp [hn]
        have Hn : Hid (decide (n = s.size) = true) := decide_eq_true hn
        clear h0 hn
        go_enter Tryd.func71, Tryd.ntmps71
        go_wp2_with (first
          | (go_at_call 52; refine hw.mono ?_; rintro e w2 ⟨rfl, hk2⟩)
          | (go_at_call 91; refine (hr w2 (hT.below hk2)).mono ?_; rintro e w3 ⟨rfl, h3⟩; rw [h3]; clear h3 w3))
        go_ret
        exact ⟨by rw [Hz.out, H40.out, Hn.out]; simp, hk2⟩
      · have hn' : ((n : Int) == (s.size : Int)) = false := by simp; omega
        have Hn : Hid (decide (n = s.size) = false) := decide_eq_false hn
        clear h0 hn
        go_enter Tryd.func71, Tryd.ntmps71
        go_wp2_with (go_at_call 52; refine hw.mono ?_; rintro e w2 ⟨rfl, hk2⟩)
        go_ret
        exact ⟨by rw [Hz.out, H40.out, Hn.out]; simp, hk2⟩
    · have h40' : ¬ (s.size : Int) ≤ 40 := by omega
      have H40 : Hid (decide (s.size ≤ 40) = false) := decide_eq_false h40
      clear h0 h40
      go_enter Tryd.func71, Tryd.ntmps71
      go_wp2
      go_ret
      exact ⟨by rw [Hz.out, H40.out]; simp, Below.refl _ _⟩
theorem refName (s : ByteArray) (w : World) (hs : s.size ≤ 140737488355328) : Calls Tryd.prog 50 #[.string s] w fun e w' => e = .returned (.bool (isName s)) ∧ Below w.heap.size w w' := by
  have hw := refWord s 0 w (Nat.zero_le _) hs
  rw [List.drop_zero] at hw
  unfold isName
  generalize wordLen s.data.toList = n at hw
  by_cases h0 : s.size = 0
  · have he : s.toList.isEmpty = true := empty_yes h0
    have Hz : Hid (decide (0 < s.size) = false) := decide_eq_false (by omega)
    clear h0
    go_enter Tryd.func50, Tryd.ntmps50
    go_wp2
    go_ret
    exact ⟨by rw [Hz.out]; simp, Below.refl _ _⟩
  · have he : s.toList.isEmpty = false := empty_no h0
    have Hz : Hid (decide (0 < s.size) = true) := decide_eq_true (by omega)
    by_cases h40 : s.size ≤ 40
    · have h40' : ¬ (40 : Int) < (s.size : Int) := by omega
      have H40 : Hid (decide (s.size ≤ 40) = true) := decide_eq_true h40
      by_cases hn : n = s.size
      · have hn' : ((n : Int) != (s.size : Int)) = false := by simp [hn]
        have Hn : Hid (decide (n = s.size) = true) := decide_eq_true hn
        clear h0 hn
        go_enter Tryd.func50, Tryd.ntmps50
        go_wp2_with (go_at_call 73; refine hw.mono ?_; rintro e w2 ⟨rfl, h2⟩; rw [h2]; clear h2 w2)
        have hc : ∀ k, k < 17 → (w.alloc (.cells resV 9)).cell? ⟨w.heap.size, k, none⟩ = some (.string (resS k)) := fun k hk => by
          rw [World.cell?_alloc_at _ _ _ _ rfl]
          exact res_cell k hk
        have hb : Below w.heap.size w (w.alloc (.cells resV 9)) := (Below.refl _ _).alloc (Nat.le_refl _) _
        have HC : Hid (∀ k, k < 17 → (w.alloc (.cells resV 9)).cell? ⟨w.heap.size, k, none⟩ = some (.string (resS k))) := hc
        clear hc
        have eV : resV = #[.string ⟨#[115, 116, 97, 116, 105, 111, 110, 115]⟩, .string ⟨#[105, 110]⟩, .string ⟨#[97, 116]⟩, .string ⟨#[102, 108, 111, 119]⟩, .string ⟨#[100, 101, 102, 97, 117, 108, 116]⟩, .string ⟨#[111, 117, 116]⟩, .string ⟨#[105, 102]⟩, .string ⟨#[116, 104, 101, 110]⟩, .string ⟨#[101, 108, 115, 101]⟩, .string ⟨#[112, 114, 101]⟩, .string ⟨#[97, 110, 100]⟩, .string ⟨#[111, 114]⟩, .string ⟨#[110, 111, 116]⟩, .string ⟨#[116, 114, 117, 101]⟩, .string ⟨#[102, 97, 108, 115, 101]⟩, .string ⟨#[105, 110, 116]⟩, .string ⟨#[98, 111, 111, 108]⟩] := rfl
        rw [← eV]
        clear eV
        generalize w.alloc (.cells resV 9) = W1 at HC hb ⊢
        go_loop [4] (fun i => ∃ k : Nat, k ≤ 17 ∧ i = .int .i64 k ∧ Hid (∀ j, j < k → ((resS j).toList == s.toList) = false)) (fun i => 17 - (intOf i).toNat)
        case atStart => exact ⟨0, by omega, rfl, fun j hj => by omega⟩
        case round =>
          obtain ⟨k, hk, rfl, hall⟩ := hrel
          by_cases hlt : k < 17
          · have hlt' : (k : Int) < 17 := by omega
            have hk0 : (0 : Int) ≤ (k : Int) := by omega
            have hx := HC.out k hlt
            cases hq : ((resS k).toList == s.toList)
            · have Hnew : Hid (∀ j, j < k + 1 → ((resS j).toList == s.toList) = false) := fun j hj => by
                by_cases e : j = k
                · rw [e]; exact hq
                · exact hall.out j (by omega)
              go_wp2
              go_round
              case rel => exact ⟨k + 1, by omega, by go_num, Hnew⟩
              case measure => simp [intOf]; omega
            · have Hr : Hid (isRes s = true) := isRes_true k hlt hq
              go_wp2
              go_ret
              exact ⟨by rw [Hr.out]; simp, hb⟩
          · have Hr : Hid (isRes s = false) := isRes_false fun j hj => hall.out j (by omega)
            have hlt' : ¬ (k : Int) < 17 := by omega
            go_wp2
            go_ret
            exact ⟨by rw [Hr.out, Hz.out, Hn.out]; rfl, hb⟩
      · have hn' : ((n : Int) != (s.size : Int)) = true := by simp; omega
        have Hn : Hid (decide (n = s.size) = false) := decide_eq_false hn
        clear h0 hn
        go_enter Tryd.func50, Tryd.ntmps50
        go_wp2_with (go_at_call 73; refine hw.mono ?_; rintro e w2 ⟨rfl, h2⟩; rw [h2]; clear h2 w2)
        go_ret
        exact ⟨by rw [Hz.out, H40.out, Hn.out]; simp, Below.refl _ _⟩
    · have h40' : (40 : Int) < (s.size : Int) := by omega
      have H40 : Hid (decide (s.size ≤ 40) = false) := decide_eq_false h40
      clear h0 h40
      go_enter Tryd.func50, Tryd.ntmps50
      go_wp2
      go_ret
      exact ⟨by rw [Hz.out, H40.out]; simp, Below.refl _ _⟩
end Go.Proofs.YtkieljleopbhoaaDoor.Lex
