/-
  The walk of the law on digits.
-/
import Derived.Test.YtafelijlolidhaaDoorDig
import Derived.Test.YtafelijlolidhaaDoorOpen7
namespace Go.Proofs.YtafelijlolidhaaDoor.Lex
open Go.ChangeShapes Go.WideShapes Go.ChangeAt Go.RowKit Go.Joins
def isMt : Value → Nat
  | .string b => if b.size = 0 then 1 else 0
  | _ => 0
theorem data_ne {s : ByteArray} (h : ¬ s.size = 0) : s.data.toList ≠ [] := list_ne h
theorem data_mt {s : ByteArray} (h : s.size = 0) : s.data.toList = [] := List.eq_nil_of_length_eq_zero (by rw [← Lib.size_eq]; exact h)
theorem ten (r : Nat) (h : r < 10) (S : ByteArray) : ((⟨#[48, 49, 50, 51, 52, 53, 54, 55, 56, 57]⟩ : ByteArray).extract r (r + 1) ++ S).data.toList = dg r :: S.data.toList := by
  rw [ByteArray.data_append, Array.toList_append]
  have e : ((⟨#[48, 49, 50, 51, 52, 53, 54, 55, 56, 57]⟩ : ByteArray).extract r (r + 1)).data.toList = [dg r] := by
    rw [ByteArray.data_extract]
    obtain rfl | rfl | rfl | rfl | rfl | rfl | rfl | rfl | rfl | rfl : r = 0 ∨ r = 1 ∨ r = 2 ∨ r = 3 ∨ r = 4 ∨ r = 5 ∨ r = 6 ∨ r = 7 ∨ r = 8 ∨ r = 9 := by omega
    all_goals decide
  rw [e]
  rfl
theorem ten_mt (r : Nat) (h : r < 10) (S : ByteArray) : isMt (.string ((⟨#[48, 49, 50, 51, 52, 53, 54, 55, 56, 57]⟩ : ByteArray).extract r (r + 1) ++ S)) = 0 := by
  unfold isMt
  simp only
  rw [if_neg]
  rw [Lib.size_eq, ten r h S]
  simp
/-- One round. -/
theorem round7 {K M : Nat} {S : ByteArray} (hM : M ≤ 9223372036854775807) (hT : Told K M S.data.toList) (hg : 0 < M ∨ S.size = 0) :
    (∃ (S' : ByteArray) (M' : Nat), Value.string ((⟨#[48, 49, 50, 51, 52, 53, 54, 55, 56, 57]⟩ : ByteArray).extract (M % 10) (M % 10 + 1) ++ S) = .string S' ∧ Value.int .i64 (wrap64 ((M : Int) / 10)) = .int .i64 (M' : Int) ∧ Hid (M' ≤ 9223372036854775807) ∧ Hid (Told K M' S'.data.toList)) ∧
    2 * (intOf (.int .i64 (wrap64 ((M : Int) / 10)))).toNat + isMt (.string ((⟨#[48, 49, 50, 51, 52, 53, 54, 55, 56, 57]⟩ : ByteArray).extract (M % 10) (M % 10 + 1) ++ S)) < 2 * (intOf (.int .i64 (M : Int))).toNat + isMt (.string S) := by
  have hw : wrap64 ((M : Int) / 10) = ((M / 10 : Nat) : Int) := by rw [wrap_in (by omega) (by omega)]; omega
  have hs := hT.step (hg.imp id data_mt)
  rw [hw, ten_mt _ (by omega)]
  refine ⟨⟨_, M / 10, rfl, rfl, by unfold Hid; omega, ?_⟩, ?_⟩
  · unfold Hid; rw [ten _ (by omega)]; exact hs
  · simp only [intOf, Int.toNat_natCast]
    rcases hg with h | h
    · omega
    · have : isMt (.string S) = 1 := by unfold isMt; simp [h]
      omega
theorem cat48 (S : ByteArray) : ((⟨#[48]⟩ : ByteArray) ++ S).data.toList = 48 :: S.data.toList := by
  rw [ByteArray.data_append, Array.toList_append]; simp
theorem cat32 (S : ByteArray) : ((⟨#[32, 48]⟩ : ByteArray) ++ S).data.toList = 32 :: 48 :: S.data.toList := by
  rw [ByteArray.data_append, Array.toList_append]; simp
theorem size48 (S : ByteArray) : ((⟨#[48]⟩ : ByteArray) ++ S).size = S.size + 1 := by rw [Lib.size_eq, cat48, List.length_cons, ← Lib.size_eq]
theorem size32 (S : ByteArray) : ((⟨#[32, 48]⟩ : ByteArray) ++ S).size = S.size + 2 := by rw [Lib.size_eq, cat32, List.length_cons, List.length_cons, ← Lib.size_eq]
theorem num48 (S : ByteArray) (k : Nat) (hS : S.data.toList = dig k) (hs : S.size ≤ 19) (W : World) (hL : Laid W) :
    Calls Tryd.prog 9 #[.string (⟨#[48]⟩ ++ S)] W fun x w' => x = .returned (.tuple #[.int .i64 0, .int .i64 5]) ∧ Below W.heap.size W w' :=
  num_of _ 0 5 (num_zero _ k (by rw [cat48, hS])) W hL (by rw [size48]; omega)
theorem read32 (S : ByteArray) (k : Nat) (hS : S.data.toList = dig k) (hs : S.size ≤ 19) (W : World) (hT : TabS W) :
    Calls Tryd.prog 14 #[.string (⟨#[32, 48]⟩ ++ S)] W fun e w' => e = .returned (.tuple #[.slice none 0 0, .int .i64 1, .int .i64 5]) ∧ Below W.heap.size W w' :=
  read_bad _ 1 (by rw [cat32, hS]; exact toks_zero k) W hT (by rw [size32]; omega)
theorem num19 (S : ByteArray) (k : Nat) (hk : k ≤ 9223372036854775807) (hS : S.data.toList = dig k) (hs : S.size ≤ 19) (W : World) (hL : Laid W) :
    Calls Tryd.prog 9 #[.string S] W fun x w' => x = .returned (.tuple #[.int .i64 (k : Int), .int .i64 0]) ∧ Below W.heap.size W w' :=
  num_of S (k : Int) 0 (num_dig S k hk hS) W hL (by omega)
theorem read19 (S : ByteArray) (k : Nat) (hS : S.data.toList = dig k) (hs : S.size ≤ 19) (W : World) (hT : TabS W) :
    Calls Tryd.prog 14 #[.string S] W fun e w' => ∃ v, e = .returned (.tuple #[v, .int .i64 0, .int .i64 0]) ∧ TokAt w' v [⟨2, dig k, 0⟩] ∧ Below W.heap.size W w' :=
  (read_ok S _ (by rw [hS]; exact toks_dig k) W hT (by omega)).mono fun e w' ⟨v, h1, h2, h3⟩ => ⟨v, h1, TokAt.of_own h2, h3⟩
theorem Told.len {k m : Nat} {l : List UInt8} (h : Told k m l) : l.length ≤ (dig k).length := by
  rcases h with ⟨rfl, _⟩ | ⟨_, h⟩
  · exact Nat.zero_le _
  · rw [h, List.length_append]; omega
theorem size19 {k m : Nat} {S : ByteArray} (hk : k ≤ 9223372036854775807) (h : Told k m S.data.toList) : S.size ≤ 19 := by
  rw [Lib.size_eq]
  exact Nat.le_trans h.len (dig_len 18 k (by omega))
theorem tok1 {w : World} {v : Value} {S : ByteArray} {k : Nat} (h : TokAt w v [⟨2, dig k, 0⟩]) (hS : S.data.toList = dig k) :
    ∃ g cap, v = .slice (some ⟨g, 0, none⟩) 1 cap ∧ w.cell? ⟨g, 0, none⟩ = some (.int .u8 2) ∧ w.cell? ⟨g, 1, none⟩ = some (.string S) ∧ w.cell? ⟨g, 2, none⟩ = some (.int .i64 0) := by
  obtain ⟨a, cap, rfl, h⟩ := h
  rcases h with h | ⟨g, rfl, hc⟩
  · cases h
  · obtain ⟨x, y, z⟩ := hc 0 (by simp)
    have e : S = ⟨(dig k).toArray⟩ := by rw [← hS]
    exact ⟨g, cap, rfl, x, by rw [e]; exact y, z⟩
set_option maxRecDepth 100000 in
set_option maxHeartbeats 1000000 in
/-- The walk: the Go text of the law returns true and turns nothing that was there. -/
theorem walk7 (n : Nat) (w : World) (hW : Laid w ∧ TabS w) (hn : n < 18446744073709551616) :
    Calls Tryd.prog 7 #[.int .u64 (n : Int)] w fun e w' => e = .returned (.bool true) ∧ Below w.heap.size w w' := by
  obtain ⟨K, hK⟩ : ∃ K : Nat, (n : Int) / 2 = (K : Int) := ⟨n / 2, by omega⟩
  have HK : Hid (K ≤ 9223372036854775807) := by unfold Hid; omega
  go_enter Tryd.func7, Tryd.ntmps7
  go_wp2
  clear hn hK
  go_loop [4, 5] (fun s m => ∃ (S : ByteArray) (M : Nat), s = .string S ∧ m = .int .i64 (M : Int) ∧ Hid (M ≤ 9223372036854775807) ∧ Hid (Told K M S.data.toList)) (fun s m => 2 * (intOf m).toNat + isMt s)
  case atStart => exact ⟨⟨#[]⟩, K, rfl, rfl, HK, .inl ⟨rfl, rfl⟩⟩
  case round =>
    obtain ⟨S, M, rfl, rfl, hM, hT⟩ := hrel
    have hsz := size19 HK.out hT.out
    by_cases hg : 0 < M ∨ S.size = 0
    · have HR := hid (round7 hM.out hT.out hg)
      by_cases hm : 0 < M
      · have hm' : (0 : Int) < (M : Int) := by omega
        clear hg
        go_wp2
        exact HR.out
      · have hm' : ¬ (0 : Int) < (M : Int) := by omega
        have he : S.toList.isEmpty = true := empty_yes (hg.resolve_left hm)
        clear hg
        go_wp2
        have hr := HR.out
        rw [show wrap64 ((M : Int) / 10) = (M : Int) / 10 from wrap_in (by omega) (by omega)] at hr
        exact hr
    · have hm' : ¬ (0 : Int) < (M : Int) := by omega
      have hz : ¬ S.size = 0 := fun h => hg (.inr h)
      have he : S.toList.isEmpty = false := empty_no hz
      have hS : S.data.toList = dig K := by
        obtain rfl : M = 0 := by omega
        exact hT.out.done (data_ne hz)
      have c1 := fun W hL => num19 S K HK.out hS hsz W hL
      have c2 := fun W hL => num48 S K hS hsz W hL
      have c3 := fun W hT => read19 S K hS hsz W hT
      have c4 := fun W hT => read32 S K hS hsz W hT
      have c5 := fun W hL hT => alive W hL hT
      have HS := hid hS
      have hA : Hid (At w w) := ⟨Below.refl _ _, hW.1, hW.2⟩
      clear hS hz hg hT hM HK hW
      go_wp2_with (first
        | (go_at_call 9; refine (c1 _ hA.out.laid).mono ?_; rintro e w1 ⟨rfl, hb1⟩; have A1 := hid (hA.out.step hb1); clear hb1 c1)
        | (go_at_call 9; refine (c2 _ A1.out.laid).mono ?_; rintro e w2 ⟨rfl, hb2⟩; have A2 := hid (A1.out.step hb2); clear hb2 c2)
        | (go_at_call 14; refine (c3 _ A2.out.tab).mono ?_; rintro e w3 ⟨v, rfl, ho3, hb3⟩; have A3 := hid (A2.out.step hb3); have T3 := hid ho3; clear hb3 ho3 c3)
        | (go_at_call 14; refine (c4 _ A3.out.tab).mono ?_; rintro e w4 ⟨rfl, hb4⟩; have A4 := hid (A3.out.step hb4); have T4 := hid (T3.out.below hb4); clear hb4 c4)
        | (go_at_call 13; refine (c5 _ A4.out.laid A4.out.tab).mono ?_; rintro e w5 ⟨rfl, hb5⟩; have A5 := hid (A4.out.step hb5); obtain ⟨g, cap, rfl, x0, x1, x2⟩ := tok1 (T4.out.below hb5) HS.out; clear hb5 c5))
      go_ret
      exact ⟨rfl, A5.out.below⟩
end Go.Proofs.YtafelijlolidhaaDoor.Lex
