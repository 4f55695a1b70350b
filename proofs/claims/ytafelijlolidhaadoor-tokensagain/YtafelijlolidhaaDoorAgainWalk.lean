/-
  The walk of the law on tokens with a blank between each two.
-/
import Derived.Test.YtafelijlolidhaaDoorAgainKit
namespace Go.Proofs.YtafelijlolidhaaDoor.Lex
open Go.ChangeShapes Go.WideShapes Go.ChangeAt Go.RowKit Go.Joins
theorem own_form {w : World} {B n : Nat} {v : Value} {xs : List Value} (h : w.ownsRow B 32 3 v n xs) : ∃ ao cap, v = .slice ao n cap := by
  rcases h.2 with ⟨rfl, rfl⟩ | ⟨g, cap, cur, rfl, _⟩
  · exact ⟨none, 0, rfl⟩
  · exact ⟨_, cap, rfl⟩
set_option maxRecDepth 100000 in
set_option maxHeartbeats 1000000 in
theorem again_big (s : ByteArray) (n : Nat) (w : World) (hW : Laid w ∧ TabS w) (h : 5000 < s.size) :
    Calls Tryd.prog 5 #[.string s, .int .u8 (n : Int)] w fun e w' => e = .returned (.bool true) ∧ Below w.heap.size w w' := by
  have c := fun W hL hT => alive W hL hT
  have hA : Hid (At w w) := ⟨Below.refl _ _, hW.1, hW.2⟩
  have c2 := c
  have h1' : (5000 : Int) < (s.size : Int) := by omega
  clear hW h
  go_enter Tryd.func5, Tryd.ntmps5
  go_wp2_with (first
    | (go_at_call 13; refine (c _ hA.out.laid hA.out.tab).mono ?_; rintro e w1 ⟨rfl, hb1⟩; have A1 := hid (hA.out.step hb1); clear hb1 c)
    | (go_at_call 13; refine (c2 _ A1.out.laid A1.out.tab).mono ?_; rintro e w2 ⟨rfl, hb2⟩; have A2 := hid (A1.out.step hb2); clear hb2 c2))
  go_ret
  exact ⟨rfl, A2.out.below⟩
set_option maxRecDepth 100000 in
set_option maxHeartbeats 1000000 in
theorem again_bad (s : ByteArray) (n : Nat) (w : World) (hW : Laid w ∧ TabS w) (h : s.size ≤ 5000) (a : Nat) (h1 : toks 0 s.data.toList = .error a) :
    Calls Tryd.prog 5 #[.string s, .int .u8 (n : Int)] w fun e w' => e = .returned (.bool true) ∧ Below w.heap.size w w' := by
  have c := fun W hL hT => alive W hL hT
  have c1 := fun W hT => read_bad s _ h1 W hT (by omega)
  have hA : Hid (At w w) := ⟨Below.refl _ _, hW.1, hW.2⟩
  have h1' : ¬ (5000 : Int) < (s.size : Int) := by omega
  clear hW h h1
  go_enter Tryd.func5, Tryd.ntmps5
  go_wp2_with (first
    | (go_at_call 13; refine (c _ hA.out.laid hA.out.tab).mono ?_; rintro e w1 ⟨rfl, hb1⟩; have A1 := hid (hA.out.step hb1); clear hb1 c)
    | (go_at_call 14; refine (c1 _ A1.out.tab).mono ?_; rintro e w2 ⟨rfl, hb2⟩; have A2 := hid (A1.out.step hb2); clear hb2 c1))
  go_ret
  exact ⟨rfl, A2.out.below⟩
set_option maxRecDepth 100000 in
set_option maxHeartbeats 2000000 in
theorem again_ok (s : ByteArray) (n : Nat) (w : World) (hW : Laid w ∧ TabS w) (hn : n < 256) (h : s.size ≤ 5000) (ts : List Tok) (h1 : toks 0 s.data.toList = .ok ts) :
    Calls Tryd.prog 5 #[.string s, .int .u8 (n : Int)] w fun e w' => e = .returned (.bool true) ∧ Below w.heap.size w w' := by
  have c := fun W hL hT => alive W hL hT
  have c1 := fun W hT => read_ok s _ h1 W hT (by omega)
  have hA : Hid (At w w) := ⟨Below.refl _ _, hW.1, hW.2⟩
  have HW := hid hW
  have h1' : ¬ (5000 : Int) < (s.size : Int) := by omega
  obtain ⟨q1, q2, q3⟩ := toks_some1 _ _ 0 ts rfl h1
  rw [← Lib.size_eq] at q2 q3
  obtain ⟨B, hbl, hcell⟩ := bl_at n
  have hBl := bl_len hbl
  have hB6 : B.size ≤ 6 := by rw [Lib.size_eq]; exact hBl
  have HG : Hid ((glue B.data.toList ts).length ≤ 35000) := by
    unfold Hid
    rw [glue_len]
    have := Nat.mul_le_mul q3 hBl
    have : ts.length * B.data.toList.length ≤ 30000 := Nat.le_trans this (by omega)
    omega
  have HT : Hid (toks 0 (glue B.data.toList ts) = .ok (again B.data.toList 0 ts)) := toks_glue hbl ts 0 q1
  have hlt : ts.length ≤ 5000 := by omega
  have hn5 : n % 5 < 5 := by omega
  clear hW h h1 q1 q2 q3 hbl hBl
  go_enter Tryd.func5, Tryd.ntmps5
  go_wp2_with (first
    | (go_at_call 13; refine (c _ hA.out.laid hA.out.tab).mono ?_; rintro e w1 ⟨rfl, hb1⟩; have A1 := hid (hA.out.step hb1); clear hb1 c)
    | (go_at_call 14; refine (c1 _ A1.out.tab).mono ?_; rintro e w2 ⟨va, rfl, ho2, hb2⟩; obtain ⟨ao, cao, rfl⟩ := own_form ho2; have A2 := hid (A1.out.step hb2); have O2 := hid ho2; have hc2 : (w2.alloc (.cells #[.string ⟨#[32]⟩, .string ⟨#[9]⟩, .string ⟨#[10]⟩, .string ⟨#[13]⟩, .string ⟨#[32, 45, 45, 32, 120, 10]⟩] 9)).cell? ⟨w2.heap.size, n % 5, none⟩ = some (.string B) := hcell w2; clear hb2 c1 ho2))
  go_loopw [9, 10] (fun x i wr => ∃ (S : ByteArray) (k : Nat), k ≤ ts.length ∧ x = .string S ∧ i = .int .i64 (k : Int) ∧ Hid (Ag w B.data.toList ts (.slice ao ts.length cao) k S wr)) (fun _ i _ => ts.length - (intOf i).toNat)
  case atStart =>
    refine ⟨⟨#[]⟩, 0, Nat.zero_le _, rfl, rfl, ?_⟩
    have hb := (Below.refl w2.heap.size w2).alloc (Nat.le_refl _) (.cells blV 9)
    exact ⟨(A2.out.step hb).below, ownsRow_mono (ownsRow_below (by simpa [again] using O2.out) hb) A1.out.below.size, rfl⟩
  case round =>
    obtain ⟨S, k, hk, rfl, rfl, hG⟩ := hrel
    by_cases hlt2 : k < ts.length
    · have hlt' : (k : Int) < (ts.length : Int) := by omega
      have hk0 : (0 : Int) ≤ (k : Int) := by omega
      obtain ⟨g, cap, A, Tx, hva, hS, hTx, x2, f2, W2, hW2, x1, hG2⟩ := hG.out.go hlt2 rfl HG.out
      injection hva with e1 e2 e3
      subst e1
      have HG2 := hid hG2
      clear hG2 e2 e3 hc2 hcell
      go_wp2
      go_roundw
      case rel => exact ⟨S ++ Tx ++ B, k + 1, by omega, rfl, by go_num, HG2⟩
      case measure => simp [intOf]; omega
    · have hlt' : ¬ (k : Int) < (ts.length : Int) := by omega
      obtain rfl : k = ts.length := by omega
      have htx := hG.out.text
      have hrow := hG.out.row
      rw [List.take_length] at htx
      rw [List.take_length, List.drop_length, List.append_nil] at hrow
      have hsz : S.size ≤ 35000 := by rw [Lib.size_eq, htx]; exact HG.out
      have T5 := hid (TokAt.of_own (ts := again B.data.toList 0 ts) (by rw [again_len]; exact hrow))
      have c3 := read_ok S (again B.data.toList 0 ts) (by rw [htx]; exact HT.out) wr (HW.out.2.below hG.out.below) (by omega)
      have B5 := hid hG.out.below
      have hal : (again B.data.toList 0 ts).length ≤ 1048576 := by rw [again_len]; omega
      have HAL := hid hal
      clear htx hrow hG hal hc2 hcell
      go_wp2_with (first
        | (go_at_call 14; refine c3.mono ?_; rintro e w6 ⟨vc, rfl, ho6, hb6⟩; have T6 := hid (T5.out.below hb6); have C6 := hid (TokAt.of_own ho6); have B6 := hid (bstep B5.out hb6); clear c3 ho6 hb6)
        | (go_at_call 15; refine (same' _ _ _ _ C6.out T6.out HAL.out).mono ?_; rintro e w7 ⟨rfl, hb7⟩))
      go_ret
      exact ⟨rfl, bstep B6.out hb7⟩
/-- The walk: the Go text of the law returns true and turns nothing that was there. -/
theorem walk5 (s : ByteArray) (n : Nat) (w : World) (hW : Laid w ∧ TabS w) (hn : n < 256) :
    Calls Tryd.prog 5 #[.string s, .int .u8 (n : Int)] w fun e w' => e = .returned (.bool true) ∧ Below w.heap.size w w' := by
  by_cases h : s.size ≤ 5000
  · cases h1 : toks 0 s.data.toList with
    | error a => exact again_bad s n w hW h a h1
    | ok ts => exact again_ok s n w hW hn h ts h1
  · exact again_big s n w hW (by omega)
end Go.Proofs.YtafelijlolidhaaDoor.Lex
namespace Go.Proofs.YtafelijlolidhaaDoor.Lex7
theorem nat_c {n : Int} (h : (Lit.int .u8 n).wf = true) : ∃ k : Nat, k < 256 ∧ n = (k : Int) := by
  simp [Lit.wf, IntKind.min, IntKind.max, IntKind.signed, IntKind.bits] at h
  exact ⟨n.toNat, by omega, by omega⟩
end Go.Proofs.YtafelijlolidhaaDoor.Lex7
