/-
  The walk of FramesAgain.
-/
import Derived.Test.YtmbkdalmnfcbfabDoorAll
import Derived.Test.YtmbkdalmnfcbfabDoorOpen
import Derived.Test.YtmbkdalmnfcbfabDoorFBad
namespace Go.Proofs.YtmbkdalmnfcbfabDoor.Bits
open Go.ChangeShapes Go.WideShapes Go.ChangeAt Go.RowKit Go.Shelf Go.Maps
theorem walk3_far (a : Option Addr) (len cap : Nat) (w : World) (hW : Wid w) (hlen : 100000 < len) (hlm : len ≤ 140737488355328) :
    Calls Tryd.prog 3 #[.slice a len cap] w fun e w' => e = .returned (.bool true) ∧ Below w.heap.size w w' := by
  have p1 : Hid True := trivial
  have hl' : (100000 : Int) < (len : Int) := by omega
  go_enter Tryd.func3, Tryd.ntmps3
  go_wp2_with (go_at_call 7; first
    | (clear p1; refine (alive _ hW).mono ?_; rintro e w1 ⟨rfl, hk1⟩; have hW1 := hW.below hk1)
    | (refine (alive w1 hW1).mono ?_; rintro e w2 ⟨rfl, hk2⟩))
  go_ret
  exact ⟨rfl, bstep hk1 hk2⟩
theorem walk3_bad (a : Option Addr) (len cap : Nat) (B : List Int) (w : World) (hW : Wid w) (hE : Elems w a len B) (hcap : len ≤ cap) (hlen : len ≤ 100000) (hng : ¬ (13 ≤ len ∧ good B len)) :
    Calls Tryd.prog 3 #[.slice a len cap] w fun e w' => e = .returned (.bool true) ∧ Below w.heap.size w w' := by
  have hl' : (len : Int) ≤ 100000 := by omega
  obtain ⟨c, hc, hget⟩ := fget_bad a len cap B hcap hng
  unfold fr0 at hget
  rcases hc with rfl | rfl
  all_goals
    go_enter Tryd.func3, Tryd.ntmps3
    go_wp2_with (first
      | (go_at_call 7; refine (alive _ hW).mono ?_; rintro e w1 ⟨rfl, hk1⟩; have hW1 := hW.below hk1; have hE1 := hE.below hk1)
      | (go_at_call 8; refine (hget w1 hE1 hW1).mono ?_; rintro e w2 ⟨rfl, hk2⟩))
    go_ret
    exact ⟨rfl, bstep (bstep hk1 hk2) (below_alloc _ _)⟩
theorem walk3_good (a : Option Addr) (n cap : Nat) (B : List Int) (w : World) (hW : Wid w) (hE : Elems w a (13 + n) B) (hcap : 13 + n ≤ cap) (hB : Byte B) (hn : H5 B 4 = n) (hs : val (part B (8 * (9 + n)) 32) = sumOf (B.take (9 + n))) (hst : 1 ≤ H5 B 0 ∧ H5 B 0 ≤ 8) :
    Calls Tryd.prog 3 #[.slice a (13 + n) cap] w fun e w' => e = .returned (.bool true) ∧ Below w.heap.size w w' := by
  have hlB := hE.1
  have hn12 : n < 4096 := by have h := H5_lt B 4; rw [hn, show K5 4 = 12 from rfl] at h; omega
  have hag := again sumOf B n hB hlB hn.symm hs
  have hget := fun W hE hW => fget_good a (13 + n) cap B W hE hW hcap (by omega) ⟨by rw [hn], by rw [hn]; exact hs, hst⟩
  have h1 : H5 B 1 < 2 ^ 32 := H5_lt B 1
  have h2 : H5 B 2 < 2 ^ 8 := H5_lt B 2
  have h3 : H5 B 3 < 2 ^ 16 := H5_lt B 3
  have hP : ((B.drop 9).take n).length = n := by rw [List.length_take, List.length_drop]; omega
  have hPb : Byte ((B.drop 9).take n) := fun z hz => hB z (List.mem_of_mem_drop (List.mem_of_mem_take hz))
  have hput := fun g W hE hW => fput_ok (H5 B 0) (H5 B 1) (H5 B 2) (H5 B 3) (some ⟨g, 0, none⟩) n n ((B.drop 9).take n) W hE hW hst.1 hst.2 h1 h2 h3 (by omega)
  rw [show bytesOf sumOf (H5 B 0) (H5 B 1) (H5 B 2) (H5 B 3) ((B.drop 9).take n) = B from hag] at hput
  rw [hn] at hget
  generalize (B.drop 9).take n = P at hput hget hP hPb
  unfold fr at hget hput
  have hvl := val_lt (part B (8 * (9 + n)) 32)
  rw [part_length] at hvl
  have hgk := fun W hE => get_ok_c a (13 + n) cap B (8 * (9 + n)) 32 W hE (by decide) (by omega)
  have hcrc := fun W (hE : Elems W a (13 + n) B) => crcOf a (13 + n - 4) cap (B.take (9 + n)) W (by rw [show 13 + n - 4 = 9 + n by omega]; exact hE.take (9 + n) (by omega))
  rw [hs] at hvl hgk
  clear hs hag
  generalize sumOf (B.take (9 + n)) = sm at hvl hgk hcrc
  clear hn
  generalize H5 B 0 = n0 at hget hput hst
  generalize H5 B 1 = n1 at hget hput h1
  generalize H5 B 2 = n2 at hget hput h2
  generalize H5 B 3 = n3 at hget hput h3
  have hl' : 13 + (n : Int) ≤ 100000 := by omega
  have hwr : IntKind.u32.wrap (sm : Int) = (sm : Int) := by rw [IntKind.wrap_u32']; omega
  have Hlb : Hid (B.length = 13 + n) := hlB
  have HP : Hid (P.length = n) := hP
  clear hlB hP
  go_enter Tryd.func3, Tryd.ntmps3
  go_wp2_with (first
    | (go_at_call 7; refine (alive _ hW).mono ?_; rintro e w1 ⟨rfl, hk1⟩; have hW1 := hW.below hk1; have hE1 := hE.below hk1)
    | (go_at_call 8; refine (hget w1 hE1 hW1).mono ?_; rintro e w2 ⟨g, rfl, hB2, hg2, hk2⟩; have hkA := below_alloc w2 (.cells #[.int .i64 (n0 : Int), .int .u32 (n1 : Int), .int .u8 (n2 : Int), .int .u16 (n3 : Int), .slice (some ⟨g, 0, none⟩) n n] 27); have hk2A := bstep hk2 hkA; have hE2 := hE1.below hk2A; have hW2 := hW1.below hk2A; have hBA : Hid (Blk (w2.alloc (.cells #[.int .i64 (n0 : Int), .int .u32 (n1 : Int), .int .u8 (n2 : Int), .int .u16 (n3 : Int), .slice (some ⟨g, 0, none⟩) n n] 27)) g P) := row_kept hB2 hkA; have hEP := hBA.out.elems' hPb (by have := HP.out; omega); rw [HP.out] at hEP)
    | (go_at_call 9; refine (hput g _ hEP hW2).mono ?_; rintro e w3 ⟨g3, rfl, hB3, hg3, hk3⟩; have hE3 := hE2.below hk3; have hEB3 := hB3.elems' hB (by have := Hlb.out; omega); rw [Hlb.out] at hEB3)
    | (go_at_call 10; refine (hgk w3 hE3 _ _ (by omega) rfl).mono ?_; rintro e w4 ⟨rfl, hk4⟩; have hE4 := hE3.below hk4; have hEB4 := hEB3.below hk4)
    | (go_at_call 11; refine (same_b (some ⟨g3, 0, none⟩) a (13 + n) (13 + n) cap B w4 hEB4 hE4).mono ?_; rintro e w5 ⟨rfl, hk5⟩; have hE5 := hE4.below hk5)
    | (go_at_call 12; refine (hcrc w5 hE5).mono ?_; rintro e w6 ⟨rfl, hk6⟩))
  go_ret
  exact ⟨by simp, bstep (bstep (bstep (bstep (bstep hk1 hk2A) hk3) hk4) hk5) hk6⟩
/-- The walk of FramesAgain, whatever the bytes. -/
theorem walk3 (a : Option Addr) (len cap : Nat) (B : List Int) (w : World) (hW : Wid w) (hC : Came w a len B) (hcap : len ≤ cap) :
    Calls Tryd.prog 3 #[.slice a len cap] w fun e w' => e = .returned (.bool true) ∧ Below w.heap.size w w' := by
  by_cases hlen : 100000 < len
  · exact walk3_far a len cap w hW hlen hC.2.1
  · have hE := hC.elems (by omega)
    by_cases hg : 13 ≤ len ∧ good B len
    · have hB : Byte B := byte_of_getD fun i hi => hC.2.2.1 i (by rw [hC.1] at hi; exact hi)
      obtain ⟨h13, h1, h2, h3⟩ := hg
      obtain ⟨n, hn⟩ : ∃ n, H5 B 4 = n := ⟨_, rfl⟩
      rw [hn] at h1 h2
      subst h1
      exact walk3_good a n cap B w hW hE hcap hB hn h2 h3
    · exact walk3_bad a len cap B w hW hE hcap (by omega) hg
end Go.Proofs.YtmbkdalmnfcbfabDoor.Bits
