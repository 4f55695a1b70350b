/-
  The walk of the law on names and numbers.
-/
import Derived.Test.YtafelijlolidhaaDoorOpen
namespace Go.Proofs.YtafelijlolidhaaDoor.Lex
open Go.ChangeShapes Go.WideShapes Go.ChangeAt Go.RowKit Go.Joins
theorem size_of_reach {s : ByteArray} (h : s.data.toList.length ≤ reachBytes) : s.size ≤ 140737488355328 := by
  rw [← Lib.size_eq] at h
  simp only [reachBytes] at h
  omega
/-- The walk: the Go text of the law returns true and turns nothing that was there. -/
theorem walk3 (s : ByteArray) (w : World) (hL : Laid w) (hs0 : s.data.toList.length ≤ reachBytes) :
    Calls Tryd.prog 3 #[.string s] w fun e w' => e = .returned (.bool true) ∧ Below w.heap.size w w' := by
  have hs := size_of_reach hs0
  have hx := one_size s.size hs
  have hcell := one_cell w s.size
  have hb1 := (Below.refl w.heap.size w).alloc (Nat.le_refl _) (.cells #[.int .i64 (s.size : Int)] 3)
  have HB1 : Hid (Below w.heap.size w (w.alloc (.cells #[.int .i64 (s.size : Int)] 3))) := hb1
  clear hs0
  by_cases hbig : 1048576 < [(s.size : Int)].sum
  · go_enter Tryd.func3, Tryd.ntmps3
    go_wp2_with (go_at_call 8; refine (beyond_yes _ 1 1 _ _ rfl (by omega) hx hcell hbig).mono ?_; rintro e w' ⟨rfl, rfl⟩)
    go_ret
    exact ⟨rfl, hb1⟩
  · have hle : s.size ≤ 1048576 := by simp at hbig; omega
    have hbig' : [(s.size : Int)].sum ≤ 1048576 := by omega
    have hL1 := hL.below hb1
    have HL1 : Hid (Laid (w.alloc (.cells #[.int .i64 (s.size : Int)] 3))) := hL1
    clear hL1 hb1 hbig
    have h9 := fun W (hl : Laid W) => hl.range.elim fun p hp => number s W hle 70 p hp
    have h10 := fun W => refNum s W hle
    have h11 := fun W (hl : Laid W) => name s W hl.res
    have h12 := fun W => refName s W hs
    generalize numN s = N at h9 h10
    generalize numE s = E at h9 h10
    generalize isName s = B at h11 h12
    have hN : (N == N) = true := by simp
    have hE : (E == E) = true := by simp
    go_enter Tryd.func3, Tryd.ntmps3
    go_wp2_with (first
      | (go_at_call 8; refine (beyond_no _ 1 1 _ _ rfl (by omega) hx hcell hbig').mono ?_; rintro e w' ⟨rfl, rfl⟩)
      | (go_at_call 9; refine (h9 _ HL1.out).mono ?_; rintro e w2 ⟨rfl, hb2⟩; have HB2 : Hid (Below w.heap.size w w2) := bstep HB1.out hb2; have HL2 : Hid (Laid w2) := HL1.out.below hb2; clear hb2)
      | (go_at_call 10; refine (h10 _).mono ?_; rintro e w3 ⟨rfl, hb3⟩; have HB3 : Hid (Below w.heap.size w w3) := bstep HB2.out hb3; have HL3 : Hid (Laid w3) := HL2.out.below hb3; clear hb3)
      | (go_at_call 11; refine (h11 _ HL3.out).mono ?_; rintro e w4 ⟨rfl, hb4⟩; have HB4 : Hid (Below w.heap.size w w4) := bstep HB3.out hb4; clear hb4)
      | (go_at_call 12; refine (h12 _).mono ?_; rintro e w5 ⟨rfl, hb5⟩; have HB5 : Hid (Below w.heap.size w w5) := bstep HB4.out hb5; clear hb5))
    go_ret
    exact ⟨rfl, HB5.out⟩
end Go.Proofs.YtafelijlolidhaaDoor.Lex
