/-
  The walk of FramesApart.
-/
import Derived.Test.YtmbkdalmnfcbfabDoorTwo
import Derived.Deep.RegionHeld3
import Derived.Deep.QuietTactic
import Derived.BigQuiet
namespace Go.Proofs.YtmbkdalmnfcbfabDoor.Bits
open Go.ChangeShapes Go.WideShapes Go.ChangeAt Go.RowKit Go.Shelf Go.Maps
theorem walk6_long (s1 s2 : Int) (r1 m1 d1 r2 m2 d2 : Nat) (a b : Option Addr) (la lb ca cb : Nat) (w : World) (hW : Wid w) (hl : 4095 < la ∨ 4095 < lb) :
    Calls Tryd.prog 6 #[fr s1 r1 m1 d1 a la ca, fr s2 r2 m2 d2 b lb cb] w fun e w' => e = .returned (.bool true) ∧ Below w.heap.size w w' := by
  unfold fr
  have p1 : Hid True := trivial
  have hbA := bstep (below_alloc w (.cells #[.int .i64 s1, .int .u32 (r1 : Int), .int .u8 (m1 : Int), .int .u16 (d1 : Int), .slice a la ca] 27)) (below_alloc (w.alloc (.cells #[.int .i64 s1, .int .u32 (r1 : Int), .int .u8 (m1 : Int), .int .u16 (d1 : Int), .slice a la ca] 27)) (.cells #[.int .i64 s2, .int .u32 (r2 : Int), .int .u8 (m2 : Int), .int .u16 (d2 : Int), .slice b lb cb] 27))
  have hWA := hW.below hbA
  have hR1A : Hid (((w.alloc (.cells #[.int .i64 s1, .int .u32 (r1 : Int), .int .u8 (m1 : Int), .int .u16 (d1 : Int), .slice a la ca] 27)).alloc (.cells #[.int .i64 s2, .int .u32 (r2 : Int), .int .u8 (m2 : Int), .int .u16 (d2 : Int), .slice b lb cb] 27)).heap[w.heap.size]? = some (.cells #[.int .i64 s1, .int .u32 (r1 : Int), .int .u8 (m1 : Int), .int .u16 (d1 : Int), .slice a la ca] 27 (0, 0))) := heap_alloc2_old _ _ _
  have hR2A : Hid (((w.alloc (.cells #[.int .i64 s1, .int .u32 (r1 : Int), .int .u8 (m1 : Int), .int .u16 (d1 : Int), .slice a la ca] 27)).alloc (.cells #[.int .i64 s2, .int .u32 (r2 : Int), .int .u8 (m2 : Int), .int .u16 (d2 : Int), .slice b lb cb] 27)).heap[w.heap.size + 1]? = some (.cells #[.int .i64 s2, .int .u32 (r2 : Int), .int .u8 (m2 : Int), .int .u16 (d2 : Int), .slice b lb cb] 27 (0, 0))) := heap_alloc2_new _ _ _
  by_cases h1 : 4095 < la
  · have hl' : (4095 : Int) < (la : Int) := by omega
    clear hl
    go_enter Tryd.func6, Tryd.ntmps6
    go_wp2_with (go_at_call 7; first
      | (clear p1; refine (alive _ hWA).mono ?_; rintro e w1 ⟨rfl, hk1⟩; obtain ⟨⟨c0, c1, c2, c3, c4⟩, _⟩ := row5 (row_kept hR1A.out hk1); obtain ⟨⟨d0', d1', d2', d3', d4'⟩, _⟩ := row5 (row_kept hR2A.out hk1); have hW1 := hWA.below hk1)
      | (refine (alive w1 hW1).mono ?_; rintro e w2 ⟨rfl, hk2⟩))
    go_ret
    exact ⟨rfl, bstep (bstep hbA hk1) hk2⟩
  · have hl' : (la : Int) ≤ 4095 := by omega
    have hl2 : (4095 : Int) < (lb : Int) := by omega
    clear hl
    go_enter Tryd.func6, Tryd.ntmps6
    go_wp2_with (go_at_call 7; first
      | (clear p1; refine (alive _ hWA).mono ?_; rintro e w1 ⟨rfl, hk1⟩; obtain ⟨⟨c0, c1, c2, c3, c4⟩, _⟩ := row5 (row_kept hR1A.out hk1); obtain ⟨⟨d0', d1', d2', d3', d4'⟩, _⟩ := row5 (row_kept hR2A.out hk1); have hW1 := hWA.below hk1)
      | (refine (alive w1 hW1).mono ?_; rintro e w2 ⟨rfl, hk2⟩))
    go_ret
    exact ⟨rfl, bstep (bstep hbA hk1) hk2⟩
/-- Put, whatever the frame: which answer hangs on the frame alone. -/
theorem fput_one (st : Int) (rd mb md : Nat) (a : Option Addr) (len cap : Nat) (P : List Int) (hrd : rd < 2 ^ 32) (hmb : mb < 2 ^ 8) (hmd : md < 2 ^ 16) (hl : len ≤ 4095) :
    ∃ c : Int, (c = 0 ∨ c = 1) ∧ (c = 0 ↔ 1 ≤ st ∧ st ≤ 8) ∧ ∀ w, Elems w a len P → Wid w → Calls Tryd.prog 9 #[fr st rd mb md a len cap] w fun e w' => ∃ v, e = .returned (.tuple #[v, .int .i64 c]) ∧ Below w.heap.size w w' := by
  by_cases h : 1 ≤ st ∧ st ≤ 8
  · refine ⟨0, .inl rfl, ⟨fun _ => h, fun _ => rfl⟩, fun w hE hW => ?_⟩
    obtain ⟨n, rfl⟩ := Int.eq_ofNat_of_zero_le (show 0 ≤ st by omega)
    exact (fput_ok n rd mb md a len cap P w hE hW (by omega) (by omega) hrd hmb hmd hl).mono fun e w' ⟨g, he, _, _, hb⟩ => ⟨_, he, hb⟩
  · exact ⟨1, .inr rfl, ⟨fun h => (by cases h), fun h2 => (h h2).elim⟩, fun w _ _ => (fput_bad st rd mb md a len cap w (.inl h)).mono fun e w' h => ⟨_, h.1, h.2⟩⟩
theorem walk6_bad (s1 s2 : Int) (r1 m1 d1 r2 m2 d2 : Nat) (a b : Option Addr) (la lb ca cb : Nat) (P Q : List Int) (w : World) (hW : Wid w) (hE1 : Elems w a la P) (hE2 : Elems w b lb Q) (hr1 : r1 < 2 ^ 32) (hr2 : r2 < 2 ^ 32) (hm1 : m1 < 2 ^ 8) (hm2 : m2 < 2 ^ 8) (hd1 : d1 < 2 ^ 16) (hd2 : d2 < 2 ^ 16) (hl1 : la ≤ 4095) (hl2 : lb ≤ 4095) (hbad : ¬ (1 ≤ s1 ∧ s1 ≤ 8) ∨ ¬ (1 ≤ s2 ∧ s2 ≤ 8)) :
    Calls Tryd.prog 6 #[fr s1 r1 m1 d1 a la ca, fr s2 r2 m2 d2 b lb cb] w fun e w' => e = .returned (.bool true) ∧ Below w.heap.size w w' := by
  obtain ⟨x1, hx1, hi1, hp1⟩ := fput_one s1 r1 m1 d1 a la ca P hr1 hm1 hd1 hl1
  obtain ⟨x2, hx2, hi2, hp2⟩ := fput_one s2 r2 m2 d2 b lb cb Q hr2 hm2 hd2 hl2
  unfold fr at hp1 hp2
  unfold fr
  have hbA := bstep (below_alloc w (.cells #[.int .i64 s1, .int .u32 (r1 : Int), .int .u8 (m1 : Int), .int .u16 (d1 : Int), .slice a la ca] 27)) (below_alloc (w.alloc (.cells #[.int .i64 s1, .int .u32 (r1 : Int), .int .u8 (m1 : Int), .int .u16 (d1 : Int), .slice a la ca] 27)) (.cells #[.int .i64 s2, .int .u32 (r2 : Int), .int .u8 (m2 : Int), .int .u16 (d2 : Int), .slice b lb cb] 27))
  have hWA := hW.below hbA
  have hR1A : Hid (((w.alloc (.cells #[.int .i64 s1, .int .u32 (r1 : Int), .int .u8 (m1 : Int), .int .u16 (d1 : Int), .slice a la ca] 27)).alloc (.cells #[.int .i64 s2, .int .u32 (r2 : Int), .int .u8 (m2 : Int), .int .u16 (d2 : Int), .slice b lb cb] 27)).heap[w.heap.size]? = some (.cells #[.int .i64 s1, .int .u32 (r1 : Int), .int .u8 (m1 : Int), .int .u16 (d1 : Int), .slice a la ca] 27 (0, 0))) := heap_alloc2_old _ _ _
  have hR2A : Hid (((w.alloc (.cells #[.int .i64 s1, .int .u32 (r1 : Int), .int .u8 (m1 : Int), .int .u16 (d1 : Int), .slice a la ca] 27)).alloc (.cells #[.int .i64 s2, .int .u32 (r2 : Int), .int .u8 (m2 : Int), .int .u16 (d2 : Int), .slice b lb cb] 27)).heap[w.heap.size + 1]? = some (.cells #[.int .i64 s2, .int .u32 (r2 : Int), .int .u8 (m2 : Int), .int .u16 (d2 : Int), .slice b lb cb] 27 (0, 0))) := heap_alloc2_new _ _ _
  have p1 : Hid True := trivial
  have g1 : (la : Int) ≤ 4095 := by omega
  have g2 : (lb : Int) ≤ 4095 := by omega
  have hne : (x1 = 1) ∨ (x1 = 0 ∧ x2 = 1) := by omega
  clear hx1 hi1 hi2 hbad
  rcases hne with rfl | ⟨rfl, rfl⟩
  · rcases hx2 with rfl | rfl
    all_goals
      go_enter Tryd.func6, Tryd.ntmps6
      go_wp2_with (first
        | (go_at_call 7; refine (alive _ hWA).mono ?_; rintro e w1 ⟨rfl, hk1⟩; have hR1 : Hid (_) := row_kept hR1A.out hk1; have hR2 : Hid (_) := row_kept hR2A.out hk1; obtain ⟨⟨c0, c1, c2, c3, c4⟩, _⟩ := row5 hR1.out; obtain ⟨⟨e0, e1, e2, e3, e4⟩, _⟩ := row5 hR2.out; have hb1 := bstep hbA hk1)
        | (go_at_call 9; first
          | (clear p1; refine (hp1 w1 (hE1.below hb1) (hW.below hb1)).mono ?_; rintro e w2 ⟨v2, rfl, hk2⟩; obtain ⟨⟨f0, f1, f2, f3, f4⟩, _⟩ := row5 (row_kept hR2.out hk2); have hb2 := bstep hb1 hk2)
          | (refine (hp2 w2 (hE2.below hb2) (hW.below hb2)).mono ?_; rintro e w3 ⟨v3, rfl, hk3⟩)))
      go_ret
      exact ⟨rfl, bstep hb2 hk3⟩
  · go_enter Tryd.func6, Tryd.ntmps6
    go_wp2_with (first
      | (go_at_call 7; refine (alive _ hWA).mono ?_; rintro e w1 ⟨rfl, hk1⟩; have hR1 : Hid (_) := row_kept hR1A.out hk1; have hR2 : Hid (_) := row_kept hR2A.out hk1; obtain ⟨⟨c0, c1, c2, c3, c4⟩, _⟩ := row5 hR1.out; obtain ⟨⟨e0, e1, e2, e3, e4⟩, _⟩ := row5 hR2.out; have hb1 := bstep hbA hk1)
      | (go_at_call 9; first
        | (clear p1; refine (hp1 w1 (hE1.below hb1) (hW.below hb1)).mono ?_; rintro e w2 ⟨v2, rfl, hk2⟩; obtain ⟨⟨f0, f1, f2, f3, f4⟩, _⟩ := row5 (row_kept hR2.out hk2); have hb2 := bstep hb1 hk2)
        | (refine (hp2 w2 (hE2.below hb2) (hW.below hb2)).mono ?_; rintro e w3 ⟨v3, rfl, hk3⟩)))
    go_ret
    exact ⟨rfl, bstep hb2 hk3⟩
set_option maxRecDepth 100000 in
set_option maxHeartbeats 1000000 in
theorem walk6_ok (s1 s2 : Nat) (r1 m1 d1 r2 m2 d2 : Nat) (a b : Option Addr) (la lb ca cb : Nat) (P Q : List Int) (w : World) (hW : Wid w) (hE1 : Elems w a la P) (hE2 : Elems w b lb Q) (g1 : 1 ≤ s1) (g2 : 1 ≤ s2) (hs1 : s1 ≤ 8) (hs2 : s2 ≤ 8) (hr1 : r1 < 2 ^ 32) (hr2 : r2 < 2 ^ 32) (hm1 : m1 < 2 ^ 8) (hm2 : m2 < 2 ^ 8) (hd1 : d1 < 2 ^ 16) (hd2 : d2 < 2 ^ 16) (hl1 : la ≤ 4095) (hl2 : lb ≤ 4095) :
    Calls Tryd.prog 6 #[fr s1 r1 m1 d1 a la ca, fr s2 r2 m2 d2 b lb cb] w fun e w' => e = .returned (.bool true) ∧ Below w.heap.size w w' := by
  have hPb : Byte P := byte_of_getD fun i hi => hE1.2.2.1 i (by rw [hE1.1] at hi; exact hi)
  have hQb : Byte Q := byte_of_getD fun i hi => hE2.2.2.1 i (by rw [hE2.1] at hi; exact hi)
  have hPl := hE1.1
  have hQl := hE2.1
  have hp1 := fput_ok s1 r1 m1 d1 a la ca P
  have hp2 := fput_ok s2 r2 m2 d2 b lb cb Q
  have hsf := fun W => sameFrame_any s1 s2 r1 m1 d1 r2 m2 d2 a b la lb ca cb P Q W
  have hiff := bytesOf_iff s1 r1 m1 d1 s2 r2 m2 d2 P Q hs1 hs2 hr1 hr2 hm1 hm2 hd1 hd2 (by omega) (by omega)
  have hone := fun hl => apart_ne s1 r1 m1 d1 s2 r2 m2 d2 P Q hPb hQb g1 g2 hs1 hs2 hr1 hr2 hm1 hm2 hd1 hd2 (by omega) hl
  have hAb := bytesOf_byte sumOf s1 r1 m1 d1 P hPb
  have hBb := bytesOf_byte sumOf s2 r2 m2 d2 Q hQb
  have hAl := bytesOf_length sumOf s1 r1 m1 d1 P
  have hBl := bytesOf_length sumOf s2 r2 m2 d2 Q
  generalize bytesOf sumOf s1 r1 m1 d1 P = A at hp1 hiff hone hAb hAl
  generalize bytesOf sumOf s2 r2 m2 d2 Q = B at hp2 hiff hone hBb hBl
  rw [hPl] at hAl hone
  rw [hQl] at hBl hone
  have hsb := fun g h W => same_any (some ⟨g, 0, none⟩) (some ⟨h, 0, none⟩) (13 + la) (13 + lb) (13 + la) (13 + lb) A B W
  rw [← decide_eq_decide.2 hiff] at hsf
  generalize decide (A = B) = q at hsf hsb
  unfold fr at hp1 hp2 hsf
  unfold fr
  have hbA := bstep (below_alloc w (.cells #[.int .i64 (s1 : Int), .int .u32 (r1 : Int), .int .u8 (m1 : Int), .int .u16 (d1 : Int), .slice a la ca] 27)) (below_alloc (w.alloc (.cells #[.int .i64 (s1 : Int), .int .u32 (r1 : Int), .int .u8 (m1 : Int), .int .u16 (d1 : Int), .slice a la ca] 27)) (.cells #[.int .i64 (s2 : Int), .int .u32 (r2 : Int), .int .u8 (m2 : Int), .int .u16 (d2 : Int), .slice b lb cb] 27))
  have hWA := hW.below hbA
  have hR1A : Hid (((w.alloc (.cells #[.int .i64 (s1 : Int), .int .u32 (r1 : Int), .int .u8 (m1 : Int), .int .u16 (d1 : Int), .slice a la ca] 27)).alloc (.cells #[.int .i64 (s2 : Int), .int .u32 (r2 : Int), .int .u8 (m2 : Int), .int .u16 (d2 : Int), .slice b lb cb] 27)).heap[w.heap.size]? = some (.cells #[.int .i64 (s1 : Int), .int .u32 (r1 : Int), .int .u8 (m1 : Int), .int .u16 (d1 : Int), .slice a la ca] 27 (0, 0))) := heap_alloc2_old _ _ _
  have hR2A : Hid (((w.alloc (.cells #[.int .i64 (s1 : Int), .int .u32 (r1 : Int), .int .u8 (m1 : Int), .int .u16 (d1 : Int), .slice a la ca] 27)).alloc (.cells #[.int .i64 (s2 : Int), .int .u32 (r2 : Int), .int .u8 (m2 : Int), .int .u16 (d2 : Int), .slice b lb cb] 27)).heap[w.heap.size + 1]? = some (.cells #[.int .i64 (s2 : Int), .int .u32 (r2 : Int), .int .u8 (m2 : Int), .int .u16 (d2 : Int), .slice b lb cb] 27 (0, 0))) := heap_alloc2_new _ _ _
  have p1 : Hid True := trivial
  have l1 : (la : Int) ≤ 4095 := by omega
  have l2 : (lb : Int) ≤ 4095 := by omega
  have Hone : Hid (la = lb → apart A B (13 + la) ≠ 1) := hone
  have HAl : Hid (A.length = 13 + la) := hAl
  have HBl : Hid (B.length = 13 + lb) := hBl
  clear hone hAl hBl hiff hPl hQl
  go_enter Tryd.func6, Tryd.ntmps6
  go_wp2_with (first
    | (go_at_call 7; refine (alive _ hWA).mono ?_; rintro e w1 ⟨rfl, hk1⟩; have hR1 : Hid (w1.heap[w.heap.size]? = some (.cells #[.int .i64 (s1 : Int), .int .u32 (r1 : Int), .int .u8 (m1 : Int), .int .u16 (d1 : Int), .slice a la ca] 27 (0, 0))) := row_kept hR1A.out hk1; have hR2 : Hid (w1.heap[w.heap.size + 1]? = some (.cells #[.int .i64 (s2 : Int), .int .u32 (r2 : Int), .int .u8 (m2 : Int), .int .u16 (d2 : Int), .slice b lb cb] 27 (0, 0))) := row_kept hR2A.out hk1; obtain ⟨⟨c0, c1, c2, c3, c4⟩, _⟩ := row5 hR1.out; obtain ⟨⟨e0, e1, e2, e3, e4⟩, _⟩ := row5 hR2.out; have hb1 := bstep hbA hk1)
    | (go_at_call 9; first
      | (clear p1; refine (hp1 w1 (hE1.below hb1) (hW.below hb1) g1 hs1 hr1 hm1 hd1 hl1).mono ?_; rintro e w2 ⟨ga, rfl, hBA, hga, hk2⟩; have hEA := hBA.elems' hAb (by have := HAl.out; omega); rw [HAl.out] at hEA; clear c0 c1 c2 c3 c4 e0 e1 e2 e3 e4; have hR22 : Hid (w2.heap[w.heap.size + 1]? = some (.cells #[.int .i64 (s2 : Int), .int .u32 (r2 : Int), .int .u8 (m2 : Int), .int .u16 (d2 : Int), .slice b lb cb] 27 (0, 0))) := row_kept hR2.out hk2; obtain ⟨⟨e0, e1, e2, e3, e4⟩, _⟩ := row5 hR22.out; have hb2 := bstep hb1 hk2)
      | (refine (hp2 w2 (hE2.below hb2) (hW.below hb2) g2 hs2 hr2 hm2 hd2 hl2).mono ?_; rintro e w3 ⟨gb, rfl, hBB, hgb, hk3⟩; have hEB3 := hBB.elems' hBb (by have := HBl.out; omega); rw [HBl.out] at hEB3; have hEA3 := hEA.below hk3; clear e0 e1 e2 e3 e4; have hR13 : Hid (w3.heap[w.heap.size]? = some (.cells #[.int .i64 (s1 : Int), .int .u32 (r1 : Int), .int .u8 (m1 : Int), .int .u16 (d1 : Int), .slice a la ca] 27 (0, 0))) := row_kept hR1.out (bstep hk2 hk3); have hR23 : Hid (w3.heap[w.heap.size + 1]? = some (.cells #[.int .i64 (s2 : Int), .int .u32 (r2 : Int), .int .u8 (m2 : Int), .int .u16 (d2 : Int), .slice b lb cb] 27 (0, 0))) := row_kept hR22.out hk3; obtain ⟨⟨c0, c1, c2, c3, c4⟩, _⟩ := row5 hR13.out; obtain ⟨⟨e0, e1, e2, e3, e4⟩, _⟩ := row5 hR23.out; have hb3 := bstep hb2 hk3)))
  have n1 : ((13 + (la : Int)) != 13 + (la : Int)) = false := by simp
  have n2 : ((13 + (lb : Int)) != 13 + (lb : Int)) = false := by simp
  have n3 : IntKind.i64.wrap (13 + (la : Int)) = 13 + (la : Int) := by rw [IntKind.wrap_i64]; omega
  have n4 : IntKind.i64.wrap (13 + (lb : Int)) = 13 + (lb : Int) := by rw [IntKind.wrap_i64]; omega
  replace hsb := hsb ga gb
  clear hp1 hp2 hWA hR1A hR2A
  refine wp_region_held_drew (S := fun w' => w'.cell? ⟨w.heap.size, 0, none⟩ = some (.int .i64 (s1 : Int)) ∧ w'.cell? ⟨w.heap.size, 1, none⟩ = some (.int .u32 (r1 : Int)) ∧ w'.cell? ⟨w.heap.size, 2, none⟩ = some (.int .u8 (m1 : Int)) ∧ w'.cell? ⟨w.heap.size, 3, none⟩ = some (.int .u16 (d1 : Int)) ∧ w'.cell? ⟨w.heap.size, 4, none⟩ = some (.slice a la ca) ∧ w'.cell? ⟨w.heap.size + 1, 0, none⟩ = some (.int .i64 (s2 : Int)) ∧ w'.cell? ⟨w.heap.size + 1, 1, none⟩ = some (.int .u32 (r2 : Int)) ∧ w'.cell? ⟨w.heap.size + 1, 2, none⟩ = some (.int .u8 (m2 : Int)) ∧ w'.cell? ⟨w.heap.size + 1, 3, none⟩ = some (.int .u16 (d2 : Int)) ∧ w'.cell? ⟨w.heap.size + 1, 4, none⟩ = some (.slice b lb cb)) (by kernel_rfl) ?_ (fun hHeld => ?_)
  · exact ⟨c0, c1, c2, c3, c4, e0, e1, e2, e3, e4⟩
  refine wpAnyH_take (i := 0) (oi := { dst := some 42, op := Op.move (Operand.tmp 5), type := 22, pos := _, after := #[], guard := none }) (v := ?_) rfl (by kernel_rfl) (by kernel_rfl) (by kernel_rfl) (fun _ _ _ h => h) (Or.inl ⟨by rfl, ?_⟩) (by assumption) ?_
  rotate_left
  · intro w hSw; (try dsimp only at hSw); go_simp <;> with_reducible rfl
  simp only [Act.put, List.setIfInBounds_toArray, List.set_cons_zero, List.set_cons_succ]
  refine wpAnyH_take (i := 1) (oi := { dst := some 43, op := Op.call { callee := Callee.builtin Builtin.len, args := #[Operand.tmp 42], argTypes := #[22] }, type := 3, pos := _, after := #[{ on := 0, ground := Ground.data }], guard := none }) (v := ?_) rfl (by kernel_rfl) (by kernel_rfl) (by kernel_rfl) (fun _ _ _ h => h) (Or.inl ⟨by rfl, ?_⟩) (by assumption) ?_
  rotate_left
  · intro w hSw; (try dsimp only at hSw); go_simp <;> with_reducible rfl
  simp only [Act.put, List.setIfInBounds_toArray, List.set_cons_zero, List.set_cons_succ]
  refine wpAnyH_take (i := 2) (oi := { dst := some 44, op := Op.fieldAddr 27 (Operand.tmp 2) 4, type := 0, pos := _, after := #[], guard := none }) (v := ?_) rfl (by kernel_rfl) (by kernel_rfl) (by kernel_rfl) (fun _ _ _ h => h) (Or.inl ⟨by rfl, ?_⟩) (by assumption) ?_
  rotate_left
  · intro w hSw; (try dsimp only at hSw); go_simp <;> with_reducible rfl
  simp only [Act.put, List.setIfInBounds_toArray, List.set_cons_zero, List.set_cons_succ]
  refine wpAnyH_take (i := 3) (oi := { dst := some 45, op := Op.load 22 (Operand.tmp 44), type := 22, pos := _, after := #[{ on := 2, ground := Ground.data }], guard := none }) (v := ?_) rfl (by kernel_rfl) (by kernel_rfl) (by kernel_rfl) (fun _ _ _ h => h) (Or.inl ⟨by rfl, ?_⟩) (by assumption) ?_
  rotate_left
  · intro w hSw; (try dsimp only at hSw); go_simp <;> with_reducible rfl
  simp only [Act.put, List.setIfInBounds_toArray, List.set_cons_zero, List.set_cons_succ]
  refine wpAnyH_take (i := 4) (oi := { dst := some 46, op := Op.call { callee := Callee.builtin Builtin.len, args := #[Operand.tmp 45], argTypes := #[22] }, type := 3, pos := _, after := #[{ on := 3, ground := Ground.data }], guard := none }) (v := ?_) rfl (by kernel_rfl) (by kernel_rfl) (by kernel_rfl) (fun _ _ _ h => h) (Or.inl ⟨by rfl, ?_⟩) (by assumption) ?_
  rotate_left
  · intro w hSw; (try dsimp only at hSw); go_simp <;> with_reducible rfl
  simp only [Act.put, List.setIfInBounds_toArray, List.set_cons_zero, List.set_cons_succ]
  refine wpAnyH_take (i := 5) (oi := { dst := some 47, op := Op.binOp BinOp.add 3 (Operand.const (Value.int IntKind.i64 13)) (Operand.tmp 46) 3, type := 3, pos := _, after := #[{ on := 4, ground := Ground.data }], guard := none }) (v := ?_) rfl (by kernel_rfl) (by kernel_rfl) (by kernel_rfl) (fun _ _ _ h => h) (Or.inl ⟨by rfl, ?_⟩) (by assumption) ?_
  rotate_left
  · intro w hSw; (try dsimp only at hSw); go_simp <;> with_reducible rfl
  simp only [Act.put, List.setIfInBounds_toArray, List.set_cons_zero, List.set_cons_succ]
  refine wpAnyH_take (i := 6) (oi := { dst := some 48, op := Op.binOp BinOp.neq 3 (Operand.tmp 43) (Operand.tmp 47) 3, type := 4, pos := _, after := #[{ on := 1, ground := Ground.data }, { on := 5, ground := Ground.data }], guard := none }) (v := ?_) rfl (by kernel_rfl) (by kernel_rfl) (by kernel_rfl) (fun _ _ _ h => h) (Or.inl ⟨by rfl, ?_⟩) (by assumption) ?_
  rotate_left
  · intro w hSw; (try dsimp only at hSw); go_simp <;> with_reducible rfl
  simp only [Act.put, List.setIfInBounds_toArray, List.set_cons_zero, List.set_cons_succ]
  refine wpAnyH_take (i := 7) (oi := { dst := some 49, op := Op.move (Operand.tmp 48), type := 4, pos := _, after := #[{ on := 6, ground := Ground.data }], guard := none }) (v := ?_) rfl (by kernel_rfl) (by kernel_rfl) (by kernel_rfl) (fun _ _ _ h => h) (Or.inl ⟨by rfl, ?_⟩) (by assumption) ?_
  rotate_left
  · intro w hSw; (try dsimp only at hSw); go_simp <;> with_reducible rfl
  simp only [Act.put, List.setIfInBounds_toArray, List.set_cons_zero, List.set_cons_succ]
  refine wpAnyH_take (i := 8) (oi := { dst := some 50, op := Op.move (Operand.tmp 7), type := 22, pos := _, after := #[{ on := 7, ground := Ground.guard }], guard := some (7, false) }) (v := ?_) rfl (by kernel_rfl) (by kernel_rfl) (by kernel_rfl) (fun _ _ _ h => h) (Or.inl ⟨by rfl, ?_⟩) (by assumption) ?_
  rotate_left
  · intro w hSw; (try dsimp only at hSw); go_simp <;> with_reducible rfl
  simp only [Act.put, List.setIfInBounds_toArray, List.set_cons_zero, List.set_cons_succ]
  refine wpAnyH_take (i := 9) (oi := { dst := some 51, op := Op.call { callee := Callee.builtin Builtin.len, args := #[Operand.tmp 50], argTypes := #[22] }, type := 3, pos := _, after := #[{ on := 8, ground := Ground.data }, { on := 7, ground := Ground.guard }], guard := some (7, false) }) (v := ?_) rfl (by kernel_rfl) (by kernel_rfl) (by kernel_rfl) (fun _ _ _ h => h) (Or.inl ⟨by rfl, ?_⟩) (by assumption) ?_
  rotate_left
  · intro w hSw; (try dsimp only at hSw); go_simp <;> with_reducible rfl
  simp only [Act.put, List.setIfInBounds_toArray, List.set_cons_zero, List.set_cons_succ]
  refine wpAnyH_take (i := 10) (oi := { dst := some 52, op := Op.fieldAddr 27 (Operand.tmp 3) 4, type := 0, pos := _, after := #[{ on := 7, ground := Ground.guard }], guard := some (7, false) }) (v := ?_) rfl (by kernel_rfl) (by kernel_rfl) (by kernel_rfl) (fun _ _ _ h => h) (Or.inl ⟨by rfl, ?_⟩) (by assumption) ?_
  rotate_left
  · intro w hSw; (try dsimp only at hSw); go_simp <;> with_reducible rfl
  simp only [Act.put, List.setIfInBounds_toArray, List.set_cons_zero, List.set_cons_succ]
  refine wpAnyH_take (i := 11) (oi := { dst := some 53, op := Op.load 22 (Operand.tmp 52), type := 22, pos := _, after := #[{ on := 10, ground := Ground.data }, { on := 7, ground := Ground.guard }], guard := some (7, false) }) (v := ?_) rfl (by kernel_rfl) (by kernel_rfl) (by kernel_rfl) (fun _ _ _ h => h) (Or.inl ⟨by rfl, ?_⟩) (by assumption) ?_
  rotate_left
  · intro w hSw; (try dsimp only at hSw); go_simp <;> with_reducible rfl
  simp only [Act.put, List.setIfInBounds_toArray, List.set_cons_zero, List.set_cons_succ]
  refine wpAnyH_take (i := 12) (oi := { dst := some 54, op := Op.call { callee := Callee.builtin Builtin.len, args := #[Operand.tmp 53], argTypes := #[22] }, type := 3, pos := _, after := #[{ on := 11, ground := Ground.data }, { on := 7, ground := Ground.guard }], guard := some (7, false) }) (v := ?_) rfl (by kernel_rfl) (by kernel_rfl) (by kernel_rfl) (fun _ _ _ h => h) (Or.inl ⟨by rfl, ?_⟩) (by assumption) ?_
  rotate_left
  · intro w hSw; (try dsimp only at hSw); go_simp <;> with_reducible rfl
  simp only [Act.put, List.setIfInBounds_toArray, List.set_cons_zero, List.set_cons_succ]
  refine wpAnyH_take (i := 13) (oi := { dst := some 55, op := Op.binOp BinOp.add 3 (Operand.const (Value.int IntKind.i64 13)) (Operand.tmp 54) 3, type := 3, pos := _, after := #[{ on := 12, ground := Ground.data }, { on := 7, ground := Ground.guard }], guard := some (7, false) }) (v := ?_) rfl (by kernel_rfl) (by kernel_rfl) (by kernel_rfl) (fun _ _ _ h => h) (Or.inl ⟨by rfl, ?_⟩) (by assumption) ?_
  rotate_left
  · intro w hSw; (try dsimp only at hSw); go_simp <;> with_reducible rfl
  simp only [Act.put, List.setIfInBounds_toArray, List.set_cons_zero, List.set_cons_succ]
  refine wpAnyH_take (i := 14) (oi := { dst := some 56, op := Op.binOp BinOp.neq 3 (Operand.tmp 51) (Operand.tmp 55) 3, type := 4, pos := _, after := #[{ on := 9, ground := Ground.data }, { on := 13, ground := Ground.data }, { on := 7, ground := Ground.guard }], guard := some (7, false) }) (v := ?_) rfl (by kernel_rfl) (by kernel_rfl) (by kernel_rfl) (fun _ _ _ h => h) (Or.inl ⟨by rfl, ?_⟩) (by assumption) ?_
  rotate_left
  · intro w hSw; (try dsimp only at hSw); go_simp <;> with_reducible rfl
  simp only [Act.put, List.setIfInBounds_toArray, List.set_cons_zero, List.set_cons_succ]
  refine wpAnyH_take (i := 15) (oi := { dst := some 57, op := Op.pick (Operand.tmp 49) (Operand.const (Value.bool true)) (Operand.tmp 56), type := 4, pos := _, after := #[{ on := 7, ground := Ground.data }, { on := 14, ground := Ground.data }], guard := none }) (v := ?_) rfl (by kernel_rfl) (by kernel_rfl) (by kernel_rfl) (fun _ _ _ h => h) (Or.inl ⟨by rfl, ?_⟩) (by assumption) ?_
  rotate_left
  · intro w hSw; (try dsimp only at hSw); go_simp <;> with_reducible rfl
  simp only [Act.put, List.setIfInBounds_toArray, List.set_cons_zero, List.set_cons_succ]
  refine wpAnyH_take (i := 16) (oi := { dst := some 58, op := Op.move (Operand.tmp 57), type := 4, pos := _, after := #[{ on := 15, ground := Ground.data }, { on := 7, ground := Ground.chain }], guard := none }) (v := ?_) rfl (by kernel_rfl) (by kernel_rfl) (by kernel_rfl) (fun _ _ _ h => h) (Or.inl ⟨by rfl, ?_⟩) (by assumption) ?_
  rotate_left
  · intro w hSw; (try dsimp only at hSw); go_simp <;> with_reducible rfl
  simp only [Act.put, List.setIfInBounds_toArray, List.set_cons_zero, List.set_cons_succ]
  refine wpAnyH_take (i := 17) (oi := { dst := some 59, op := Op.move (Operand.tmp 5), type := 22, pos := _, after := #[{ on := 16, ground := Ground.guard }], guard := some (16, false) }) (v := ?_) rfl (by kernel_rfl) (by kernel_rfl) (by kernel_rfl) (fun _ _ _ h => h) (Or.inl ⟨by rfl, ?_⟩) (by assumption) ?_
  rotate_left
  · intro w hSw; (try dsimp only at hSw); go_simp <;> with_reducible rfl
  simp only [Act.put, List.setIfInBounds_toArray, List.set_cons_zero, List.set_cons_succ]
  refine wpAnyH_take (i := 18) (oi := { dst := some 60, op := Op.move (Operand.tmp 7), type := 22, pos := _, after := #[{ on := 16, ground := Ground.guard }], guard := some (16, false) }) (v := ?_) rfl (by kernel_rfl) (by kernel_rfl) (by kernel_rfl) (fun _ _ _ h => h) (Or.inl ⟨by rfl, ?_⟩) (by assumption) ?_
  rotate_left
  · intro w hSw; (try dsimp only at hSw); go_simp <;> with_reducible rfl
  simp only [Act.put, List.setIfInBounds_toArray, List.set_cons_zero, List.set_cons_succ]
  refine wpAnyH_take (i := 20) (oi := { dst := some 62, op := Op.load 27 (Operand.tmp 2), type := 27, pos := _, after := #[{ on := 16, ground := Ground.guard }], guard := some (16, false) }) (v := ?_) rfl (by kernel_rfl) (by kernel_rfl) (by kernel_rfl) (fun _ _ _ h => h) (Or.inl ⟨by rfl, ?_⟩) (by assumption) ?_
  rotate_left
  · intro w hSw; (try dsimp only at hSw); go_simp <;> with_reducible rfl
  simp only [Act.put, List.setIfInBounds_toArray, List.set_cons_zero, List.set_cons_succ]
  refine wpAnyH_take (i := 21) (oi := { dst := some 63, op := Op.load 27 (Operand.tmp 3), type := 27, pos := _, after := #[{ on := 16, ground := Ground.guard }], guard := some (16, false) }) (v := ?_) rfl (by kernel_rfl) (by kernel_rfl) (by kernel_rfl) (fun _ _ _ h => h) (Or.inl ⟨by rfl, ?_⟩) (by assumption) ?_
  rotate_left
  · intro w hSw; (try dsimp only at hSw); go_simp <;> with_reducible rfl
  simp only [Act.put, List.setIfInBounds_toArray, List.set_cons_zero, List.set_cons_succ]
  refine wpAnyH_ready (rs := [19]) (by kernel_rfl) (by simp) ?_
  refine AllReadyH.cons (o := { dst := some 61, op := Op.call { callee := Callee.value (Operand.func 11), args := #[Operand.tmp 59, Operand.tmp 60], argTypes := #[22, 22] }, type := 4, pos := _, after := #[{ on := 17, ground := Ground.data }, { on := 18, ground := Ground.data }, { on := 16, ground := Ground.chain }, { on := 16, ground := Ground.guard }], guard := some (16, false) }) rfl (fun K hK => ?_) AllReadyH.nil
  go_simp
  refine (hsb _ (by first | exact hEA3 | exact hEA3.below (below_drew (Below.refl _ _))) (by first | exact hEB3 | exact hEB3.below (below_drew (Below.refl _ _)))).mono ?_
  rintro e w4 ⟨rfl, hk4⟩
  have hk4' : Below w3.heap.size w3 w4 := by first | exact hk4 | exact bstep (below_drew (Below.refl _ _)) hk4
  go_wp2_with fail
  refine hK.out _ _ ?_ (fun hHeld1 => ?_)
  · obtain ⟨⟨x0, x1, x2, x3, x4⟩, _⟩ := row5 (row_kept hR13.out hk4'); obtain ⟨⟨z0, z1, z2, z3, z4⟩, _⟩ := row5 (row_kept hR23.out hk4'); exact ⟨x0, x1, x2, x3, x4, z0, z1, z2, z3, z4⟩
  clear hK K
  refine wpAnyH_ready (rs := [22]) (by kernel_rfl) (by simp) ?_
  refine AllReadyH.cons (o := { dst := some 64, op := Op.call { callee := Callee.value (Operand.func 17), args := #[Operand.tmp 62, Operand.tmp 63], argTypes := #[27, 27] }, type := 4, pos := _, after := #[{ on := 20, ground := Ground.data }, { on := 21, ground := Ground.data }, { on := 19, ground := Ground.chain }, { on := 16, ground := Ground.guard }], guard := some (16, false) }) rfl (fun K hK => ?_) AllReadyH.nil
  go_simp
  refine (hsf _ (hE1.below (bstep hb3 hk4')) (hE2.below (bstep hb3 hk4'))).mono ?_
  rintro e w5 ⟨rfl, hk5⟩
  have hk5' : Below w3.heap.size w3 w5 := bstep hk4' hk5
  go_wp2_with fail
  refine hK.out _ _ ?_ (fun hHeld2 => ?_)
  · obtain ⟨⟨x0, x1, x2, x3, x4⟩, _⟩ := row5 (row_kept hR13.out hk5'); obtain ⟨⟨z0, z1, z2, z3, z4⟩, _⟩ := row5 (row_kept hR23.out hk5'); exact ⟨x0, x1, x2, x3, x4, z0, z1, z2, z3, z4⟩
  clear hK K
  refine wpAnyH_take (i := 23) (oi := { dst := some 65, op := Op.binOp BinOp.neq 4 (Operand.tmp 61) (Operand.tmp 64) 4, type := 4, pos := _, after := #[{ on := 19, ground := Ground.data }, { on := 22, ground := Ground.data }, { on := 16, ground := Ground.guard }], guard := some (16, false) }) (v := ?_) rfl (by kernel_rfl) (by kernel_rfl) (by kernel_rfl) (fun _ _ _ h => h) (Or.inl ⟨by rfl, ?_⟩) (by assumption) ?_
  rotate_left
  · intro w hSw; (try dsimp only at hSw); go_simp <;> with_reducible rfl
  simp only [Act.put, List.setIfInBounds_toArray, List.set_cons_zero, List.set_cons_succ]
  refine wpAnyH_take (i := 24) (oi := { dst := some 66, op := Op.pick (Operand.tmp 58) (Operand.const (Value.bool true)) (Operand.tmp 65), type := 4, pos := _, after := #[{ on := 16, ground := Ground.data }, { on := 23, ground := Ground.data }], guard := none }) (v := ?_) rfl (by kernel_rfl) (by kernel_rfl) (by kernel_rfl) (fun _ _ _ h => h) (Or.inl ⟨by rfl, ?_⟩) (by assumption) ?_
  rotate_left
  · intro w hSw; (try dsimp only at hSw); go_simp <;> with_reducible rfl
  simp only [Act.put, List.setIfInBounds_toArray, List.set_cons_zero, List.set_cons_succ]
  refine wpAnyH_done (by kernel_rfl) ?_ _
  have hEA5 := hEA3.below hk5'
  have hEB5 := hEB3.below hk5'
  have hb5 := bstep hb3 hk5'
  clear c0 c1 c2 c3 c4 e0 e1 e2 e3 e4 hHeld hHeld1 hHeld2 hsf hsb hEA3 hEB3 hE1 hE2
  have cellA : ∀ wr, Below w5.heap.size w5 wr → ∀ k, k < 13 + la → wr.cell? ⟨ga, k, none⟩ = some (.int .u8 (A.getD k 0)) := fun wr hb k hk => by
    obtain ⟨b', o', e', hc⟩ := (hEA5.below hb).2.2.2.resolve_left (by omega)
    cases e'
    have := hc k hk
    rwa [Nat.zero_add] at this
  have cellB : ∀ wr, Below w5.heap.size w5 wr → ∀ k, k < 13 + lb → wr.cell? ⟨gb, k, none⟩ = some (.int .u8 (B.getD k 0)) := fun wr hb k hk => by
    obtain ⟨b', o', e', hc⟩ := (hEB5.below hb).2.2.2.resolve_left (by omega)
    cases e'
    have := hc k hk
    rwa [Nat.zero_add] at this
  have CA : Hid (∀ wr, Below w5.heap.size w5 wr → ∀ k, k < 13 + la → wr.cell? ⟨ga, k, none⟩ = some (.int .u8 (A.getD k 0))) := cellA
  have CB : Hid (∀ wr, Below w5.heap.size w5 wr → ∀ k, k < 13 + lb → wr.cell? ⟨gb, k, none⟩ = some (.int .u8 (B.getD k 0))) := cellB
  clear cellA cellB hEA hEA5 hEB5 hR13 hR23 hR1 hR2 hR22 hBA hBB
  by_cases hlab : la = lb
  · have Hn1 : Hid (apart A B (13 + la) ≠ 1) := Hone.out hlab
    subst hlab
    clear Hone
    have n5 : ((13 + (la : Int)) == 13 + (la : Int)) = true := by simp
    go_wp2
    go_loopw [9, 10] (fun t i wr => ∃ k : Nat, k ≤ 13 + la ∧ i = .int .i64 k ∧ t = .int .i64 (apart A B k : Int) ∧ Below w5.heap.size w5 wr) (fun _ i _ => 13 + la - (intOf i).toNat)
    case atStart => exact ⟨0, by omega, rfl, rfl, Below.refl _ _⟩
    case round =>
      obtain ⟨k, hk, rfl, rfl, hbr⟩ := hrel
      by_cases hlt : k < 13 + la
      · have c1 := CA.out wr hbr k hlt
        have c2 := CB.out wr hbr k hlt
        have Hs : Hid (apart A B (k + 1) = apart A B k + if A.getD k 0 = B.getD k 0 then 0 else 1) := rfl
        have hle := apart_le A B k
        have hlt' : (k : Int) < 13 + (la : Int) := by omega
        have hk0 : (0 : Int) ≤ (k : Int) := by omega
        generalize A.getD k 0 = x at c1 Hs
        generalize B.getD k 0 = y at c2 Hs
        generalize apart A B k = t at Hs hle
        by_cases hxy : x = y
        · have hbx : (x != y) = false := by simp [hxy]
          have Hxy : Hid (x = y) := hxy
          clear hxy
          go_wp2
          go_quiet (fail)
          go_wp2
          go_roundw
          case rel => exact ⟨k + 1, by omega, by go_num, by rw [Hs.out, if_pos Hxy.out]; rfl, below_drewN hbr nq⟩
          case measure => simp [intOf]; omega
        · have hbx : (x != y) = true := by simp [hxy]
          have Hxy : Hid (¬ x = y) := hxy
          clear hxy
          go_wp2
          go_quiet (fail)
          go_wp2
          go_roundw
          case rel => exact ⟨k + 1, by omega, by go_num, by rw [Hs.out, if_neg Hxy.out]; go_num, below_drewN hbr nq⟩
          case measure => simp [intOf]; omega
      · have hkl : k = 13 + la := by omega
        have hn1 := Hn1.out
        rw [← hkl] at hn1
        have hle := apart_le A B k
        generalize apart A B k = t at hn1 hle
        have Hk : Hid (k = 13 + la) := hkl
        clear hkl
        have hlt' : ¬ (k : Int) < 13 + (la : Int) := by omega
        by_cases ht : t = 0
        · subst ht
          go_wp2
          go_ret
          exact ⟨by simp, bstep hb5 hbr⟩
        · have h0 : ((t : Int) == 0) = false := by simp; omega
          have h1 : (1 : Int) < (t : Int) := by omega
          go_wp2
          go_ret
          exact ⟨by simp, bstep hb5 hbr⟩
  · have n5 : ((13 + (la : Int)) == 13 + (lb : Int)) = false := by simp; omega
    have n6 : ((13 + (la : Int)) != 13 + (lb : Int)) = true := by simp; omega
    clear hlab
    go_wp2
    go_loopw [9, 10] (fun t i wr => i = .int .i64 ((0 : Nat) : Int) ∧ t = .int .i64 ((0 : Nat) : Int) ∧ Below w5.heap.size w5 wr) (fun _ _ _ => 0)
    case atStart => exact ⟨rfl, rfl, Below.refl _ _⟩
    case round =>
      obtain ⟨rfl, rfl, hbr⟩ := hrel
      go_wp2
      go_ret
      exact ⟨by simp, bstep hb5 hbr⟩
/-- The walk of FramesApart, whatever the frames. -/
theorem walk6 (s1 s2 : Int) (r1 m1 d1 r2 m2 d2 : Nat) (a b : Option Addr) (la lb ca cb : Nat) (P Q : List Int) (w : World) (hW : Wid w) (hC1 : Came w a la P) (hC2 : Came w b lb Q) (hr1 : r1 < 2 ^ 32) (hr2 : r2 < 2 ^ 32) (hm1 : m1 < 2 ^ 8) (hm2 : m2 < 2 ^ 8) (hd1 : d1 < 2 ^ 16) (hd2 : d2 < 2 ^ 16) :
    Calls Tryd.prog 6 #[fr s1 r1 m1 d1 a la ca, fr s2 r2 m2 d2 b lb cb] w fun e w' => e = .returned (.bool true) ∧ Below w.heap.size w w' := by
  by_cases hl : 4095 < la ∨ 4095 < lb
  · exact walk6_long s1 s2 r1 m1 d1 r2 m2 d2 a b la lb ca cb w hW hl
  · have hE1 := hC1.elems (by omega)
    have hE2 := hC2.elems (by omega)
    by_cases hbad : ¬ (1 ≤ s1 ∧ s1 ≤ 8) ∨ ¬ (1 ≤ s2 ∧ s2 ≤ 8)
    · exact walk6_bad s1 s2 r1 m1 d1 r2 m2 d2 a b la lb ca cb P Q w hW hE1 hE2 hr1 hr2 hm1 hm2 hd1 hd2 (by omega) (by omega) hbad
    · obtain ⟨n1, rfl⟩ := Int.eq_ofNat_of_zero_le (show 0 ≤ s1 by omega)
      obtain ⟨n2, rfl⟩ := Int.eq_ofNat_of_zero_le (show 0 ≤ s2 by omega)
      exact walk6_ok n1 n2 r1 m1 d1 r2 m2 d2 a b la lb ca cb P Q w hW hE1 hE2 (by omega) (by omega) (by omega) (by omega) hr1 hr2 hm1 hm2 hd1 hd2 (by omega) (by omega)
end Go.Proofs.YtmbkdalmnfcbfabDoor.Bits
