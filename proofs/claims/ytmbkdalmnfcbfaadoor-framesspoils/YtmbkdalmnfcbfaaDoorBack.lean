/-
  SameFrame of frames that are the same; the walk of FramesBack.
-/
import Derived.Test.YtmbkdalmnfcbfaaDoorAll
import Derived.Test.YtmbkdalmnfcbfaaDoorOpen
import Derived.Deep.AppendLies
import Derived.OwnWalk
namespace Go.Proofs.YtmbkdalmnfcbfaaDoor.Bits
open Go.ChangeShapes Go.WideShapes Go.ChangeAt Go.RowKit Go.Shelf Go.Maps
theorem sameFrame (st : Int) (rd mb md : Nat) (a b : Option Addr) (len ca cb : Nat) (P : List Int) (w : World) (hA : Elems w a len P) (hB : Elems w b len P) :
    Calls Tryd.prog 8 #[fr st rd mb md a len ca, fr st rd mb md b len cb] w fun e w' => e = .returned (.bool true) ∧ Below w.heap.size w w' := by
  unfold fr
  have h1 := below_alloc w (.cells #[.int .i64 st, .int .u32 (rd : Int), .int .u8 (mb : Int), .int .u16 (md : Int), .slice a len ca] 26)
  have h2 := bstep h1 (below_alloc (w.alloc (.cells #[.int .i64 st, .int .u32 (rd : Int), .int .u8 (mb : Int), .int .u16 (md : Int), .slice a len ca] 26)) (.cells #[.int .i64 st, .int .u32 (rd : Int), .int .u8 (mb : Int), .int .u16 (md : Int), .slice b len cb] 26))
  have hA2 := hA.below h2
  have hB2 := hB.below h2
  go_enter Tryd.func8, Tryd.ntmps8
  go_wp2_with (go_at_call 9; refine (same_b a b len ca cb P _ hA2 hB2).mono ?_; rintro e w3 ⟨rfl, hk3⟩)
  go_ret
  exact ⟨rfl, bstep h2 hk3⟩
/-- The law asks nothing of such a frame, or it is refused. -/
theorem walk3_bad (st : Int) (rd mb md : Nat) (a : Option Addr) (len cap : Nat) (cut : Nat) (w : World) (hW : Wid w) (hbad : ¬ (1 ≤ st ∧ st ≤ 8) ∨ 4095 < len) (hlm : len ≤ 140737488355328) :
    Calls Tryd.prog 3 #[fr st rd mb md a len cap, .int .u16 (cut : Int)] w fun e w' => e = .returned (.bool true) ∧ Below w.heap.size w w' := by
  have hput := fput_bad st rd mb md a len cap
  unfold fr at hput
  unfold fr
  have hbA := below_alloc w (.cells #[.int .i64 st, .int .u32 (rd : Int), .int .u8 (mb : Int), .int .u16 (md : Int), .slice a len cap] 26)
  have hWA := hW.below hbA
  have hRA : Hid ((w.alloc (.cells #[.int .i64 st, .int .u32 (rd : Int), .int .u8 (mb : Int), .int .u16 (md : Int), .slice a len cap] 26)).heap[w.heap.size]? = some (.cells #[.int .i64 st, .int .u32 (rd : Int), .int .u8 (mb : Int), .int .u16 (md : Int), .slice a len cap] 26 (0, 0))) := heap_alloc_new _ _
  have p1 : Hid True := trivial
  by_cases hlen : 100000 < len
  · have hl' : (100000 : Int) < (len : Int) := by omega
    go_enter Tryd.func3, Tryd.ntmps3
    go_wp2_with (go_at_call 5; first
      | (clear p1; refine (alive _ hWA).mono ?_; rintro e w1 ⟨rfl, hk1⟩; obtain ⟨⟨c0, c1, c2, c3, c4⟩, _⟩ := row5 (row_kept hRA.out hk1); have hW1 := hWA.below hk1)
      | (refine (alive w1 hW1).mono ?_; rintro e w2 ⟨rfl, hk2⟩))
    go_ret
    exact ⟨rfl, bstep (bstep hbA hk1) hk2⟩
  · have hl' : (len : Int) ≤ 100000 := by omega
    have hput' := fun W => hput W hbad
    by_cases h1 : st < 1
    · clear hbad
      go_enter Tryd.func3, Tryd.ntmps3
      go_wp2_with (first
        | (go_at_call 5; refine (alive _ hWA).mono ?_; rintro e w1 ⟨rfl, hk1⟩; obtain ⟨⟨c0, c1, c2, c3, c4⟩, _⟩ := row5 (row_kept hRA.out hk1))
        | (go_at_call 6; refine (hput' w1).mono ?_; rintro e w2 ⟨rfl, hk2⟩; obtain ⟨⟨d0, d1, d2, d3, d4⟩, _⟩ := row5 (row_kept hRA.out (bstep hk1 hk2))))
      go_ret
      exact ⟨rfl, bstep (bstep hbA hk1) hk2⟩
    · have h1' : 1 ≤ st := by omega
      by_cases h8 : 8 < st
      · clear hbad
        go_enter Tryd.func3, Tryd.ntmps3
        go_wp2_with (first
          | (go_at_call 5; refine (alive _ hWA).mono ?_; rintro e w1 ⟨rfl, hk1⟩; obtain ⟨⟨c0, c1, c2, c3, c4⟩, _⟩ := row5 (row_kept hRA.out hk1))
          | (go_at_call 6; refine (hput' w1).mono ?_; rintro e w2 ⟨rfl, hk2⟩; obtain ⟨⟨d0, d1, d2, d3, d4⟩, _⟩ := row5 (row_kept hRA.out (bstep hk1 hk2))))
        go_ret
        exact ⟨rfl, bstep (bstep hbA hk1) hk2⟩
      · have h8' : st ≤ 8 := by omega
        have hl2 : (4095 : Int) < (len : Int) := by have := hbad.resolve_left (fun h => h ⟨h1', h8'⟩); omega
        clear hbad
        go_enter Tryd.func3, Tryd.ntmps3
        go_wp2_with (first
          | (go_at_call 5; refine (alive _ hWA).mono ?_; rintro e w1 ⟨rfl, hk1⟩; obtain ⟨⟨c0, c1, c2, c3, c4⟩, _⟩ := row5 (row_kept hRA.out hk1))
          | (go_at_call 6; refine (hput' w1).mono ?_; rintro e w2 ⟨rfl, hk2⟩; obtain ⟨⟨d0, d1, d2, d3, d4⟩, _⟩ := row5 (row_kept hRA.out (bstep hk1 hk2))))
        go_ret
        exact ⟨rfl, bstep (bstep hbA hk1) hk2⟩
theorem own_elems {w : World} {g n cap : Nat} {l : List Int} (h : w.ownsRow 0 5 1 (.slice (some ⟨g, 0, none⟩) n cap) n (l.map (Value.int .u8))) (hb : Byte l) (hn : n ≤ 1048576) : Elems w (some ⟨g, 0, none⟩) n l ∧ n ≤ cap := by
  have hl : l.length = n := by have := h.1; simpa using this
  obtain ⟨cur, hh, hc, _⟩ := own_heap h
  exact ⟨⟨hl, hn, fun i _ => byte_getD hb i, .inr ⟨g, 0, rfl, fun i hi => by rw [Nat.zero_add]; exact (own_cell' h i hi).1⟩⟩, hc⟩
theorem Blk.own {w : World} {g : Nat} {l : List Int} (h : Blk w g l) (hl : l.length ≤ maxLen) : w.ownsRow 0 5 1 (.slice (some ⟨g, 0, none⟩) l.length l.length) l.length (l.map (Value.int .u8)) :=
  ⟨by simp, .inr ⟨g, l.length, (l.map (Value.int .u8)).toArray, rfl, Nat.zero_le _, h, Nat.le_refl _, hl, by simp, by simp [List.take_of_length_le]⟩⟩
theorem news1 {W : World} {b : Nat} {u : Value} {t : TypeId} (h : W.heap[b]? = some (.cells #[u] t (0, 0))) : ∀ j v, [u][j]? = some v → W.cell? ((⟨b, 0, none⟩ : Addr).add j) = some v := fun j v hv => by
  rw [add_none, Nat.zero_add, cell_of_row W b j _ t (0, 0) h]; simpa using hv
/-- Get, of fewer bytes than were put. -/
theorem fget_cut (g len cap m st rd mb md : Nat) (P : List Int) (w : World) (hE : Elems w (some ⟨g, 0, none⟩) (13 + len) (bytesOf sumOf st rd mb md P)) (hW : Wid w) (hm : m < 13 + len) (hl : P.length = len) (hs : st ≤ 8) (hr : rd < 2 ^ 32) (hmb : mb < 2 ^ 8) (hd' : md < 2 ^ 16) (hn : len ≤ 4095) :
    Calls Tryd.prog 7 #[.slice (some ⟨g, 0, none⟩) m cap] w fun e w' => e = .returned (.tuple #[.agg #[.int .i64 0, .int .u32 0, .int .u8 0, .int .u16 0, .slice none 0 0], .int .i64 4]) ∧ Below w.heap.size w w' := by
  by_cases h13 : m < 13
  · exact fget_few _ m cap w h13
  · refine fget_short _ m cap _ w (hE.take m (by omega)) hW (by omega) ?_
    obtain ⟨_, _, _, _, e4⟩ := H5_head ((bytesOf sumOf st rd mb md P).take m) st rd mb md len (fun i hi => by rw [take_getD _ _ _ (by omega), bytesOf_head sumOf st rd mb md P i hi, hl]) hs hr hmb hd' hn
    rw [e4]; exact hm
/-- Get, of one byte more than was put. -/
theorem fget_over (b o len cap st rd mb md : Nat) (c : Int) (P : List Int) (w : World) (hE : Elems w (some ⟨b, o, none⟩) (13 + len + 1) (bytesOf sumOf st rd mb md P ++ [c])) (hW : Wid w) (hcap : 13 + len + 1 ≤ cap) (hl : P.length = len) (hs : st ≤ 8) (hr : rd < 2 ^ 32) (hmb : mb < 2 ^ 8) (hd' : md < 2 ^ 16) (hn : len ≤ 4095) :
    Calls Tryd.prog 7 #[.slice (some ⟨b, o, none⟩) (13 + len + 1) cap] w fun e w' => e = .returned (.tuple #[.agg #[.int .i64 0, .int .u32 0, .int .u8 0, .int .u16 0, .slice none 0 0], .int .i64 5]) ∧ Below w.heap.size w w' := by
  obtain ⟨_, _, _, _, e4⟩ := H5_head (bytesOf sumOf st rd mb md P ++ [c]) st rd mb md len (fun i hi => by rw [iappend_getD, if_pos (by rw [bytesOf_length]; omega), bytesOf_head sumOf st rd mb md P i hi, hl]) hs hr hmb hd' hn
  refine (fget_enough b o (13 + len + 1) cap _ w hE hW hcap (by rw [e4]; omega) (.inr (by rw [e4]; omega))).mono fun e w' h => ?_
  obtain ⟨hb, ⟨_, he⟩ | ⟨hg, _⟩⟩ := h
  · exact ⟨he, hb⟩
  · have := hg.1
    rw [e4] at this
    omega
set_option maxRecDepth 100000 in
set_option maxHeartbeats 1000000 in
theorem walk3_ok (st rd mb md : Nat) (a : Option Addr) (len cap : Nat) (cut : Nat) (P : List Int) (w : World) (hW : Wid w) (hC : Came w a len P) (hs1 : 1 ≤ st) (hs8 : st ≤ 8) (hrd : rd < 2 ^ 32) (hmb : mb < 2 ^ 8) (hmd : md < 2 ^ 16) (hl : len ≤ 4095) (hcut : cut < 65536) :
    Calls Tryd.prog 3 #[fr st rd mb md a len cap, .int .u16 (cut : Int)] w fun e w' => e = .returned (.bool true) ∧ Below w.heap.size w w' := by
  have hput := fput_ok st rd mb md a len cap P
  have hsame := sameFrame (st : Int) rd mb md
  have hgp := fun g W => fget_put g 0 len (13 + len) st rd mb md P W
  unfold fr at hput hsame hgp
  unfold fr
  have hEw := hC.elems (by omega)
  have hPb : Byte P := byte_of_getD fun i hi => hC.2.2.1 i (by rw [hC.1] at hi; exact hi)
  have hPl := hC.1
  have hbA := below_alloc w (.cells #[.int .i64 (st : Int), .int .u32 (rd : Int), .int .u8 (mb : Int), .int .u16 (md : Int), .slice a len cap] 26)
  have hWA := hW.below hbA
  have hRA : Hid ((w.alloc (.cells #[.int .i64 (st : Int), .int .u32 (rd : Int), .int .u8 (mb : Int), .int .u16 (md : Int), .slice a len cap] 26)).heap[w.heap.size]? = some (.cells #[.int .i64 (st : Int), .int .u32 (rd : Int), .int .u8 (mb : Int), .int .u16 (md : Int), .slice a len cap] 26 (0, 0))) := heap_alloc_new _ _
  have p1 : Hid True := trivial
  have p2 : Hid True := trivial
  obtain ⟨i0, hi, hz0, hz1, hz2⟩ := info_parts info5
  obtain ⟨c, hc⟩ : ∃ c, IntKind.u8.wrap (cut : Int) = c := ⟨_, rfl⟩
  have hcb : Byte [c] := fun z hz => by
    rw [List.mem_singleton] at hz
    rw [hz, ← hc, IntKind.wrap_u8']
    omega
  have hl' : (len : Int) ≤ 100000 := by omega
  have hne : (((13 + len : Nat) : Int) != 13 + (len : Int)) = false := by simp
  obtain ⟨m, hm⟩ : ∃ m, cut % (13 + len) = m := ⟨_, rfl⟩
  have hmlt : m < 13 + len := by rw [← hm]; exact Nat.mod_lt _ (by omega)
  have hmod : (cut : Int) % (13 + (len : Int)) = (m : Int) := by rw [← hm]; simp
  have htmod : (cut : Int).tmod (13 + (len : Int)) = (m : Int) := by rw [Int.tmod_eq_emod_of_nonneg (by omega)]; exact hmod
  clear hm
  go_enter Tryd.func3, Tryd.ntmps3
  go_wp2_with (first
    | (go_at_call 5; refine (alive _ hWA).mono ?_; rintro e w1 ⟨rfl, hk1⟩; have hR1 : Hid (w1.heap[w.heap.size]? = some (.cells #[.int .i64 (st : Int), .int .u32 (rd : Int), .int .u8 (mb : Int), .int .u16 (md : Int), .slice a len cap] 26 (0, 0))) := row_kept hRA.out hk1; obtain ⟨⟨c0, c1, c2, c3, c4⟩, _⟩ := row5 hR1.out; have hb1 := bstep hbA hk1)
    | (go_at_call 6; refine (hput w1 (hEw.below hb1) (hW.below hb1) hs1 hs8 hrd hmb hmd hl).mono ?_; rintro e w2 ⟨g, rfl, hB2, hg2, hk2⟩; have hR2 : Hid (w2.heap[w.heap.size]? = some (.cells #[.int .i64 (st : Int), .int .u32 (rd : Int), .int .u8 (mb : Int), .int .u16 (md : Int), .slice a len cap] 26 (0, 0))) := row_kept hR1.out hk2; obtain ⟨⟨d0, d1, d2, d3, d4⟩, _⟩ := row5 hR2.out; have hb2 := bstep hb1 hk2; have hE2 := hB2.elems' (bytesOf_byte sumOf st rd mb md P hPb) (by rw [bytesOf_length]; omega); rw [bytesOf_length, hPl] at hE2)
    | (go_at_call 7; first
      | (clear p1; refine (hgp g w2 hE2 (hW.below hb2) (Nat.le_refl _) hPl hPb hs1 hs8 hrd hmb hmd hl).mono ?_; rintro e w3 ⟨g3, rfl, hB3, hg3, hk3⟩; have hb3 := bstep hb2 hk3; have hkF := below_alloc w3 (.cells #[.int .i64 (st : Int), .int .u32 (rd : Int), .int .u8 (mb : Int), .int .u16 (md : Int), .slice (some ⟨g3, 0, none⟩) len len] 26); have hE3 := (hE2.below hk3).below hkF; have hB2F : Hid (Blk (w3.alloc (.cells #[.int .i64 (st : Int), .int .u32 (rd : Int), .int .u8 (mb : Int), .int .u16 (md : Int), .slice (some ⟨g3, 0, none⟩) len len] 26)) g (bytesOf sumOf st rd mb md P)) := row_kept (row_kept hB2 hk3) hkF; have hb3F := bstep hb3 hkF; have hF3 : Hid ((w3.alloc (.cells #[.int .i64 (st : Int), .int .u32 (rd : Int), .int .u8 (mb : Int), .int .u16 (md : Int), .slice (some ⟨g3, 0, none⟩) len len] 26)).heap[w3.heap.size]? = some (.cells #[.int .i64 (st : Int), .int .u32 (rd : Int), .int .u8 (mb : Int), .int .u16 (md : Int), .slice (some ⟨g3, 0, none⟩) len len] 26 (0, 0))) := heap_alloc_new _ _; have hB3F : Hid (Blk (w3.alloc (.cells #[.int .i64 (st : Int), .int .u32 (rd : Int), .int .u8 (mb : Int), .int .u16 (md : Int), .slice (some ⟨g3, 0, none⟩) len len] 26)) g3 P) := row_kept hB3 hkF)
      | (clear p2; refine (fget_cut g len _ m st rd mb md P _ hE3 (hW.below hb3F) hmlt hPl hs8 hrd hmb hmd hl).mono ?_; rintro e w4 ⟨rfl, hk4⟩; have hk4A := bstep (bstep hk4 (below_alloc w4 (.cells #[.int .i64 0, .int .u32 0, .int .u8 0, .int .u16 0, .slice none 0 0] 26))) (below_alloc (w4.alloc (.cells #[.int .i64 0, .int .u32 0, .int .u8 0, .int .u16 0, .slice none 0 0] 26)) (.cells #[.int .u8 c] 5)); have hb5 := bstep hb3F hk4A; have hF5 : Hid (((w4.alloc (.cells #[.int .i64 0, .int .u32 0, .int .u8 0, .int .u16 0, .slice none 0 0] 26)).alloc (.cells #[.int .u8 c] 5)).heap[w3.heap.size]? = some (.cells #[.int .i64 (st : Int), .int .u32 (rd : Int), .int .u8 (mb : Int), .int .u16 (md : Int), .slice (some ⟨g3, 0, none⟩) len len] 26 (0, 0))) := row_kept hF3.out hk4A; have hB5 : Hid (Blk ((w4.alloc (.cells #[.int .i64 0, .int .u32 0, .int .u8 0, .int .u16 0, .slice none 0 0] 26)).alloc (.cells #[.int .u8 c] 5)) g (bytesOf sumOf st rd mb md P)) := row_kept hB2F.out hk4A; have hP5 : Hid (Blk ((w4.alloc (.cells #[.int .i64 0, .int .u32 0, .int .u8 0, .int .u16 0, .slice none 0 0] 26)).alloc (.cells #[.int .u8 c] 5)) g3 P) := row_kept hB3F.out hk4A; have hown5 := Blk.own hB5.out (by rw [bytesOf_length]; unfold maxLen; omega); rw [bytesOf_length, hPl] at hown5)
      | (refine (fget_over g7 0 len cap7 st rd mb md c P w7 hE7 (hW.below hb7) hcap7 hPl hs8 hrd hmb hmd hl).mono ?_; rintro e w8 ⟨rfl, hk8⟩; have hk8A := bstep hk8 (below_alloc w8 (.cells #[.int .i64 0, .int .u32 0, .int .u8 0, .int .u16 0, .slice none 0 0] 26)); obtain ⟨⟨q0, q1, q2, q3, q4⟩, _⟩ := row5 (row_kept hF7.out hk8A); obtain ⟨⟨r0, r1, r2, r3, r4⟩, _⟩ := row5 (row_kept hR7.out hk8A); have hn81 : ¬ (w3.heap.size = w8.heap.size) := Nat.ne_of_lt (row_lt (row_kept hF7.out hk8)); have hn82 : ¬ (w.heap.size = w8.heap.size) := Nat.ne_of_lt (row_lt (row_kept hR7.out hk8)); have hb8A := bstep hb7 hk8A; have hP8 := (hP7.out.elems' hPb (by omega)).below hk8A; rw [hPl] at hP8; have hA8 := hEw.below hb8A))
    | (at_builtin; refine wpList_append_lies _ rfl (.tmp 76) (.tmp 79) 24 rfl 0 5 i0 (.int .u8 0) 1 1 Tryd.underlying24 hi hz0 hz1 hz2 rfl (by decide) _ (13 + len) _ (by rfl) hown5 ⟨w4.heap.size + 1, 0, none⟩ 1 1 [.int .u8 c] (by rfl) rfl (news1 (heap_alloc2_new _ _ _)) (by intro u hu; simp only [List.mem_singleton] at hu; rw [hu]; rfl) (by decide) (by unfold maxLen; omega) (by omega) (Nat.zero_le _) _ rfl ?_; intro g7 cap7 w7 hown7 hgr7 hat7 hlt7; rw [show [Value.int .u8 c] = List.map (Value.int .u8) [c] from rfl, ← List.map_append] at hown7; obtain ⟨hE7, hcap7⟩ := own_elems hown7 (byte_append (bytesOf_byte sumOf st rd mb md P hPb) hcb) (by omega); have hb7 : Below w.heap.size w w7 := hb5.grown hgr7 hb5.size (fun k e => by cases e; exact Nat.le_trans hb1.size hg2); have hF7 : Hid (w7.heap[w3.heap.size]? = some (.cells #[.int .i64 (st : Int), .int .u32 (rd : Int), .int .u8 (mb : Int), .int .u16 (md : Int), .slice (some ⟨g3, 0, none⟩) len len] 26 (0, 0))) := (hgr7.block _ (row_lt hF5.out) (fun e => by have h1 : w3.heap.size = g := Option.some.inj e; have h2 := row_lt hB2; have h3 := hk3.size; omega)).trans hF5.out; have hP7 : Hid (Blk w7 g3 P) := (hgr7.block _ (row_lt hP5.out) (fun e => by have h1 : g3 = g := Option.some.inj e; have h2 := row_lt hB2; omega)).trans hP5.out; have hR7 : Hid (w7.heap[w.heap.size]? = some (.cells #[.int .i64 (st : Int), .int .u32 (rd : Int), .int .u8 (mb : Int), .int .u16 (md : Int), .slice a len cap] 26 (0, 0))) := (hgr7.block _ (row_lt (row_kept (row_kept (row_kept hR2.out hk3) hkF) hk4A)) (fun e => by have h1 : w.heap.size = g := Option.some.inj e; have h2 := row_lt hR1.out; omega)).trans (row_kept (row_kept (row_kept hR2.out hk3) hkF) hk4A))
    | (go_at_call 8; refine (hsame (some ⟨g3, 0, none⟩) a len len cap P _ hP8 hA8).mono ?_; rintro e w9 ⟨rfl, hk9⟩))
  go_ret
  exact ⟨rfl, bstep hb8A hk9⟩
/-- The walk of FramesBack, whatever the frame. -/
theorem walk3 (st : Int) (rd mb md : Nat) (a : Option Addr) (len cap : Nat) (cut : Nat) (P : List Int) (w : World) (hW : Wid w) (hC : Came w a len P) (hrd : rd < 2 ^ 32) (hmb : mb < 2 ^ 8) (hmd : md < 2 ^ 16) (hcut : cut < 65536) :
    Calls Tryd.prog 3 #[fr st rd mb md a len cap, .int .u16 (cut : Int)] w fun e w' => e = .returned (.bool true) ∧ Below w.heap.size w w' := by
  by_cases h : (1 ≤ st ∧ st ≤ 8) ∧ len ≤ 4095
  · obtain ⟨n, rfl⟩ := Int.eq_ofNat_of_zero_le (show 0 ≤ st by omega)
    exact walk3_ok n rd mb md a len cap cut P w hW hC (by omega) (by omega) hrd hmb hmd h.2 hcut
  · exact walk3_bad st rd mb md a len cap cut w hW (by omega) hC.2.1
end Go.Proofs.YtmbkdalmnfcbfaaDoor.Bits
