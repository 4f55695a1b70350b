/-
  The walk of FramesSpoils.
-/
import Derived.Test.YtmbkdalmnfcbfaaDoorBack
import Derived.Test.YtmbkdalmnfcbfaaDoorFBad
import Derived.Test.YtmbkdalmnfcbfaaDoorOdd
import Derived.RegionTactic
import Derived.ChangeAlike
namespace Go.Proofs.YtmbkdalmnfcbfaaDoor.Bits
open Go.ChangeShapes Go.WideShapes Go.ChangeAt Go.RowKit Go.Shelf Go.Maps
/-- What has been changed so far: j bytes from place K on. -/
def mixK (l y : List Int) (K j t : Nat) : Int := if K ≤ t ∧ t < K + j then bits .xor .u8 (l.getD t 0) (y.getD (t - K) 0) else l.getD t 0
/-- The first n cells of block g hold these numbers and may be written. -/
structure Held (w : World) (g n : Nat) (f : Nat → Int) : Prop where
  cells : ∀ j, j < n → w.cell? ⟨g, j, none⟩ = some (.int .u8 (f j))
  free : ∀ j, j < n → w.frozen? ⟨g, j, none⟩ = false
theorem Blk.held {w : World} {g : Nat} {l : List Int} (h : Blk w g l) (y : List Int) (K n : Nat) (hn : l.length = n) : Held w g n (mixK l y K 0) := by
  refine ⟨fun j hj => ?_, fun j hj => frozen_of_row _ _ _ _ _ h⟩
  rw [cell_of_row w g j _ 5 (0, 0) h]
  unfold mixK
  rw [if_neg (by omega)]
  simp [hn, hj]
theorem mixK_self (l y : List Int) (K j : Nat) : mixK l y K j (K + j) = l.getD (K + j) 0 := by unfold mixK; rw [if_neg (by omega)]
theorem mixK_succ (l y : List Int) (K j t : Nat) : mixK l y K (j + 1) t = if t = K + j then bits .xor .u8 (l.getD (K + j) 0) (y.getD j 0) else mixK l y K j t := by
  unfold mixK
  by_cases h : t = K + j
  · subst h
    rw [if_pos ⟨by omega, by omega⟩, if_pos rfl, show K + j - K = j by omega]
  · rw [if_neg h]
    by_cases h2 : K ≤ t ∧ t < K + j
    · rw [if_pos h2, if_pos ⟨h2.1, by omega⟩]
    · rw [if_neg h2, if_neg (by omega)]
theorem Held.step {w : World} {g n K j : Nat} {l y : List Int} (h : Held w g n (mixK l y K j)) {v : Int} (hv : bits .xor .u8 (l.getD (K + j) 0) (y.getD j 0) = v) : Held (w.setCell ⟨g, K + j, none⟩ (.int .u8 v)) g n (mixK l y K (j + 1)) := by
  refine ⟨fun t ht => ?_, fun t ht => ?_⟩
  · by_cases e : t = K + j
    · subst e
      rw [World.cell?_setCell_same _ _ _ (h.cells _ ht), mixK_succ, if_pos rfl, hv]
    · rw [World.cell?_setCell_other _ _ _ _ (by simp), h.cells t ht, mixK_succ, if_neg e]
  · rw [World.frozen?_setCell]; exact h.free t ht
theorem Held.drew {w : World} {g n : Nat} {f : Nat → Int} (h : Held w g n f) : Held w.drew g n f := ⟨h.cells, h.free⟩
/-- Are the first j of the change noughts? -/
def none0 (y : List Int) (j : Nat) : Bool := (y.take j).all (· == 0)
theorem take_snoc' (l : List Int) (k : Nat) (h : k < l.length) : l.take (k + 1) = l.take k ++ [l.getD k 0] := by
  rw [List.take_succ_eq_append_getElem h]; simp [h]
theorem none0_succ (y : List Int) (j : Nat) (h : j < y.length) : none0 y (j + 1) = (none0 y j && (y.getD j 0 == 0)) := by
  unfold none0; rw [take_snoc' y j h, List.all_append]; simp
theorem none0_iff (y : List Int) (j : Nat) : none0 y j = true ↔ ∀ z ∈ y.take j, z = 0 := by simp [none0]
theorem byte_take {l : List Int} (h : Byte l) (j : Nat) : Byte (l.take j) := fun z hz => h z (List.mem_of_mem_take hz)
theorem four_cell (w : World) (y0 y1 y2 y3 : Int) (t : TypeId) : ∀ i, i < 4 → (w.alloc (.cells #[.int .u8 y0, .int .u8 y1, .int .u8 y2, .int .u8 y3] t)).cell? ⟨w.heap.size, i, none⟩ = some (.int .u8 ([y0, y1, y2, y3].getD i 0)) := by
  intro i hi
  rw [World.cell?_alloc_at _ _ _ _ rfl]
  match i, hi with
  | 0, _ => rfl
  | 1, _ => rfl
  | 2, _ => rfl
  | 3, _ => rfl
/-- The bytes, changed. -/
theorem Held.elems {w : World} {g n K j : Nat} {l y : List Int} (h : Held w g n (mixK l y K j)) (hl : l.length = n) (hb : Byte l) (hy : Byte y) (hj : j ≤ y.length) (hn : K + j ≤ n) (hn2 : n ≤ 1048576) :
    Elems w (some ⟨g, 0, none⟩) n (spoilt l (y.take j) K) := by
  have hyl : (y.take j).length = j := by simp; omega
  have hsl := spoilt_length l (y.take j) K (by omega)
  refine ⟨by omega, hn2, fun t ht => byte_getD (spoilt_byte l (y.take j) K hb (byte_take hy j) (by omega)) t, .inr ⟨g, 0, rfl, fun t ht => ?_⟩⟩
  rw [Nat.zero_add, h.cells t ht, spoilt_getD l (y.take j) K t hb (by omega) (by omega), hyl]
  unfold mixK
  by_cases hc : K ≤ t ∧ t < K + j
  · rw [if_pos hc, if_pos hc, take_getD _ _ _ (by omega)]
  · rw [if_neg hc, if_neg hc]
/-- The law asks nothing of a frame that may not be. -/
theorem walk4_bad (st : Int) (rd mb md : Nat) (a : Option Addr) (len cap : Nat) (y0 y1 y2 y3 : Int) (m : Nat) (w : World) (hW : Wid w) (hbad : ¬ (1 ≤ st ∧ st ≤ 8) ∨ 4095 < len) :
    Calls Tryd.prog 4 #[fr st rd mb md a len cap, .agg #[.int .u8 y0, .int .u8 y1, .int .u8 y2, .int .u8 y3], .int .u16 (m : Int)] w fun e w' => e = .returned (.bool true) ∧ Below w.heap.size w w' := by
  unfold fr
  have p1 : Hid True := trivial
  have hbA := bstep (below_alloc w (.cells #[.int .i64 st, .int .u32 (rd : Int), .int .u8 (mb : Int), .int .u16 (md : Int), .slice a len cap] 26)) (below_alloc (w.alloc (.cells #[.int .i64 st, .int .u32 (rd : Int), .int .u8 (mb : Int), .int .u16 (md : Int), .slice a len cap] 26)) (.cells #[.int .u8 y0, .int .u8 y1, .int .u8 y2, .int .u8 y3] 35))
  have hWA := hW.below hbA
  have hRA : Hid (((w.alloc (.cells #[.int .i64 st, .int .u32 (rd : Int), .int .u8 (mb : Int), .int .u16 (md : Int), .slice a len cap] 26)).alloc (.cells #[.int .u8 y0, .int .u8 y1, .int .u8 y2, .int .u8 y3] 35)).heap[w.heap.size]? = some (.cells #[.int .i64 st, .int .u32 (rd : Int), .int .u8 (mb : Int), .int .u16 (md : Int), .slice a len cap] 26 (0, 0))) := heap_alloc2_old _ _ _
  by_cases hlen : 4095 < len
  · have hl' : (4095 : Int) < (len : Int) := by omega
    clear hbad
    go_enter Tryd.func4, Tryd.ntmps4
    go_wp2_with (go_at_call 5; first
      | (clear p1; refine (alive _ hWA).mono ?_; rintro e w1 ⟨rfl, hk1⟩; obtain ⟨⟨c0, c1, c2, c3, c4⟩, _⟩ := row5 (row_kept hRA.out hk1); have hW1 := hWA.below hk1)
      | (refine (alive w1 hW1).mono ?_; rintro e w2 ⟨rfl, hk2⟩))
    go_ret
    exact ⟨rfl, bstep (bstep hbA hk1) hk2⟩
  · have hl' : (len : Int) ≤ 4095 := by omega
    have hst : ¬ (1 ≤ st ∧ st ≤ 8) := hbad.resolve_right hlen
    clear hbad
    by_cases h1 : st < 1
    · clear hst
      go_enter Tryd.func4, Tryd.ntmps4
      go_wp2_with (go_at_call 5; first
        | (clear p1; refine (alive _ hWA).mono ?_; rintro e w1 ⟨rfl, hk1⟩; obtain ⟨⟨c0, c1, c2, c3, c4⟩, _⟩ := row5 (row_kept hRA.out hk1); have hW1 := hWA.below hk1)
        | (refine (alive w1 hW1).mono ?_; rintro e w2 ⟨rfl, hk2⟩))
      go_ret
      exact ⟨rfl, bstep (bstep hbA hk1) hk2⟩
    · have h1' : 1 ≤ st := by omega
      have h8 : 8 < st := by omega
      clear hst
      go_enter Tryd.func4, Tryd.ntmps4
      go_wp2_with (go_at_call 5; first
        | (clear p1; refine (alive _ hWA).mono ?_; rintro e w1 ⟨rfl, hk1⟩; obtain ⟨⟨c0, c1, c2, c3, c4⟩, _⟩ := row5 (row_kept hRA.out hk1); have hW1 := hWA.below hk1)
        | (refine (alive w1 hW1).mono ?_; rintro e w2 ⟨rfl, hk2⟩))
      go_ret
      exact ⟨rfl, bstep (bstep hbA hk1) hk2⟩
set_option maxRecDepth 100000 in
set_option maxHeartbeats 1000000 in
theorem walk4_ok (st rd mb md : Nat) (a : Option Addr) (len cap : Nat) (y0 y1 y2 y3 : Int) (m : Nat) (P : List Int) (w : World) (hW : Wid w) (hC : Came w a len P) (hy : Byte [y0, y1, y2, y3]) (hm : m < 65536) (hs1 : 1 ≤ st) (hs8 : st ≤ 8) (hrd : rd < 2 ^ 32) (hmb : mb < 2 ^ 8) (hmd : md < 2 ^ 16) (hl : len ≤ 4095) :
    Calls Tryd.prog 4 #[fr st rd mb md a len cap, .agg #[.int .u8 y0, .int .u8 y1, .int .u8 y2, .int .u8 y3], .int .u16 (m : Int)] w fun e w' => e = .returned (.bool true) ∧ Below w.heap.size w w' := by
  have hput := fput_ok st rd mb md a len cap P
  have hsame := sameFrame (st : Int) rd mb md
  have hgp := fun g W => fget_put g 0 len (13 + len) st rd mb md P W
  unfold fr at hput hsame hgp
  unfold fr
  have hEw := hC.elems (by omega)
  have hPb : Byte P := byte_of_getD fun i hi => hC.2.2.1 i (by rw [hC.1] at hi; exact hi)
  have hPl := hC.1
  have hbA := bstep (below_alloc w (.cells #[.int .i64 (st : Int), .int .u32 (rd : Int), .int .u8 (mb : Int), .int .u16 (md : Int), .slice a len cap] 26)) (below_alloc (w.alloc (.cells #[.int .i64 (st : Int), .int .u32 (rd : Int), .int .u8 (mb : Int), .int .u16 (md : Int), .slice a len cap] 26)) (.cells #[.int .u8 y0, .int .u8 y1, .int .u8 y2, .int .u8 y3] 35))
  have hWA := hW.below hbA
  have hRA : Hid (((w.alloc (.cells #[.int .i64 (st : Int), .int .u32 (rd : Int), .int .u8 (mb : Int), .int .u16 (md : Int), .slice a len cap] 26)).alloc (.cells #[.int .u8 y0, .int .u8 y1, .int .u8 y2, .int .u8 y3] 35)).heap[w.heap.size]? = some (.cells #[.int .i64 (st : Int), .int .u32 (rd : Int), .int .u8 (mb : Int), .int .u16 (md : Int), .slice a len cap] 26 (0, 0))) := heap_alloc2_old _ _ _
  have hc4 : Hid (∀ i, i < 4 → ((w.alloc (.cells #[.int .i64 (st : Int), .int .u32 (rd : Int), .int .u8 (mb : Int), .int .u16 (md : Int), .slice a len cap] 26)).alloc (.cells #[.int .u8 y0, .int .u8 y1, .int .u8 y2, .int .u8 y3] 35)).cell? ⟨w.heap.size + 1, i, none⟩ = some (.int .u8 ([y0, y1, y2, y3].getD i 0))) := fun i hi => by
    have := four_cell (w.alloc (.cells #[.int .i64 (st : Int), .int .u32 (rd : Int), .int .u8 (mb : Int), .int .u16 (md : Int), .slice a len cap] 26)) y0 y1 y2 y3 35 i hi
    simpa using this
  have hbad := fun bt K h1 h2 h3 h4 => spoilt_bad st rd mb md P bt K hPb h1 hs1 hs8 hrd hmb hmd (by omega) h2 h3 h4
  rw [hPl] at hbad
  obtain ⟨B, hB⟩ : ∃ B, bytesOf sumOf st rd mb md P = B := ⟨_, rfl⟩
  have hBb : Byte B := by rw [← hB]; exact bytesOf_byte sumOf st rd mb md P hPb
  have hBl : B.length = 13 + len := by rw [← hB, bytesOf_length, hPl]
  rw [hB] at hput hbad
  have hgp' := fun g W hE hWW => hgp g W (by rw [hB]; exact hE) hWW (Nat.le_refl _) hPl hPb hs1 hs8 hrd hmb hmd hl
  clear hB hgp
  generalize hY : [y0, y1, y2, y3] = Y at hc4 hy
  have hYl : Y.length = 4 := by rw [← hY]; rfl
  clear hY
  obtain ⟨K, hK⟩ : ∃ K, m % (13 + len) = K := ⟨_, rfl⟩
  have hKlt : K < 13 + len := by rw [← hK]; exact Nat.mod_lt _ (by omega)
  have hmod : (m : Int) % (13 + (len : Int)) = (K : Int) := by rw [← hK]; simp
  have htmod : (m : Int).tmod (13 + (len : Int)) = (K : Int) := by rw [Int.tmod_eq_emod_of_nonneg (by omega)]; exact hmod
  have Hbad : Hid (∀ (bt : List Int) (K : Nat), Byte bt → bt.length ≤ 4 → K + bt.length ≤ 13 + len → 9 + len ≤ K ∨ K + bt.length ≤ 9 + len → good (spoilt B bt K) (13 + len) → ∀ z ∈ bt, z = 0) := hbad
  have Hbl : Hid (B.length = 13 + len) := hBl
  have Hyl : Hid (Y.length = 4) := hYl
  have HPl : Hid (P.length = len) := hPl
  clear hK hbad hBl hYl hPl
  have hl4 : (len : Int) ≤ 4095 := by omega
  go_enter Tryd.func4, Tryd.ntmps4
  go_wp2_with (first
    | (go_at_call 5; refine (alive _ hWA).mono ?_; rintro e w1 ⟨rfl, hk1⟩; have hR1 : Hid (w1.heap[w.heap.size]? = some (.cells #[.int .i64 (st : Int), .int .u32 (rd : Int), .int .u8 (mb : Int), .int .u16 (md : Int), .slice a len cap] 26 (0, 0))) := row_kept hRA.out hk1; obtain ⟨⟨c0, c1, c2, c3, c4⟩, _⟩ := row5 hR1.out; have hb1 := bstep hbA hk1)
    | (go_at_call 6; refine (hput w1 (hEw.below hb1) (hW.below hb1) hs1 hs8 hrd hmb hmd hl).mono ?_; rintro e w2 ⟨g, rfl, hB2, hg2, hk2⟩))
  have hp := hB2.held Y K (13 + len) Hbl.out
  have hb2 := bstep hb1 hk2
  have hsz1 : w.heap.size + 1 < w1.heap.size := by have := hk1.size; simp at this; omega
  have hc41 : Hid (∀ i, i < 4 → w1.cell? ⟨w.heap.size + 1, i, none⟩ = some (.int .u8 (Y.getD i 0))) := fun i hi => (hk1.cell (World.block_lt_of_cell? _ _ (hc4.out i hi))).trans (hc4.out i hi)
  have hE1 := hEw.below hb1
  have hW1 := hW.below hb1
  obtain ⟨lim, hlim⟩ : ∃ lim, (9 + len ≤ K ∧ lim = 13 + len) ∨ (K < 9 + len ∧ lim = 9 + len) := by
    by_cases h : 9 + len ≤ K
    · exact ⟨13 + len, .inl ⟨h, rfl⟩⟩
    · exact ⟨9 + len, .inr ⟨by omega, rfl⟩⟩
  have Hlim : Hid ((9 + len ≤ K ∧ lim = 13 + len) ∨ (K < 9 + len ∧ lim = 9 + len)) := hlim
  have hKl : K ≤ lim := by omega
  clear hlim hB2 hmod htmod hc4 hRA hWA hC c0 c1 c2 c3 c4 hput
  go_loopw [11, 12] (fun sm i wr => ∃ j : Nat, j ≤ 4 ∧ K + j ≤ lim ∧ i = .int .i64 j ∧ sm = .bool (none0 Y j) ∧ Below w1.heap.size w1 wr ∧ Held wr g (13 + len) (mixK B Y K j)) (fun _ i _ => 4 - (intOf i).toNat)
  case atStart => exact ⟨0, by omega, by omega, rfl, rfl, hk2, hp⟩
  case round =>
    obtain ⟨j, hj4, hjl, rfl, rfl, hb, hh⟩ := hrel
    clear hp
    by_cases hlt : j < 4 ∧ K + j < lim
    · obtain ⟨hlt, hltn⟩ := hlt
      have hn13 : K + j < 13 + len := by have := Hlim.out; omega
      have hcy := (hb.cell (p := ⟨w.heap.size + 1, j, none⟩) (by show w.heap.size + 1 < _; omega)).trans (hc41.out j hlt)
      have hcx := hh.cells _ hn13
      have hfx := hh.free _ hn13
      rw [mixK_self] at hcx
      have HV : Hid (∀ v, bits .xor .u8 (B.getD (K + j) 0) (Y.getD j 0) = v → Held (wr.setCell ⟨g, K + j, none⟩ (.int .u8 v)) g (13 + len) (mixK B Y K (j + 1))) := fun v hv => hh.step hv
      have HS : Hid (none0 Y (j + 1) = (none0 Y j && (Y.getD j 0 == 0))) := none0_succ Y j (by have := Hyl.out; omega)
      have ne1 : ¬ g = w.heap.size + 1 := by omega
      have ne1' : ¬ w.heap.size + 1 = g := by omega
      clear hh
      generalize B.getD (K + j) 0 = p at hcx HV
      generalize Y.getD j 0 = z at hcy HV HS
      have i0 : (0 : Int) ≤ (K : Int) + (j : Int) := by omega
      have i1 : (K : Int) + (j : Int) < 13 + (len : Int) := by omega
      have i2 : (j : Int) < 4 := by omega
      by_cases hK9 : 9 + len ≤ K
      · have i3 : 13 + (len : Int) - 4 ≤ (K : Int) := by omega
        cases hn : none0 Y j
        all_goals
          go_wp2
          go_region
          go_wp2
          go_roundw
          case rel => exact ⟨j + 1, by omega, by omega, by go_num, by rw [HS.out, hn]; rfl, (hb.setCell hg2 _).drew, (HV.out _ rfl).drew⟩
          case measure => simp [intOf]; omega
      · have i3 : ¬ (13 + (len : Int) - 4 ≤ (K : Int)) := by omega
        have i4 : (K : Int) + (j : Int) < 13 + (len : Int) - 4 := by have := Hlim.out; omega
        cases hn : none0 Y j
        all_goals
          go_wp2
          go_region
          go_wp2
          go_roundw
          case rel => exact ⟨j + 1, by omega, by omega, by go_num, by rw [HS.out, hn]; rfl, (hb.setCell hg2 _).drew, (HV.out _ rfl).drew⟩
          case measure => simp [intOf]; omega
    · have hj13 : K + j ≤ 13 + len := by have := Hlim.out; omega
      have hyj : (Y.take j).length = j := by have := Hyl.out; simp; omega
      have hEx := hh.elems Hbl.out hBb hy (by have := Hyl.out; omega) hj13 (by omega)
      have hWr := hW1.below hb
      have hEr := hE1.below hb
      have hRr : Hid (wr.heap[w.heap.size]? = some (.cells #[.int .i64 (st : Int), .int .u32 (rd : Int), .int .u8 (mb : Int), .int .u16 (md : Int), .slice a len cap] 26 (0, 0))) := row_kept hR1.out hb
      have hwk : 9 + len ≤ K ∨ K + j ≤ 9 + len := by have := Hlim.out; omega
      have hway : ¬ ((j : Int) < 4) ∨ ((j : Int) < 4 ∧ ¬ ((K : Int) + (j : Int) < 13 + (len : Int))) ∨ ((j : Int) < 4 ∧ (K : Int) + (j : Int) < 13 + (len : Int) ∧ ¬ (13 + (len : Int) - 4 ≤ (K : Int)) ∧ ¬ ((K : Int) + (j : Int) < 13 + (len : Int) - 4)) := by
        have := Hlim.out; omega
      cases hn : none0 Y j
      · have hng : ¬ (13 ≤ 13 + len ∧ good (spoilt B (Y.take j) K) (13 + len)) := fun h => by
          have := (none0_iff Y j).2 (Hbad.out (Y.take j) K (byte_take hy j) (by omega) (by omega) (by omega) h.2)
          rw [hn] at this; cases this
        obtain ⟨c, hc, hget⟩ := fget_bad (some ⟨g, 0, none⟩) (13 + len) (13 + len) (spoilt B (Y.take j) K) (Nat.le_refl _) hng
        unfold fr0 at hget
        have hget' := hget wr hEx hWr
        clear hget hng hEx hh hlt hwk
        rcases hc with rfl | rfl
        all_goals
          rcases hway with i2 | ⟨i2, i1⟩ | ⟨i2, i1, i3, i4⟩
        all_goals
          go_wp2_with (go_at_call 7; refine hget'.mono ?_; rintro e w4 ⟨rfl, hk4⟩)
          go_ret
          exact ⟨rfl, bstep (bstep (bstep hb1 hb) hk4) (below_alloc _ _)⟩
      · rw [spoilt_none B (Y.take j) K hBb (by have := Hbl.out; omega) ((none0_iff Y j).1 hn)] at hEx
        have hget' := hgp' g wr hEx hWr
        clear hEx hh hlt hwk hgp'
        rcases hway with i2 | ⟨i2, i1⟩ | ⟨i2, i1, i3, i4⟩
        all_goals
          go_wp2_with (first
            | (go_at_call 7; refine hget'.mono ?_; rintro e w4 ⟨g3, rfl, hB4, hg4, hk4⟩; have hkF := below_alloc w4 (.cells #[.int .i64 (st : Int), .int .u32 (rd : Int), .int .u8 (mb : Int), .int .u16 (md : Int), .slice (some ⟨g3, 0, none⟩) len len] 26); have hb4 := bstep (bstep (bstep hb1 hb) hk4) hkF; have hR4 : Hid ((w4.alloc (.cells #[.int .i64 (st : Int), .int .u32 (rd : Int), .int .u8 (mb : Int), .int .u16 (md : Int), .slice (some ⟨g3, 0, none⟩) len len] 26)).heap[w.heap.size]? = some (.cells #[.int .i64 (st : Int), .int .u32 (rd : Int), .int .u8 (mb : Int), .int .u16 (md : Int), .slice a len cap] 26 (0, 0))) := row_kept hRr.out (bstep hk4 hkF); obtain ⟨⟨d0, d1, d2, d3, d4⟩, _⟩ := row5 hR4.out; have hne4 : ¬ (w.heap.size = w4.heap.size) := Nat.ne_of_lt (row_lt (row_kept hRr.out hk4)); have hB4F : Hid (Blk (w4.alloc (.cells #[.int .i64 (st : Int), .int .u32 (rd : Int), .int .u8 (mb : Int), .int .u16 (md : Int), .slice (some ⟨g3, 0, none⟩) len len] 26)) g3 P) := row_kept hB4 hkF; have hP4 := hB4F.out.elems' hPb (by have := HPl.out; omega); rw [HPl.out] at hP4; have hA4 := hEw.below hb4)
            | (go_at_call 8; refine (hsame (some ⟨g3, 0, none⟩) a len len cap P _ hP4 hA4).mono ?_; rintro e w5 ⟨rfl, hk5⟩))
          go_ret
          exact ⟨rfl, bstep hb4 hk5⟩
/-- The walk of FramesSpoils, whatever the frame. -/
theorem walk4 (st : Int) (rd mb md : Nat) (a : Option Addr) (len cap : Nat) (y0 y1 y2 y3 : Int) (m : Nat) (P : List Int) (w : World) (hW : Wid w) (hC : Came w a len P) (hy : Byte [y0, y1, y2, y3]) (hm : m < 65536) (hrd : rd < 2 ^ 32) (hmb : mb < 2 ^ 8) (hmd : md < 2 ^ 16) :
    Calls Tryd.prog 4 #[fr st rd mb md a len cap, .agg #[.int .u8 y0, .int .u8 y1, .int .u8 y2, .int .u8 y3], .int .u16 (m : Int)] w fun e w' => e = .returned (.bool true) ∧ Below w.heap.size w w' := by
  by_cases h : (1 ≤ st ∧ st ≤ 8) ∧ len ≤ 4095
  · obtain ⟨n, rfl⟩ := Int.eq_ofNat_of_zero_le (show 0 ≤ st by omega)
    exact walk4_ok n rd mb md a len cap y0 y1 y2 y3 m P w hW hC hy hm (by omega) (by omega) hrd hmb hmd h.2
  · exact walk4_bad st rd mb md a len cap y0 y1 y2 y3 m w hW (by omega)
end Go.Proofs.YtmbkdalmnfcbfaaDoor.Bits
