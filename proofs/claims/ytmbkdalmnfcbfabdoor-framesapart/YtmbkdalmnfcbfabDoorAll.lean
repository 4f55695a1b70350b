/-
  A frame that was put, as it is read; the contracts as the statements ask for them; alive: some answers that the document fixes.
-/
import Derived.Test.YtmbkdalmnfcbfabDoorFGet
import Derived.Test.YtmbkdalmnfcbfabDoorVal
namespace Go.Proofs.YtmbkdalmnfcbfabDoor.Bits
open Go.ChangeShapes Go.WideShapes Go.ChangeAt Go.RowKit Go.Shelf Go.Maps
/-- What stands in bytes that begin as a frame's do. -/
theorem H5_head (B : List Int) (st rd mb md n : Nat) (h : ∀ i, i < 9 → B.getD i 0 = (pack (hd st rd mb md n)).getD i 0) (hs : st ≤ 8) (hr : rd < 2 ^ 32) (hm : mb < 2 ^ 8) (hd' : md < 2 ^ 16) (hn : n ≤ 4095) :
    H5 B 0 = st ∧ H5 B 1 = rd ∧ H5 B 2 = mb ∧ H5 B 3 = md ∧ H5 B 4 = n := by
  obtain ⟨h0, h1, h2, h3, h4⟩ := read_head B st rd mb md n h
  refine ⟨h0.trans (Nat.mod_eq_of_lt (by omega)), h1.trans (Nat.mod_eq_of_lt hr), h2.trans (Nat.mod_eq_of_lt hm), h3.trans (Nat.mod_eq_of_lt hd'), h4.trans (Nat.mod_eq_of_lt (by omega))⟩
theorem good_bytesOf (st rd mb md : Nat) (P : List Int) (hP : Byte P) (h1 : 1 ≤ st) (hs : st ≤ 8) (hr : rd < 2 ^ 32) (hm : mb < 2 ^ 8) (hd' : md < 2 ^ 16) (hn : P.length ≤ 4095) :
    good (bytesOf sumOf st rd mb md P) (13 + P.length) := by
  obtain ⟨e0, _, _, _, e4⟩ := H5_head (bytesOf sumOf st rd mb md P) st rd mb md P.length (fun i hi => bytesOf_head sumOf st rd mb md P i hi) hs hr hm hd' hn
  refine ⟨by rw [e4], ?_, by rw [e0]; exact h1, by rw [e0]; exact hs⟩
  rw [e4, read_sum sumOf st rd mb md P hP, bytesOf_take, Nat.mod_eq_of_lt (sumOf_lt _)]
/-- Get, of bytes that were put. -/
theorem fget_put (b o len cap : Nat) (st rd mb md : Nat) (P : List Int) (w : World) (hE : Elems w (some ⟨b, o, none⟩) (13 + len) (bytesOf sumOf st rd mb md P)) (hW : Wid w) (hcap : 13 + len ≤ cap) (hl : P.length = len) (hP : Byte P) (h1 : 1 ≤ st) (hs : st ≤ 8) (hr : rd < 2 ^ 32) (hm : mb < 2 ^ 8) (hd' : md < 2 ^ 16) (hn : len ≤ 4095) :
    Calls Tryd.prog 8 #[.slice (some ⟨b, o, none⟩) (13 + len) cap] w fun e w' => ∃ g, e = .returned (.tuple #[fr st rd mb md (some ⟨g, 0, none⟩) len len, .int .i64 0]) ∧ Blk w' g P ∧ w.heap.size ≤ g ∧ Below w.heap.size w w' := by
  subst hl
  obtain ⟨e0, e1, e2, e3, e4⟩ := H5_head (bytesOf sumOf st rd mb md P) st rd mb md P.length (fun i hi => bytesOf_head sumOf st rd mb md P i hi) hs hr hm hd' hn
  refine (fget_enough b o (13 + P.length) cap _ w hE hW hcap (by rw [e4]; exact Nat.le_refl _) (.inl (good_bytesOf st rd mb md P hP h1 hs hr hm hd' hn))).mono fun e w' h => ?_
  obtain ⟨hb, ⟨hng, _⟩ | ⟨_, g, he, hB, hg⟩⟩ := h
  · exact (hng (good_bytesOf st rd mb md P hP h1 hs hr hm hd' hn)).elim
  · rw [e0, e1, e2, e3, e4] at he
    rw [e4, bytesOf_payload] at hB
    exact ⟨g, he, hB, hg, hb⟩
theorem elems_new (w : World) (l : List Int) (c : Array Value) (t : TypeId) (hc : c = (l.map (Value.int .u8)).toArray) (hl : l.length ≤ 1048576) (hb : Byte l) : Elems (w.alloc (.cells c t)) (some ⟨w.heap.size, 0, none⟩) l.length l := by
  subst hc
  refine ⟨rfl, hl, fun i hi => byte_getD hb i, .inr ⟨_, 0, rfl, fun i hi => ?_⟩⟩
  rw [Nat.zero_add, cell_of_row _ w.heap.size i _ t (0, 0) (heap_alloc_new _ _)]
  simp [hi]
theorem Blk.elems' {w : World} {g : Nat} {l : List Int} (h : Blk w g l) (hb : Byte l) (hl : l.length ≤ 1048576) : Elems w (some ⟨g, 0, none⟩) l.length l := h.elems (fun i _ => byte_getD hb i) hl
theorem yes (w : World) : Calls Tryd.prog 18 #[] w fun e w' => e = .returned (.agg #[.int .u8 2, .int .i64 1]) ∧ w' = w.alloc (.cells #[.int .u8 2, .int .i64 1] 45) := by
  go_enter Tryd.func18, Tryd.ntmps18
  go_wp2
  refine bodyPost_ret (results_cell_row rfl _ _ w.heap.size 45 #[.int .u8 2, .int .i64 1] (0, 0) _ rfl (heap_alloc_new _ _) Tryd.underlying45 rfl (by kernel_rfl)) rfl ⟨rfl, rfl⟩
theorem no (w : World) : Calls Tryd.prog 19 #[] w fun e w' => e = .returned (.agg #[.int .u8 2, .int .i64 0]) ∧ w' = w.alloc (.cells #[.int .u8 2, .int .i64 0] 45) := by
  go_enter Tryd.func19, Tryd.ntmps19
  go_wp2
  refine bodyPost_ret (results_cell_row rfl _ _ w.heap.size 45 #[.int .u8 2, .int .i64 0] (0, 0) _ rfl (heap_alloc_new _ _) Tryd.underlying45 rfl (by kernel_rfl)) rfl ⟨rfl, rfl⟩
theorem byte_nil : Byte [] := fun _ h => (List.not_mem_nil h).elim
theorem byte_of {l : List Int} (h : l.all (fun z => decide (0 ≤ z ∧ z < 256)) = true) : Byte l := fun z hz => by simpa using List.all_eq_true.1 h z hz
theorem frame1 : (bytesOf sumOf 1 2 3 4 []).take 9 = [16, 0, 0, 0, 32, 48, 0, 64, 0] := by
  have := bytesOf_take sumOf 1 2 3 4 []
  rw [List.length_nil] at this
  rw [this]
  decide
/-- The steps of alive, one by one. -/
theorem a_put (w0 w : World) (hb : Below w0.heap.size w0 w) (hW : Wid w0) :
    Calls Tryd.prog 9 #[.agg #[.int .i64 1, .int .u32 2, .int .u8 3, .int .u16 4, .slice none 0 0]] w fun e w' => ∃ g, e = .returned (.tuple #[.slice (some ⟨g, 0, none⟩) 13 13, .int .i64 0]) ∧ Elems w' (some ⟨g, 0, none⟩) 13 (bytesOf sumOf 1 2 3 4 []) ∧ Below w0.heap.size w0 w' :=
  (fput_ok 1 2 3 4 none 0 0 [] w ⟨rfl, by decide, fun i hi => by omega, .inl rfl⟩ (hW.below hb) (by decide) (by decide) (by decide) (by decide) (by decide) (by decide)).mono fun e w' ⟨g, he, hB, _, hb'⟩ => by
    have h := hB.elems' (bytesOf_byte sumOf 1 2 3 4 [] byte_nil) (by rw [bytesOf_length]; decide)
    rw [bytesOf_length] at h
    exact ⟨g, he, h, bstep hb hb'⟩
theorem a_put9 (w0 w : World) (hb : Below w0.heap.size w0 w) :
    Calls Tryd.prog 9 #[.agg #[.int .i64 9, .int .u32 0, .int .u8 0, .int .u16 0, .slice none 0 0]] w fun e w' => e = .returned (.tuple #[.slice none 0 0, .int .i64 1]) ∧ Below w.heap.size w w' ∧ Below w0.heap.size w0 w' :=
  (fput_bad 9 0 0 0 none 0 0 w (.inl (by decide))).mono fun e w' h => ⟨h.1, h.2, bstep hb h.2⟩
theorem a_get (w0 w : World) (g : Nat) (hb : Below w0.heap.size w0 w) (hW : Wid w0) (hE : Elems w (some ⟨g, 0, none⟩) 13 (bytesOf sumOf 1 2 3 4 [])) :
    Calls Tryd.prog 8 #[.slice (some ⟨g, 0, none⟩) 13 13] w fun e w' => ∃ g2, e = .returned (.tuple #[.agg #[.int .i64 1, .int .u32 2, .int .u8 3, .int .u16 4, .slice (some ⟨g2, 0, none⟩) 0 0], .int .i64 0]) ∧ Below w.heap.size w w' ∧ Below w0.heap.size w0 w' :=
  (fget_put g 0 0 13 1 2 3 4 [] w hE (hW.below hb) (by decide) rfl byte_nil (by decide) (by decide) (by decide) (by decide) (by decide) (by decide)).mono fun e w' ⟨g2, he, _, _, hb'⟩ => ⟨g2, he, hb', bstep hb hb'⟩
theorem a_few (w0 w : World) (s : Option Addr) (cap : Nat) (hb : Below w0.heap.size w0 w) :
    Calls Tryd.prog 8 #[.slice s 12 cap] w fun e w' => e = .returned (.tuple #[.agg #[.int .i64 0, .int .u32 0, .int .u8 0, .int .u16 0, .slice none 0 0], .int .i64 4]) ∧ Below w.heap.size w w' ∧ Below w0.heap.size w0 w' :=
  (fget_few s 12 cap w (by decide)).mono fun e w' h => ⟨h.1, h.2, bstep hb h.2⟩
theorem vals3 (w : World) : Vals (w.alloc (.cells #[.int .u8 2, .int .i64 1, .int .u8 2, .int .i64 0, .int .u8 2, .int .i64 1] 45)) (some ⟨w.heap.size, 0, none⟩) 3 (fun _ => 2) (fun i => [1, 0, 1].getD i 0) := by
  refine ⟨by decide, fun _ _ => show 2 < 256 by decide, .inr ⟨_, 0, rfl, fun i hi => ?_⟩⟩
  rw [cell_of_row _ w.heap.size _ _ 45 (0, 0) (heap_alloc_new _ _), cell_of_row _ w.heap.size _ _ 45 (0, 0) (heap_alloc_new _ _)]
  rcases i with _ | _ | _ | i
  · exact ⟨rfl, rfl⟩
  · exact ⟨rfl, rfl⟩
  · exact ⟨rfl, rfl⟩
  · omega
theorem a_pay (w0 w : World) (hb : Below w0.heap.size w0 w) :
    Calls Tryd.prog 13 #[.slice (some ⟨w.heap.size, 0, none⟩) 3 3] (w.alloc (.cells #[.int .u8 2, .int .i64 1, .int .u8 2, .int .i64 0, .int .u8 2, .int .i64 1] 45)) fun e w' => ∃ g, e = .returned (.tuple #[.slice (some ⟨g, 0, none⟩) 1 1, .int .i64 0]) ∧ Elems w' (some ⟨g, 0, none⟩) 1 [160] ∧ Below w.heap.size w w' ∧ Below w0.heap.size w0 w' :=
  (payload _ 3 3 _ _ _ (vals3 w) (fun i hi => by
    rcases i with _ | _ | _ | i
    · decide
    · decide
    · decide
    · omega) (by decide) (by decide)).mono fun e w' ⟨g, he, hB, _, hb'⟩ => by
      have e2 : pack (upTo (fun i => wide ((fun _ => 2) i)) (fun i => un ((fun i => [1, 0, 1].getD i 0) i)) 3) = [160] := by decide
      rw [e2] at hB
      have := bstep (below_alloc w _) hb'
      exact ⟨g, he, hB.elems' (byte_of (by decide)) (by decide), this, bstep hb this⟩
theorem a_val3 (w0 w : World) (g : Nat) (hb : Below w0.heap.size w0 w) (hE : Elems w (some ⟨g, 0, none⟩) 1 [160]) :
    Calls Tryd.prog 14 #[.slice (some ⟨g, 0, none⟩) 1 1, .slice (some ⟨w.heap.size, 0, none⟩) 3 3] (w.alloc (.cells #[.int .u8 2, .int .u8 2, .int .u8 2] 43)) fun e w' => ∃ g2, e = .returned (.tuple #[.slice (some ⟨g2, 0, none⟩) 3 3, .int .i64 0]) ∧ Vals w' (some ⟨g2, 0, none⟩) 3 (fun i => ([2, 2, 2] : List Int).getD i 0 |>.toNat) (XT [160] [2, 2, 2]) ∧ Below w.heap.size w w' ∧ Below w0.heap.size w0 w' :=
  (values_ok _ 1 _ 3 3 [160] [2, 2, 2] 3 _ (hE.below (below_alloc _ _)) (elems_new w [2, 2, 2] _ 43 rfl (by decide) (byte_of (by decide))) (fun i hi => by
    rcases i with _ | _ | _ | i
    · decide
    · decide
    · decide
    · omega) (by decide) (by decide)).mono fun e w' ⟨g2, he, hR, _, hb'⟩ => by
      have := bstep (below_alloc w _) hb'
      exact ⟨g2, he, hR.vals (by decide) (fun i _ => byte_getD (byte_of (by decide)) i), this, bstep hb this⟩
theorem a_val2 (w0 w : World) (g : Nat) (hb : Below w0.heap.size w0 w) (hE : Elems w (some ⟨g, 0, none⟩) 1 [160]) :
    Calls Tryd.prog 14 #[.slice (some ⟨g, 0, none⟩) 1 1, .slice (some ⟨w.heap.size, 0, none⟩) 2 2] (w.alloc (.cells #[.int .u8 2, .int .u8 2] 43)) fun e w' => e = .returned (.tuple #[.slice none 0 0, .int .i64 5]) ∧ Below w.heap.size w w' ∧ Below w0.heap.size w0 w' :=
  (values_behind _ 1 _ 2 2 [160] [2, 2] 2 _ (hE.below (below_alloc _ _)) (elems_new w [2, 2] _ 43 rfl (by decide) (byte_of (by decide))) (fun i hi => by
    rcases i with _ | _ | i
    · decide
    · decide
    · omega) (by decide) (by decide)).mono fun e w' h => by
      have := bstep (below_alloc w _) h.2
      exact ⟨h.1, this, bstep hb this⟩
theorem a_bits (w0 w : World) (hb : Below w0.heap.size w0 w) :
    Calls Tryd.prog 16 #[.slice (some ⟨w.heap.size, 0, none⟩) 2 2] (w.alloc (.cells #[.int .u8 1, .int .u8 2] 43)) fun e w' => e = .returned (.int .i64 176) ∧ Below w0.heap.size w0 w' :=
  (bits14 _ 2 2 [1, 2] _ (elems_new w [1, 2] _ 43 rfl (by decide) (byte_of (by decide)))).mono fun e w' h => ⟨h.1, bstep hb (bstep (below_alloc w _) h.2)⟩
theorem a_bits3 (w0 w : World) (A B : Obj) (hb : Below w0.heap.size w0 w) :
    Calls Tryd.prog 16 #[.slice (some ⟨w.heap.size + 1 + 1, 0, none⟩) 2 2] (((w.alloc A).alloc B).alloc (.cells #[.int .u8 1, .int .u8 2] 43)) fun e w' => e = .returned (.int .i64 176) ∧ Below w0.heap.size w0 w' := by
  have h := a_bits w0 ((w.alloc A).alloc B) (bstep (bstep hb (below_alloc _ _)) (below_alloc _ _))
  have e : ((w.alloc A).alloc B).heap.size = w.heap.size + 1 + 1 := by simp
  rw [e] at h
  exact h
theorem a_same9 (w0 w : World) (g : Nat) (cap : Nat) (hb : Below w0.heap.size w0 w) (hE : Elems w (some ⟨g, 0, none⟩) 13 (bytesOf sumOf 1 2 3 4 [])) :
    Calls Tryd.prog 11 #[.slice (some ⟨g, 0, none⟩) 9 cap, .slice (some ⟨w.heap.size, 0, none⟩) 9 9] (w.alloc (.cells #[.int .u8 16, .int .u8 0, .int .u8 0, .int .u8 0, .int .u8 32, .int .u8 48, .int .u8 0, .int .u8 64, .int .u8 0] 5)) fun e w' => e = .returned (.bool true) ∧ Below w.heap.size w w' ∧ Below w0.heap.size w0 w' := by
  have h1 := (hE.take 9 (by decide)).below (below_alloc w (.cells #[.int .u8 16, .int .u8 0, .int .u8 0, .int .u8 0, .int .u8 32, .int .u8 48, .int .u8 0, .int .u8 64, .int .u8 0] 5))
  rw [frame1] at h1
  refine (same_b _ _ 9 cap 9 [16, 0, 0, 0, 32, 48, 0, 64, 0] _ h1 (elems_new w [16, 0, 0, 0, 32, 48, 0, 64, 0] _ 5 rfl (by decide) (byte_of (by decide)))).mono fun e w' h => ?_
  have := bstep (below_alloc w _) h.2
  exact ⟨h.1, this, bstep hb this⟩
theorem a_same1 (w0 w : World) (g : Nat) (hb : Below w0.heap.size w0 w) (hE : Elems w (some ⟨g, 0, none⟩) 1 [160]) :
    Calls Tryd.prog 11 #[.slice (some ⟨g, 0, none⟩) 1 1, .slice (some ⟨w.heap.size, 0, none⟩) 1 1] (w.alloc (.cells #[.int .u8 160] 5)) fun e w' => e = .returned (.bool true) ∧ Below w.heap.size w w' ∧ Below w0.heap.size w0 w' := by
  refine (same_b _ _ 1 1 1 [160] _ (hE.below (below_alloc _ _)) (elems_new w [160] _ 5 rfl (by decide) (byte_of (by decide)))).mono fun e w' h => ?_
  have := bstep (below_alloc w _) h.2
  exact ⟨h.1, this, bstep hb this⟩
/-- The first two of three values, in cells. -/
def V4 (w : World) (g : Nat) : Prop := w.cell? ⟨g, 0, none⟩ = some (.int .u8 2) ∧ w.cell? ⟨g, 1, none⟩ = some (.int .i64 1) ∧ w.cell? ⟨g, 2, none⟩ = some (.int .u8 2) ∧ w.cell? ⟨g, 3, none⟩ = some (.int .i64 0)
theorem V4.of {w : World} {g : Nat} (h : Vals w (some ⟨g, 0, none⟩) 3 (fun i => ([2, 2, 2] : List Int).getD i 0 |>.toNat) (XT [160] [2, 2, 2])) : V4 w g := by
  obtain ⟨b, o, e, hc⟩ := h.2.2.resolve_left (by decide)
  cases e
  have h0 := hc 0 (by decide)
  have h1 := hc 1 (by decide)
  have e0 : XT [160] [2, 2, 2] 0 = 1 := by decide
  have e1 : XT [160] [2, 2, 2] 1 = 0 := by decide
  rw [e0] at h0
  rw [e1] at h1
  exact ⟨h0.1, h0.2, h1.1, h1.2⟩
theorem V4.below {w w' : World} {g : Nat} (h : V4 w g) (hb : Below w.heap.size w w') : V4 w' g :=
  ⟨(hb.cell (World.block_lt_of_cell? w _ h.1)).trans h.1, (hb.cell (World.block_lt_of_cell? w _ h.2.1)).trans h.2.1, (hb.cell (World.block_lt_of_cell? w _ h.2.2.1)).trans h.2.2.1, (hb.cell (World.block_lt_of_cell? w _ h.2.2.2)).trans h.2.2.2⟩
set_option maxRecDepth 100000 in
set_option maxHeartbeats 40000000 in
theorem alive (w : World) (hW : Wid w) : Calls Tryd.prog 7 #[] w fun e w' => e = .returned (.bool true) ∧ Below w.heap.size w w' := by
  have hb0 := Below.refl w.heap.size w
  have p1 : Hid True := trivial
  have p2 : Hid True := trivial
  have p3 : Hid True := trivial
  have p4 : Hid True := trivial
  have p5 : Hid True := trivial
  have y1 : Hid True := trivial
  have y2 : Hid True := trivial
  have n1 : Hid True := trivial
  go_enter Tryd.func7, Tryd.ntmps7
  go_wp2_with (first
    | (go_at_call 9; first
      | (clear p1; refine (a_put w _ hb0 hW).mono ?_; rintro e w1 ⟨g1, rfl, hE1, hb1⟩)
      | (clear p2; refine (a_put9 w _ hb4).mono ?_; rintro e w5 ⟨rfl, hk5, hb5⟩; have hF5 : Hid (w5.heap[w2.heap.size]? = some (.cells #[.int .i64 1, .int .u32 2, .int .u8 3, .int .u16 4, .slice (some ⟨g2, 0, none⟩) 0 0] 27 (0, 0))) := row_kept hF4.out hk5))
    | (go_at_call 11; refine (a_same9 w w1 g1 _ hb1 hE1).mono ?_; rintro e w1a ⟨rfl, hk1a, hb1a⟩; have hE1a := hE1.below hk1a)
    | (go_at_call 8; first
      | (clear p4; refine (a_get w _ g1 hb1a hW hE1a).mono ?_; rintro e w2 ⟨g2, rfl, hk2, hb2⟩; have hb2' := bstep hb2 (below_alloc w2 (.cells #[.int .i64 1, .int .u32 2, .int .u8 3, .int .u16 4, .slice (some ⟨g2, 0, none⟩) 0 0] 27)))
      | (refine (a_few w _ _ _ hb2').mono ?_; rintro e w3 ⟨rfl, hk3, hb3⟩; have hF3 : Hid (w3.heap[w2.heap.size]? = some (.cells #[.int .i64 1, .int .u32 2, .int .u8 3, .int .u16 4, .slice (some ⟨g2, 0, none⟩) 0 0] 27 (0, 0))) := row_kept (heap_alloc_new _ _) hk3; have hb4 := bstep hb3 (below_alloc w3 (.cells #[.int .i64 0, .int .u32 0, .int .u8 0, .int .u16 0, .slice none 0 0] 27)); have hF4 : Hid ((w3.alloc (.cells #[.int .i64 0, .int .u32 0, .int .u8 0, .int .u16 0, .slice none 0 0] 27)).heap[w2.heap.size]? = some (.cells #[.int .i64 1, .int .u32 2, .int .u8 3, .int .u16 4, .slice (some ⟨g2, 0, none⟩) 0 0] 27 (0, 0))) := row_kept hF3.out (below_alloc _ _)))
    | (go_at_call 18; first
      | (clear y1; refine (yes w5).mono ?_; rintro e w6 ⟨rfl, h6⟩; have hk6 : Below w5.heap.size w5 w6 := h6 ▸ below_alloc w5 _; clear h6)
      | (clear y2; refine (yes w7).mono ?_; rintro e w8 ⟨rfl, h8⟩; have hk8 : Below w5.heap.size w5 w8 := bstep hk7 (h8 ▸ below_alloc w7 _); clear h8; have hb8 := bstep hb5 hk8; have hF8 : Hid (w8.heap[w2.heap.size]? = some (.cells #[.int .i64 1, .int .u32 2, .int .u8 3, .int .u16 4, .slice (some ⟨g2, 0, none⟩) 0 0] 27 (0, 0))) := row_kept hF5.out hk8))
    | (go_at_call 19; refine (no w6).mono ?_; rintro e w7 ⟨rfl, h7⟩; have hk7 : Below w5.heap.size w5 w7 := bstep hk6 (h7 ▸ below_alloc w6 _); clear h7)
    | (go_at_call 13; refine (a_pay w w8 hb8).mono ?_; rintro e w9 ⟨g8, rfl, hE9, hk9, hb9⟩; have hF9 : Hid (w9.heap[w2.heap.size]? = some (.cells #[.int .i64 1, .int .u32 2, .int .u8 3, .int .u16 4, .slice (some ⟨g2, 0, none⟩) 0 0] 27 (0, 0))) := row_kept hF8.out hk9)
    | (go_at_call 14; first
      | (clear p5; refine (a_val3 w w9 g8 hb9 hE9).mono ?_; rintro e w10 ⟨g10, rfl, hV10, hk10, hb10⟩; have hE10 := hE9.below hk10; have hF10 : Hid (w10.heap[w2.heap.size]? = some (.cells #[.int .i64 1, .int .u32 2, .int .u8 3, .int .u16 4, .slice (some ⟨g2, 0, none⟩) 0 0] 27 (0, 0))) := row_kept hF9.out hk10; have hVV : V4 w10 g10 := V4.of hV10)
      | (refine (a_val2 w w10 g8 hb10 hE10).mono ?_; rintro e w12 ⟨rfl, hk12, hb12⟩; have hE12 := hE10.below hk12; have hV12 := hVV.below hk12; have hF12 : Hid (w12.heap[w2.heap.size]? = some (.cells #[.int .i64 1, .int .u32 2, .int .u8 3, .int .u16 4, .slice (some ⟨g2, 0, none⟩) 0 0] 27 (0, 0))) := row_kept hF10.out hk12)))
  obtain ⟨⟨f0, f1, f2, f3, f4⟩, _⟩ := row5 hF12.out
  have hV12' := hV12
  obtain ⟨c0, c1, c2, c3⟩ := hV12'
  have hS : ∀ W, Below w12.heap.size w12 W → Below w12.heap.size w12 W ∧ W.cell? ⟨w2.heap.size, 0, none⟩ = some (.int .i64 1) ∧ W.cell? ⟨w2.heap.size, 1, none⟩ = some (.int .u32 2) ∧ W.cell? ⟨w2.heap.size, 2, none⟩ = some (.int .u8 3) ∧ W.cell? ⟨w2.heap.size, 3, none⟩ = some (.int .u16 4) ∧ W.cell? ⟨g10, 0, none⟩ = some (.int .u8 2) ∧ W.cell? ⟨g10, 1, none⟩ = some (.int .i64 1) ∧ W.cell? ⟨g10, 2, none⟩ = some (.int .u8 2) ∧ W.cell? ⟨g10, 3, none⟩ = some (.int .i64 0) := fun W h =>
    ⟨h, (h.cell (World.block_lt_of_cell? w12 _ f0)).trans f0, (h.cell (World.block_lt_of_cell? w12 _ f1)).trans f1, (h.cell (World.block_lt_of_cell? w12 _ f2)).trans f2, (h.cell (World.block_lt_of_cell? w12 _ f3)).trans f3, (h.cell (World.block_lt_of_cell? w12 _ c0)).trans c0, (h.cell (World.block_lt_of_cell? w12 _ c1)).trans c1, (h.cell (World.block_lt_of_cell? w12 _ c2)).trans c2, (h.cell (World.block_lt_of_cell? w12 _ c3)).trans c3⟩
  have HS : Hid (∀ W, Below w12.heap.size w12 W → Below w12.heap.size w12 W ∧ W.cell? ⟨w2.heap.size, 0, none⟩ = some (.int .i64 1) ∧ W.cell? ⟨w2.heap.size, 1, none⟩ = some (.int .u32 2) ∧ W.cell? ⟨w2.heap.size, 2, none⟩ = some (.int .u8 3) ∧ W.cell? ⟨w2.heap.size, 3, none⟩ = some (.int .u16 4) ∧ W.cell? ⟨g10, 0, none⟩ = some (.int .u8 2) ∧ W.cell? ⟨g10, 1, none⟩ = some (.int .i64 1) ∧ W.cell? ⟨g10, 2, none⟩ = some (.int .u8 2) ∧ W.cell? ⟨g10, 3, none⟩ = some (.int .i64 0)) := hS
  have hB12 := Below.refl w12.heap.size w12
  have hkd : Below w12.heap.size w12 (w12.alloc (.cells #[.int .u8 160] 5)).drew := below_drew (below_alloc w12 _)
  have hsame : Hid (Calls Tryd.prog 11 #[.slice (some ⟨g8, 0, none⟩) 1 1, .slice (some ⟨w12.heap.size, 0, none⟩) 1 1] (w12.alloc (.cells #[.int .u8 160] 5)).drew fun e w' => e = .returned (.bool true) ∧ Below w12.heap.size w12 w') :=
    (same_b _ _ 1 1 1 [160] _ (hE12.below hkd) ((elems_new w12 [160] _ 5 rfl (by decide) (byte_of (by decide))).below (below_drew (Below.refl _ _)))).mono fun e w' h => ⟨h.1, bstep hkd h.2⟩
  clear hS f0 f1 f2 f3 f4 c0 c1 c2 c3 hV12 hVV hV10 hF10 hF9 hF8 hF5 hF4 hF3 hk12 hk10 hk9 hk8 hk7 hk6 hk5 hk3 hk2 hk1a
  simp only [List.append_eq, List.cons_append, List.nil_append]
  go_region_held3 (fun W => Below w12.heap.size w12 W ∧ W.cell? ⟨w2.heap.size, 0, none⟩ = some (.int .i64 1) ∧ W.cell? ⟨w2.heap.size, 1, none⟩ = some (.int .u32 2) ∧ W.cell? ⟨w2.heap.size, 2, none⟩ = some (.int .u8 3) ∧ W.cell? ⟨w2.heap.size, 3, none⟩ = some (.int .u16 4) ∧ W.cell? ⟨g10, 0, none⟩ = some (.int .u8 2) ∧ W.cell? ⟨g10, 1, none⟩ = some (.int .i64 1) ∧ W.cell? ⟨g10, 2, none⟩ = some (.int .u8 2) ∧ W.cell? ⟨g10, 3, none⟩ = some (.int .i64 0)) (first | assumption | (refine HS.out _ ?_; go_split_ands; repeat (first | assumption | refine below_drew ?_ | refine bstep ?_ (below_alloc _ _)))) (first | (go_at_call 11; refine hsame.out.mono ?_; rintro e w13 ⟨rfl, hq13⟩) | (go_at_call 18; go_split_ands; refine (yes _).mono ?_; rintro e w14 ⟨rfl, h14⟩; rw [h14]; clear h14 w14) | (go_at_call 19; go_split_ands; refine (no _).mono ?_; rintro e w15 ⟨rfl, h15⟩; rw [h15]; clear h15 w15) | (go_at_call 16; refine (a_bits3 w12 w13 _ _ hq13).mono ?_; rintro e w16 ⟨rfl, hb16⟩))
  go_wp2
  go_ret
  exact ⟨rfl, bstep hb12 hb16⟩
end Go.Proofs.YtmbkdalmnfcbfabDoor.Bits
