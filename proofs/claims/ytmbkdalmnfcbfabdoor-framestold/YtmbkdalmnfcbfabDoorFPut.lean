/-
  frames.Put: a frame as bytes, or refused.
-/
import Derived.Test.YtmbkdalmnfcbfabDoorHead
namespace Go.Proofs.YtmbkdalmnfcbfabDoor.Bits
open Go.ChangeShapes Go.WideShapes Go.ChangeAt Go.RowKit Go.Shelf
/-- The sum of bytes. -/
def sumOf (B : List Int) : Nat := (Crc.more 0#32 B).toNat
theorem sumOf_lt (B : List Int) : sumOf B < 2 ^ 32 := (Crc.more 0#32 B).isLt
/-- crc.Of. -/
theorem crcOf (a : Option Addr) (len cap : Nat) (l : List Int) (w : World) (hE : Elems w a len l) :
    Calls Tryd.prog 12 #[.slice a len cap] w fun e w' => e = .returned (.int .u32 (sumOf l : Int)) ∧ Below w.heap.size w w' := Crc.w11 a len cap l w hE
/-- A frame, as it is handed over. -/
def fr (st : Int) (rd mb md : Nat) (a : Option Addr) (len cap : Nat) : Value := .agg #[.int .i64 st, .int .u32 (rd : Int), .int .u8 (mb : Int), .int .u16 (md : Int), .slice a len cap]
theorem new_b (w0 w : World) (hb : Below w0.heap.size w0 w) :
    Calls Tryd.prog 22 #[] w fun e w' => ∃ a r, e = .returned (.pointer (some ⟨a, 0, none⟩)) ∧ w0.heap.size ≤ a ∧ Pen w0.heap.size w' a r (.slice none 0 0) [] ∧ Below w0.heap.size w0 w' :=
  (new w).mono fun e w' ⟨he, _, hW, hb'⟩ => ⟨_, _, he, Nat.le_trans hb.size (Nat.le_succ _), ⟨hW, hb.size, fun g hg => by simp [Value.ownBlock] at hg⟩, bstep hb hb'⟩
theorem N5_cell {w : World} {b st rd mb md n : Nat} (h : w.heap[b]? = some (.cells #[.int .u64 (st : Int), .int .u64 (rd : Int), .int .u64 (mb : Int), .int .u64 (md : Int), .int .u64 (n : Int), .int .u64 0] 55 (0, 0))) (j : Nat) (hj : j < 5) :
    w.cell? ⟨b, j, none⟩ = some (.int .u64 (N5 st rd mb md n j : Int)) := by
  rw [cell_of_row w b j _ 55 (0, 0) h]
  rcases j with _ | _ | _ | _ | _ | j
  all_goals first | rfl | omega
theorem N5_lt {st rd mb md n : Nat} (hs8 : st ≤ 8) (hrd : rd < 2 ^ 32) (hmb : mb < 2 ^ 8) (hmd : md < 2 ^ 16) (hl : n ≤ 4095) (j : Nat) (hj : j < 5) : N5 st rd mb md n j < 2 ^ K5 j := by
  rcases j with _ | _ | _ | _ | _ | j
  · show st < 2 ^ 4; omega
  · exact hrd
  · exact hmb
  · exact hmd
  · show n < 2 ^ 12; omega
  · omega
theorem upTo_len5 (N : Nat → Nat) (j : Nat) (hj : j ≤ 5) : (upTo K5 N j).length ≤ 72 := by
  rcases j with _ | _ | _ | _ | _ | _ | j
  all_goals first | (simp [upTo, bitsOf_length, K5]; done) | omega
theorem below_drew {B : Nat} {a w : World} (h : Below B a w) : Below B a w.drew := h.trans ⟨rfl, rfl, rfl, Nat.le_refl _, fun _ _ => rfl⟩
theorem Pen.drew {B : Nat} {w : World} {a r : Nat} {v : Value} {L : List Bool} (h : Pen B w a r v L) : Pen B w.drew a r v L := h.kept (below_drew (Below.refl _ _))
theorem Pen.mono {B B' : Nat} {w : World} {a r : Nat} {v : Value} {L : List Bool} (h : Pen B w a r v L) (hB : B' ≤ B) : Pen B' w a r v L := ⟨h.wr, Nat.le_trans hB h.lo, fun g hg => Nat.le_trans hB (h.own g hg)⟩
/-- A store beside a writer's memory. -/
theorem Pen.set {B b : Nat} {w : World} {a r : Nat} {v : Value} {L : List Bool} (h : Pen B w a r v L) (hb : b < B) (ha : B ≤ a) (i : Nat) (u : Value) : Pen B (w.setCell ⟨b, i, none⟩ u) a r v L := by
  refine ⟨⟨by rw [heap_set_other _ (by omega)]; exact h.wr.ptr, by have := h.lo; rw [heap_set_other _ (by omega)]; exact h.wr.row.row, ?_⟩, h.lo, h.own⟩
  refine h.wr.row.own.kept (row := some b) ⟨rfl, rfl, rfl, by simp [World.setCell], fun k _ hk => heap_set_other _ (fun e => hk (by rw [e])) _ _⟩ ?_
  exact .inr fun e => by have := h.own b e; omega
theorem bytes_b (w0 : World) (a r : Nat) (v : Value) (L : List Bool) (w : World) (hb : Below w0.heap.size w0 w) (hP : Pen w0.heap.size w a r v L) (hL : L.length ≤ 8388608) (B : List Int) (hB : pack L = B) (n : Nat) (hn : B.length = n) :
    Calls Tryd.prog 24 #[.pointer (some ⟨a, 0, none⟩)] w fun e w' => ∃ g, e = .returned (.slice (some ⟨g, 0, none⟩) n n) ∧ Blk w' g B ∧ w0.heap.size ≤ g ∧ Elems w' (some ⟨g, 0, none⟩) n B ∧ Below w.heap.size w w' ∧ Below w0.heap.size w0 w' := by
  subst hn hB
  exact (bytes a r v L w hP.wr (by omega)).mono fun e w' h => ⟨_, h.1, h.2.1, hb.size, h.2.1.elems (pack_bytes L) (by rw [pack_length]; omega), h.2.2, bstep hb h.2.2⟩
/-- Put, refused. -/
theorem fput_bad (st : Int) (rd mb md : Nat) (a : Option Addr) (len cap : Nat) (w : World) (hbad : ¬ (1 ≤ st ∧ st ≤ 8) ∨ 4095 < len) :
    Calls Tryd.prog 9 #[fr st rd mb md a len cap] w fun e w' => e = .returned (.tuple #[.slice none 0 0, .int .i64 1]) ∧ Below w.heap.size w w' := by
  unfold fr
  by_cases hs : 1 ≤ st ∧ st ≤ 8
  · have hl : (4095 : Int) < (len : Int) := by have := hbad.resolve_left (fun h => h hs); omega
    have hd : decide (1 ≤ st ∧ st ≤ 8) = true := decide_eq_true hs
    clear hbad
    go_enter Tryd.func9, Tryd.ntmps9
    go_wp2_with (go_at_call 21; refine (isStation _ _).mono ?_; rintro e w2 ⟨rfl, h2⟩; rw [hd, h2]; clear h2 w2)
    refine bodyPost_ret (results_tmp2 rfl _ _ _) rfl ?_
    exact ⟨rfl, (Below.refl _ _).alloc (Nat.le_refl _) _⟩
  · have hd : decide (1 ≤ st ∧ st ≤ 8) = false := decide_eq_false hs
    clear hbad
    go_enter Tryd.func9, Tryd.ntmps9
    go_wp2_with (go_at_call 21; refine (isStation _ _).mono ?_; rintro e w2 ⟨rfl, h2⟩; rw [hd, h2]; clear h2 w2)
    refine bodyPost_ret (results_tmp2 rfl _ _ _) rfl ?_
    exact ⟨rfl, (Below.refl _ _).alloc (Nat.le_refl _) _⟩
set_option maxRecDepth 100000 in
/-- Put: the bytes of a frame that may be, in new memory. -/
theorem fput_ok (st rd mb md : Nat) (a : Option Addr) (len cap : Nat) (P : List Int) (w : World) (hE : Elems w a len P) (hW : Wid w) (hs1 : 1 ≤ st) (hs8 : st ≤ 8) (hrd : rd < 2 ^ 32) (hmb : mb < 2 ^ 8) (hmd : md < 2 ^ 16) (hl : len ≤ 4095) :
    Calls Tryd.prog 9 #[fr st rd mb md a len cap] w fun e w' => ∃ g, e = .returned (.tuple #[.slice (some ⟨g, 0, none⟩) (13 + len) (13 + len), .int .i64 0]) ∧ Blk w' g (bytesOf sumOf st rd mb md P) ∧ w.heap.size ≤ g ∧ Below w.heap.size w w' := by
  unfold fr
  have hde : decide (1 ≤ (st : Int) ∧ (st : Int) ≤ 8) = true := decide_eq_true (by omega)
  have hl' : (len : Int) ≤ 4095 := by omega
  go_enter Tryd.func9, Tryd.ntmps9
  go_wp2_with (first
    | (go_at_call 21; refine (isStation _ _).mono ?_; rintro e w2 ⟨rfl, h2⟩; rw [hde, h2]; clear h2 w2)
    | (go_at_call 22; refine (new_b _ _ (Below.refl _ _)).mono ?_; rintro e w2 ⟨pa, pr, rfl, hpa, hP2, hb2⟩))
  obtain ⟨W1, hW1⟩ : ∃ W1, ((w.alloc (Obj.cells #[Value.int IntKind.i64 (st : Int), Value.int IntKind.u32 (rd : Int), Value.int IntKind.u8 (mb : Int), Value.int IntKind.u16 (md : Int), Value.slice a len cap] 27)).alloc (Obj.cells #[Value.int IntKind.u64 (st : Int), Value.int IntKind.u64 (rd : Int), Value.int IntKind.u64 (mb : Int), Value.int IntKind.u64 (md : Int), Value.int IntKind.u64 (len : Int), Value.int IntKind.u64 0] 55)) = W1 := ⟨_, rfl⟩
  have hb1 : Below w.heap.size w W1 := by rw [← hW1]; exact ((Below.refl _ _).alloc (Nat.le_refl _) _).alloc (by simp) _
  have hN1 : Hid (W1.heap[w.heap.size + 1]? = some (.cells #[.int .u64 (st : Int), .int .u64 (rd : Int), .int .u64 (mb : Int), .int .u64 (md : Int), .int .u64 (len : Int), .int .u64 0] 55 (0, 0))) := by rw [← hW1]; exact heap_alloc2_new _ _ _
  have hF1 : W1.cell? ⟨w.heap.size, 4, none⟩ = some (.slice a len cap) := by
    rw [cell_of_row W1 w.heap.size 4 _ 27 (0, 0) (by rw [← hW1]; exact heap_alloc2_old _ _ _)]; rfl
  have hz1 : W1.heap.size = w.heap.size + 2 := by rw [← hW1]; simp
  rw [hW1] at hpa hP2 hb2
  clear hW1
  have hE1 := hE.below hb1
  have hW1 := hW.below hb1
  obtain ⟨N, hN⟩ : ∃ N : Nat → Nat, N = N5 st rd mb md len := ⟨_, rfl⟩
  have hNlt : Hid (∀ j, j < 5 → N j < 2 ^ K5 j) := by rw [hN]; exact fun j hj => N5_lt hs8 hrd hmb hmd hl j hj
  have hNc : Hid (∀ j, j < 5 → W1.cell? ⟨w.heap.size + 1, j, none⟩ = some (.int .u64 (N j : Int))) := by rw [hN]; exact fun j hj => N5_cell hN1.out j hj
  have HN : Hid (upTo K5 N 5 = hd st rd mb md len) := by show _ = _; rw [hN]; rfl
  clear hN
  go_loopw [37] (fun i wr => ∃ (j : Nat) (v : Value), j ≤ 5 ∧ i = .int .i64 j ∧ Pen W1.heap.size wr pa pr v (upTo K5 N j) ∧ Below W1.heap.size W1 wr) (fun i _ => 5 - (intOf i).toNat)
  case atStart => exact ⟨0, _, by decide, rfl, hP2, hb2⟩
  case round =>
    clear hP2 hb2
    obtain ⟨j, v, hj, rfl, hP, hb⟩ := hrel
    by_cases hlt : j < 5
    · have hcN1 := hNc.out j hlt
      have hcW1 := hW1 j (by omega)
      have hNj := hNlt.out j hlt
      have hkj := K5_le j
      have hup : Hid (upTo K5 N (j + 1) = upTo K5 N j ++ bitsOf (N j) (K5 j)) := rfl
      have hln := upTo_len5 N j hj
      have hj0 : (0 : Int) ≤ (j : Int) := by omega
      have hj5 : (j : Int) < 5 := by omega
      have hj6 : (j : Int) < 6 := by omega
      generalize upTo K5 N j = L at hP hup hln
      generalize N j = n at hcN1 hNj hup
      generalize K5 j = k at hcW1 hNj hkj hup
      have hcN := (hb.cell (World.block_lt_of_cell? W1 _ hcN1)).trans hcN1
      have hcW := (hb.cell (World.block_lt_of_cell? W1 _ hcW1)).trans hcW1
      go_wp2
      go_region_held3 (fun w' => w'.cell? ⟨w.heap.size + 1, j, none⟩ = some (.int .u64 (n : Int)) ∧ w'.cell? ⟨0, j, none⟩ = some (.int .i64 (k : Int)))
        (first | go_keep | exact ⟨(hb4.cell (World.block_lt_of_cell? W1 _ hcN1)).trans hcN1, (hb4.cell (World.block_lt_of_cell? W1 _ hcW1)).trans hcW1⟩)
        (first | (go_at_call 23; refine (put_a W1 pa pr v L n k _ (by first | exact hb | exact below_drew hb) (by first | exact hP | exact hP.drew) (by omega) hNj (by omega)).mono ?_; rintro e w4 ⟨rfl, v4, hP4, hb4⟩))
      go_wp2
      go_roundw
      case rel => exact ⟨j + 1, v4, by omega, by go_num, by rw [hup.out]; exact hP4, hb4⟩
      case measure => simp [intOf]; omega
    · have hj5 : j = 5 := by omega
      have hj' : (5 : Int) ≤ (j : Int) := by omega
      rw [hj5, HN.out] at hP
      clear hj5
      have hF := (hb.cell (World.block_lt_of_cell? W1 _ hF1)).trans hF1
      have hhd := hd_length st rd mb md len
      have HB : Hid (pack (hd st rd mb md len ++ part P 0 (8 * len)) = body st rd mb md P) := by
        have := body_pack st rd mb md P (byte_of_getD fun i hi => hE.2.2.1 i (by rw [hE.1] at hi; exact hi))
        rw [hE.1, full, hE.1] at this
        exact this
      have HB2 : Hid (pack (hd st rd mb md len ++ part P 0 (8 * len) ++ bitsOf (sumOf (body st rd mb md P)) 32) = bytesOf sumOf st rd mb md P) := by
        have := bytesOf_pack sumOf st rd mb md P (byte_of_getD fun i hi => hE.2.2.1 i (by rw [hE.1] at hi; exact hi))
        rw [hE.1, full, hE.1] at this
        exact this
      generalize hd st rd mb md len = D at hP hhd HB HB2
      clear HN hNlt
      go_wp2
      go_loopw [52] (fun i w3 => ∃ (j : Nat) (v : Value), j ≤ len ∧ i = .int .i64 j ∧ Pen W1.heap.size w3 pa pr v (D ++ part P 0 (8 * j)) ∧ Below W1.heap.size W1 w3) (fun i _ => len - (intOf i).toNat)
      case atStart => exact ⟨0, v, Nat.zero_le _, rfl, by rw [show part P 0 (8 * 0) = [] from rfl, List.append_nil]; exact hP, hb⟩
      case round =>
        clear hP hb
        obtain ⟨q, v3, hq, rfl, hP, hb⟩ := hrel
        by_cases hql : q < len
        · obtain ⟨b, o, rfl, hc⟩ := (hE1.below hb).2.2.2.resolve_left (by omega)
          have hcq := hc q hql
          have hbq := hE.2.2.1 q hql
          have hup : D ++ part P 0 (8 * (q + 1)) = D ++ part P 0 (8 * q) ++ bitsOf (P.getD q 0).toNat 8 := by
            rw [bitsOf_byte, show 8 * (q + 1) = 8 * q + 8 by omega, part_add, Nat.zero_add, List.append_assoc]
          have hln : (D ++ part P 0 (8 * q)).length ≤ 40000 := by rw [List.length_append, part_length]; omega
          obtain ⟨c, hcc⟩ : ∃ c : Nat, P.getD q 0 = c := ⟨(P.getD q 0).toNat, by omega⟩
          rw [hcc, Int.toNat_natCast] at hup
          rw [hcc] at hcq hbq
          have HU : Hid (D ++ part P 0 (8 * (q + 1)) = D ++ part P 0 (8 * q) ++ bitsOf c 8) := hup
          have hc256 : c < 256 := by omega
          have hlt' : (q : Int) < (len : Int) := by omega
          have hq0 : (0 : Int) ≤ (q : Int) := by omega
          generalize D ++ part P 0 (8 * q) = L at hP hln HU
          clear hc hcc hup
          go_wp2_with (go_at_call 23; refine (put_a W1 pa pr v3 L c 8 wr hb hP (by decide) (by omega) (by omega)).mono ?_; rintro e w4 ⟨rfl, v4, hP4, hb4⟩)
          go_roundw
          case rel => exact ⟨q + 1, v4, by omega, by go_num, by rw [HU.out]; exact hP4, hb4⟩
          case measure => simp [intOf]; omega
        · have hql : len = q := by omega
          subst hql
          have hln : (D ++ part P 0 (8 * len)).length ≤ 40000 := by rw [List.length_append, part_length]; omega
          generalize D ++ part P 0 (8 * len) = L at hP hln HB HB2
          have hbl := body_length st rd mb md P
          have hbl2 := bytesOf_length sumOf st rd mb md P
          rw [hE.1] at hbl hbl2
          have hsl := sumOf_lt (body st rd mb md P)
          generalize body st rd mb md P = Bd at HB HB2 hbl hsl
          obtain ⟨By, hBy⟩ : ∃ By, bytesOf sumOf st rd mb md P = By := ⟨_, rfl⟩
          have HBy : Hid (bytesOf sumOf st rd mb md P = By) := hBy
          rw [hBy] at HB2 hbl2
          clear hBy
          generalize hsm : sumOf Bd = sm at HB2 hsl
          have Hsm : Hid (sumOf Bd = sm) := hsm
          have hsize : w.heap.size + 1 < W1.heap.size := by omega
          have hw5 : W1.cell? ⟨0, 5, none⟩ = some (.int .i64 32) := hW1 5 (by decide)
          have p1 : Hid True := trivial
          go_wp2_with (first
            | (go_at_call 24; first
              | (clear p1; refine (bytes_b W1 pa pr v3 L wr hb hP (by omega) Bd HB.out (9 + len) hbl).mono ?_; rintro e w5 ⟨g5, rfl, hB5, hg5, hE5, hk5, hb5⟩; have hP5 := hP.kept hk5)
              | (refine (bytes_b w pa pr v8 (L ++ bitsOf sm 32) w8 hb8 hP8 (by rw [List.length_append, bitsOf_length]; omega) By HB2.out (13 + len) hbl2).mono ?_; rintro e w9 ⟨g9, rfl, hB9, hg9, hE9, hk9, hb9⟩))
            | (go_at_call 12; refine (crcOf _ _ _ Bd w5 hE5).mono ?_; rintro e w6 ⟨rfl, hk6⟩; rw [Hsm.out]; have hP6 := hP5.kept hk6; have hb6 := bstep hb5 hk6; obtain ⟨old, hold, hfr⟩ := row_at (i := 5) (row_kept hN1.out hb6) (by simp); have hw6 := (hb6.cell (World.block_lt_of_cell? W1 _ hw5)).trans hw5)
            | (go_at_call 23; refine (put_a w pa pr v3 L sm 32 _ (below_set (hb1.trans (hb6.mono hb1.size)) (Nat.le_succ _) _ _) ((hP6.set hsize hpa _ _).mono (by omega)) (by decide) hsl (by omega)).mono ?_; rintro e w8 ⟨rfl, v8, hP8, hb8⟩))
          refine bodyPost_ret (results_tmp2 rfl _ _ _) rfl ?_
          exact ⟨g9, rfl, by rw [HBy.out]; exact hB9, hg9, hb9⟩
end Go.Proofs.YtmbkdalmnfcbfabDoor.Bits
