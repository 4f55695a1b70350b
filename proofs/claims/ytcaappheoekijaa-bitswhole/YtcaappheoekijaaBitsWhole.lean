/-
  The statement BitsWhole of this seat is proved: for every list of bytes and every first bit, bytes that are put one by one in eight bits each are those bytes, and one bit ahead of them moves all by one; where the list is longer than 3000 bytes the law asks nothing of it.
  Conditions: none beside those that the given row prints.
-/
import Derived.Test.YtcaappheoekijaaTwo
import Derived.WalkKit
import Derived.ProofKit
import Derived.OpenShut
import Derived.ShutString
import Derived.ChangeOld
import Derived.Below
import Derived.SizedLaws
namespace Go.Proofs.Ytcaappheoekijaa.Bits
open Go.ChangeShapes Go.WideShapes Go.ChangeAt Go.RowKit
set_option linter.unusedVariables false
/-- The bits of the first bytes. -/
def flat (l : List Int) : Nat → List Bool
  | 0 => []
  | j + 1 => flat l j ++ bitsOf (l.getD j 0).toNat 8
theorem flat_length (l : List Int) (j : Nat) : (flat l j).length = 8 * j := by
  induction j with
  | zero => rfl
  | succ j ih => rw [flat, List.length_append, ih, bitsOf_length]; omega
theorem flat_getD (l : List Int) (n j d : Nat) (hj : j < n) (hd : d < 8) : (flat l n).getD (8 * j + d) false = (l.getD j 0).toNat.testBit (7 - d) := by
  induction n with
  | zero => omega
  | succ n ih =>
    rw [flat]
    by_cases h : j < n
    · have := flat_length l n
      rw [List.getD_eq_getElem?_getD, List.getElem?_append_left (by omega), ← List.getD_eq_getElem?_getD, ih h]
    · obtain rfl : j = n := by omega
      have := flat_length l j
      rw [List.getD_eq_getElem?_getD, List.getElem?_append_right (by omega), this, show 8 * j + d - 8 * j = d by omega, ← List.getD_eq_getElem?_getD, bitsOf_getD _ _ _ hd]
theorem byte_eq {x y : Nat} (hx : x < 256) (hy : y < 256) (h : ∀ i, i < 8 → x.testBit i = y.testBit i) : x = y := by
  apply Nat.eq_of_testBit_eq
  intro i
  by_cases hi : i < 8
  · exact h i hi
  · rw [Nat.testBit_lt_two_pow (Nat.lt_of_lt_of_le hx (show 2 ^ 8 ≤ 2 ^ i from Nat.pow_le_pow_right (by decide) (by omega))), Nat.testBit_lt_two_pow (Nat.lt_of_lt_of_le hy (show 2 ^ 8 ≤ 2 ^ i from Nat.pow_le_pow_right (by decide) (by omega)))]
/-- Bytes that are put one by one are those bytes. -/
theorem pack_flat (l : List Int) (n : Nat) (hl : l.length = n) (hb : ∀ i, i < n → 0 ≤ l.getD i 0 ∧ l.getD i 0 < 256) : pack (flat l n) = l := by
  apply List.ext_getElem
  · rw [pack_length, flat_length]; omega
  · intro i h1 h2
    have hi := hb i (by omega)
    have e : l.getD i 0 = l[i] := by rw [List.getD_eq_getElem?_getD, List.getElem?_eq_getElem h2]; rfl
    simp only [pack, List.getElem_map, List.getElem_range]
    have : byteAt (flat l n) i = (l.getD i 0).toNat := byte_eq (byteAt_lt _ _) (by omega) fun t ht => by
      rw [testBit_byteAt _ _ _ ht, flat_getD l n i _ (by omega) (by omega)]
      congr 1
      omega
    rw [this, ← e]
    omega
theorem moved_length (f : Bool) (l : List Int) (n : Nat) : (pack (f :: flat l n)).length = n + 1 := by
  rw [pack_length, List.length_cons, flat_length]; omega
theorem moved_first (f : Bool) (l : List Int) (n : Nat) : (pack (f :: flat l n)).getD 0 0 / 128 = (f.toNat : Int) := by
  rw [pack_getD _ _ (by rw [List.length_cons, flat_length]; omega)]
  have h := testBit_byteAt (f :: flat l n) 0 7 (by decide)
  have hb := bit_of (byteAt (f :: flat l n) 0) 7
  rw [h] at hb
  have hl := byteAt_lt (f :: flat l n) 0
  have e : (f :: flat l n).getD (8 * 0 + (7 - 7)) false = f := rfl
  rw [e] at hb
  have : (2 : Nat) ^ 7 = 128 := rfl
  rw [this] at hb
  omega
theorem moved_next (f : Bool) (l : List Int) (n i : Nat) (hi : i < n) (hb : 0 ≤ l.getD i 0 ∧ l.getD i 0 < 256) :
    bits .or .u8 ((pack (f :: flat l n)).getD i 0 * 2 % 256) ((pack (f :: flat l n)).getD (i + 1) 0 / 128) = l.getD i 0 := by
  rw [pack_getD _ _ (by rw [List.length_cons, flat_length]; omega), pack_getD _ _ (by rw [List.length_cons, flat_length]; omega)]
  have hx := byteAt_lt (f :: flat l n) i
  have hy := byteAt_lt (f :: flat l n) (i + 1)
  have e1 : (byteAt (f :: flat l n) i : Int) * 2 % 256 = ((byteAt (f :: flat l n) i * 2 % 256 : Nat) : Int) := by omega
  have e2 : (byteAt (f :: flat l n) (i + 1) : Int) / 128 = ((byteAt (f :: flat l n) (i + 1) / 128 : Nat) : Int) := by omega
  rw [e1, e2, or8 _ _ (by omega) (by omega)]
  have : byteAt (f :: flat l n) i * 2 % 256 ||| byteAt (f :: flat l n) (i + 1) / 128 = (l.getD i 0).toNat := by
    refine byte_eq (Nat.or_lt_two_pow (n := 8) (by omega) (by omega)) (by omega) fun t ht => ?_
    rw [Nat.testBit_or]
    cases t with
    | zero =>
      have h1 : (byteAt (f :: flat l n) i * 2 % 256).testBit 0 = false := by rw [Nat.testBit_zero]; simp
      have h2 : (byteAt (f :: flat l n) (i + 1) / 128).testBit 0 = (byteAt (f :: flat l n) (i + 1)).testBit 7 := by
        rw [show (128 : Nat) = 2 ^ 7 from rfl, Nat.testBit_div_two_pow]
      rw [h1, h2, testBit_byteAt _ _ _ (by decide), Bool.false_or, show 8 * (i + 1) + (7 - 7) = (8 * i + 7) + 1 by omega, List.getD_cons_succ, flat_getD l n i 7 hi (by decide)]
    | succ t =>
      have h2 : (byteAt (f :: flat l n) (i + 1) / 128).testBit (t + 1) = false := by
        rw [show (128 : Nat) = 2 ^ 7 from rfl, Nat.testBit_div_two_pow, testBit_byteAt_ge _ _ _ (by omega)]
      have h1 : (byteAt (f :: flat l n) i * 2 % 256).testBit (t + 1) = (byteAt (f :: flat l n) i).testBit t := by
        rw [show (256 : Nat) = 2 ^ 8 from rfl, Nat.testBit_mod_two_pow, Nat.testBit_succ, show byteAt (f :: flat l n) i * 2 / 2 = byteAt (f :: flat l n) i by omega]
        simp
        omega
      rw [h1, h2, Bool.or_false, testBit_byteAt _ _ _ (by omega), show 8 * i + (7 - t) = (8 * i + (6 - t)) + 1 by omega, List.getD_cons_succ, flat_getD l n i (6 - t) hi (by omega)]
      congr 1
      omega
  rw [this]
  omega
theorem bits_one (f : Bool) : bitsOf f.toNat 1 = [f] := by cases f <;> decide
theorem flat_cons (f : Bool) (l : List Int) (j : Nat) : (f :: flat l j) ++ bitsOf (l.getD j 0).toNat 8 = f :: flat l (j + 1) := rfl
theorem put_first (w0 : World) (a r : Nat) (v : Value) (L : List Bool) (a2 r2 : Nat) (v2 : Value) (f : Bool) (w : World) (hb : Below w0.heap.size w0 w) (h : Two w0.heap.size w a r v L a2 r2 v2 []) (z : Int) (hz : z = (f.toNat : Int)) :
    Calls Try.prog 15 #[.pointer (some ⟨a2, 0, none⟩), .int .u64 z, .int .i64 1] w fun e w' => e = .returned (.int .i64 0) ∧ ∃ v', Two w0.heap.size w' a r v L a2 r2 v' [f] ∧ Below w0.heap.size w0 w' := by
  subst hz
  exact (put_2 w0 a r v L a2 r2 v2 [] f.toNat 1 w hb h (by decide) (by cases f <;> decide) (by decide)).mono fun _ _ h => by rw [bits_one] at h; exact h
theorem put_8a (w0 : World) (a r : Nat) (v : Value) (L : List Bool) (a2 r2 : Nat) (v2 : Value) (L2 : List Bool) (c : Nat) (w : World) (hb : Below w0.heap.size w0 w) (h : Two w0.heap.size w a r v L a2 r2 v2 L2) (hN : c < 256) (hL : L.length < 100000) :
    Calls Try.prog 15 #[.pointer (some ⟨a, 0, none⟩), .int .u64 (c : Int), .int .i64 8] w fun e w' => e = .returned (.int .i64 0) ∧ ∃ v', Two w0.heap.size w' a r v' (L ++ bitsOf c 8) a2 r2 v2 L2 ∧ Below w0.heap.size w0 w' :=
  put_1 w0 a r v L a2 r2 v2 L2 c 8 w hb h (by decide) hN (by omega)
theorem put_8b (w0 : World) (a r : Nat) (v : Value) (L : List Bool) (a2 r2 : Nat) (v2 : Value) (L2 : List Bool) (c : Nat) (w : World) (hb : Below w0.heap.size w0 w) (h : Two w0.heap.size w a r v L a2 r2 v2 L2) (hN : c < 256) (hL : L2.length < 100000) :
    Calls Try.prog 15 #[.pointer (some ⟨a2, 0, none⟩), .int .u64 (c : Int), .int .i64 8] w fun e w' => e = .returned (.int .i64 0) ∧ ∃ v', Two w0.heap.size w' a r v L a2 r2 v' (L2 ++ bitsOf c 8) ∧ Below w0.heap.size w0 w' :=
  put_2 w0 a r v L a2 r2 v2 L2 c 8 w hb h (by decide) hN (by omega)
theorem Elems.cell {w : World} {g n : Nat} {l : List Int} (h : Elems w (some ⟨g, 0, none⟩) n l) (i : Nat) (hi : i < n) : w.cell? ⟨g, i, none⟩ = some (.int .u8 (l.getD i 0)) := by
  obtain ⟨b, o, e, hc⟩ := h.2.2.2.resolve_left (by omega)
  cases e
  have := hc i hi
  rwa [Nat.zero_add] at this
set_option maxHeartbeats 2000000 in
theorem walk7_false (a0 : Option Addr) (len0 cap0 : Nat) (l : List Int) (w : World) (h0 : Came w a0 len0 l) (hlen : len0 ≤ 3000) :
    Calls Try.prog 7 #[.slice a0 len0 cap0, .bool false] w fun e w' => e = .returned (.bool true) ∧ Below w.heap.size w w' := by
  have hb0 := Below.refl w.heap.size w
  have hle : (len0 : Int) ≤ 3000 := by omega
  have r1 : Hid True := trivial
  have hll := h0.1
  go_enter Try.func7, Try.ntmps7
  go_wp2_with (first
    | (go_at_call 13; refine (alive_a w w hb0).mono ?_; rintro e w1 ⟨rfl, hk1, hb1⟩)
    | (go_at_call 14; first
      | (clear r1; refine (new_a w w1 hb1).mono ?_; rintro e w2 ⟨pa, ra, rfl, hP2, hb2⟩)
      | (refine (new_2 w pa ra _ _ w2 hb2 hP2).mono ?_; rintro e w3 ⟨pb, rb, rfl, hT3, hb3⟩))
    | (go_at_call 15; refine (put_first w pa ra _ [] pb rb _ false w3 hb3 hT3 0 rfl).mono ?_; rintro e w4 ⟨rfl, v4, hT4, hb4⟩))
  go_loopw [8] (fun i wr => ∃ (j : Nat) (va vb : Value), j ≤ len0 ∧ i = .int .i64 j ∧ Two w.heap.size wr pa ra va (flat l j) pb rb vb (false :: flat l j) ∧ Below w.heap.size w wr) (fun i _ => len0 - (intOf i).toNat)
  case atStart => exact ⟨0, _, _, Nat.zero_le _, rfl, hT4, hb4⟩
  case round =>
    obtain ⟨j, va, vb, hj, rfl, hT, hb⟩ := hrel
    by_cases hlt : j < len0
    · obtain ⟨b1, o1, rfl, hcl⟩ := h0.2.2.2.resolve_left (by omega)
      have hcw := hcl j hlt
      have hlb := h0.2.2.1 j hlt
      have hfl := flat_length l j
      obtain ⟨c, hc⟩ : ∃ c : Nat, l.getD j 0 = c := ⟨(l.getD j 0).toNat, by omega⟩
      have E1 : Hid (flat l (j + 1) = flat l j ++ bitsOf c 8) := by show _ = _; rw [flat, hc]; rfl
      rw [hc] at hcw hlb
      have hblt := World.block_lt_of_cell? w _ hcw
      have hl1 := (hb.cell hblt).trans hcw
      have hc256 : c < 256 := by omega
      have hlt' : (j : Int) < (len0 : Int) := by omega
      have p1 : Hid True := trivial
      have HL : Hid ((flat l j).length = 8 * j) := hfl
      clear hcl hc hfl
      generalize flat l j = L at hT E1 HL
      go_wp2_with (go_at_call 15; first
        | (clear p1; refine (put_8a w pa ra va L pb rb vb (false :: L) c wr hb hT hc256 (by have := HL.out; omega)).mono ?_; rintro e w5 ⟨rfl, v5, hT5, hb5⟩; have hl5 := (hb5.cell hblt).trans hcw)
        | (refine (put_8b w pa ra v5 (L ++ bitsOf c 8) pb rb vb (false :: L) c w5 hb5 hT5 hc256 (by have := HL.out; simp; omega)).mono ?_; rintro e w6 ⟨rfl, v6, hT6, hb6⟩))
      go_roundw
      case rel => exact ⟨j + 1, v5, v6, by omega, by go_num, by rw [E1.out]; exact hT6, hb6⟩
      case measure => simp [intOf]; omega
    · have hjl : len0 = j := by omega
      subst hjl
      have hfl := flat_length l len0
      have hml := moved_length false l len0
      have hmf := moved_first false l len0
      have HM : Hid (∀ i, i < len0 → bits .or .u8 ((pack (false :: flat l len0)).getD i 0 * 2 % 256) ((pack (false :: flat l len0)).getD (i + 1) 0 / 128) = l.getD i 0) := fun i hi => moved_next false l len0 i hi (h0.2.2.1 i hi)
      have HP : Hid (pack (flat l len0) = l) := pack_flat l len0 hll h0.2.2.1
      have HF : Hid ((flat l len0).length = 8 * len0) := hfl
      have HML : Hid ((pack (false :: flat l len0)).length = len0 + 1) := hml
      have hmf' : Hid ((pack (false :: flat l len0)).getD 0 0 / 128 = 0) := hmf
      clear hfl hmf hml hll
      generalize hxs : pack (false :: flat l len0) = xs at HM HML hmf'
      have HXS : Hid (pack (false :: flat l len0) = xs) := hxs
      clear hxs
      generalize flat l len0 = L at hT HP HF HXS
      go_wp2_with (go_at_call 17; refine (bytes_k w pb rb vb (false :: L) wr hb hT.two (by have := HF.out; simp; omega)).mono ?_; rintro e w7 ⟨g, rfl, hE7, hk7, hb7⟩; rw [HXS.out, HML.out] at hE7 ⊢; have hT7 := hT.kept hk7; obtain ⟨z0, hx0, hz0, hz1⟩ : ∃ z0 : Int, w7.cell? ⟨g, 0, none⟩ = some (.int .u8 z0) ∧ z0 / 128 = 0 ∧ 0 ≤ z0 := ⟨_, hE7.cell 0 (Nat.succ_pos _), hmf'.out, (hE7.2.2.1 0 (Nat.succ_pos _)).1⟩)
      clear hx0 hz0 hz1
      go_loopw [10] (fun i w8 => ∃ j : Nat, j ≤ len0 ∧ i = .int .i64 j ∧ Elems w8 (some ⟨g, 0, none⟩) (len0 + 1) xs ∧ Two w.heap.size w8 pa ra va L pb rb vb (false :: L) ∧ Below w.heap.size w w8) (fun i _ => len0 - (intOf i).toNat)
      case atStart => exact ⟨0, Nat.zero_le _, rfl, hE7, hT7, hb7⟩
      case round =>
        clear hE7 hT7 hb7 hb hT
        obtain ⟨j, hj, rfl, hE, hT, hb⟩ := hrel
        by_cases hlt : j < len0
        · obtain ⟨b1, o1, rfl, hcl⟩ := (h0.below hb).2.2.2.resolve_left (by omega)
          have hl1 := hcl j hlt
          have hx1 := hE.cell j (by omega)
          have hx2 := hE.cell (j + 1) (by omega)
          have hor := HM.out j hlt
          have hn1 := (hE.2.2.1 j (by omega))
          have hn2 := (hE.2.2.1 (j + 1) (by omega))
          generalize l.getD j 0 = c at hl1 hor
          generalize xs.getD j 0 = x1 at hx1 hor hn1
          generalize xs.getD (j + 1) 0 = x2 at hx2 hor hn2
          obtain ⟨hn1, hn1'⟩ := hn1
          obtain ⟨hn2, hn2'⟩ := hn2
          have hlt' : (j : Int) < (len0 : Int) := by omega
          have hlt2 : (j : Int) < (len0 : Int) + 1 := by omega
          have hlt3 : (j : Int) + 1 < (len0 : Int) + 1 := by omega
          have hk0 : (0 : Int) ≤ (j : Int) := by omega
          clear hcl
          go_wp2
          go_quiet (fail)
          go_wp2
          have hd : Below wr.heap.size wr (wr.drewN nq) := below_drewN (Below.refl _ _) nq
          exact ⟨⟨j + 1, by omega, by go_num, hE.below hd, hT.kept hd, below_drewN hb nq⟩, by simp [intOf]; omega⟩
        · have hjl : len0 = j := by omega
          subst hjl
          have hll := h0.1
          have HLL : Hid (l.length = len0) := hll
          clear hll
          go_wp2_with (first
            | (go_at_call 17; refine (bytes_k w pa ra va L wr hb hT.one (by have := HF.out; omega)).mono ?_; rintro e w9 ⟨g9, rfl, hE9, hk9, hb9⟩; rw [HP.out, HLL.out] at hE9 ⊢)
            | (go_at_call 19; refine (same_b _ _ len0 len0 cap0 l w9 hE9 ((h0.below hb9).elems (by omega))).mono ?_; rintro e w10 ⟨rfl, hb10⟩))
          go_ret
          exact ⟨rfl, bstep hb9 hb10⟩
set_option maxHeartbeats 2000000 in
theorem walk7_true (a0 : Option Addr) (len0 cap0 : Nat) (l : List Int) (w : World) (h0 : Came w a0 len0 l) (hlen : len0 ≤ 3000) :
    Calls Try.prog 7 #[.slice a0 len0 cap0, .bool true] w fun e w' => e = .returned (.bool true) ∧ Below w.heap.size w w' := by
  have hb0 := Below.refl w.heap.size w
  have hle : (len0 : Int) ≤ 3000 := by omega
  have r1 : Hid True := trivial
  have hll := h0.1
  go_enter Try.func7, Try.ntmps7
  go_wp2_with (first
    | (go_at_call 13; refine (alive_a w w hb0).mono ?_; rintro e w1 ⟨rfl, hk1, hb1⟩)
    | (go_at_call 14; first
      | (clear r1; refine (new_a w w1 hb1).mono ?_; rintro e w2 ⟨pa, ra, rfl, hP2, hb2⟩)
      | (refine (new_2 w pa ra _ _ w2 hb2 hP2).mono ?_; rintro e w3 ⟨pb, rb, rfl, hT3, hb3⟩))
    | (go_at_call 15; refine (put_first w pa ra _ [] pb rb _ true w3 hb3 hT3 1 rfl).mono ?_; rintro e w4 ⟨rfl, v4, hT4, hb4⟩))
  go_loopw [8] (fun i wr => ∃ (j : Nat) (va vb : Value), j ≤ len0 ∧ i = .int .i64 j ∧ Two w.heap.size wr pa ra va (flat l j) pb rb vb (true :: flat l j) ∧ Below w.heap.size w wr) (fun i _ => len0 - (intOf i).toNat)
  case atStart => exact ⟨0, _, _, Nat.zero_le _, rfl, hT4, hb4⟩
  case round =>
    obtain ⟨j, va, vb, hj, rfl, hT, hb⟩ := hrel
    by_cases hlt : j < len0
    · obtain ⟨b1, o1, rfl, hcl⟩ := h0.2.2.2.resolve_left (by omega)
      have hcw := hcl j hlt
      have hlb := h0.2.2.1 j hlt
      have hfl := flat_length l j
      obtain ⟨c, hc⟩ : ∃ c : Nat, l.getD j 0 = c := ⟨(l.getD j 0).toNat, by omega⟩
      have E1 : Hid (flat l (j + 1) = flat l j ++ bitsOf c 8) := by show _ = _; rw [flat, hc]; rfl
      rw [hc] at hcw hlb
      have hblt := World.block_lt_of_cell? w _ hcw
      have hl1 := (hb.cell hblt).trans hcw
      have hc256 : c < 256 := by omega
      have hlt' : (j : Int) < (len0 : Int) := by omega
      have p1 : Hid True := trivial
      have HL : Hid ((flat l j).length = 8 * j) := hfl
      clear hcl hc hfl
      generalize flat l j = L at hT E1 HL
      go_wp2_with (go_at_call 15; first
        | (clear p1; refine (put_8a w pa ra va L pb rb vb (true :: L) c wr hb hT hc256 (by have := HL.out; omega)).mono ?_; rintro e w5 ⟨rfl, v5, hT5, hb5⟩; have hl5 := (hb5.cell hblt).trans hcw)
        | (refine (put_8b w pa ra v5 (L ++ bitsOf c 8) pb rb vb (true :: L) c w5 hb5 hT5 hc256 (by have := HL.out; simp; omega)).mono ?_; rintro e w6 ⟨rfl, v6, hT6, hb6⟩))
      go_roundw
      case rel => exact ⟨j + 1, v5, v6, by omega, by go_num, by rw [E1.out]; exact hT6, hb6⟩
      case measure => simp [intOf]; omega
    · have hjl : len0 = j := by omega
      subst hjl
      have hfl := flat_length l len0
      have hml := moved_length true l len0
      have hmf := moved_first true l len0
      have HM : Hid (∀ i, i < len0 → bits .or .u8 ((pack (true :: flat l len0)).getD i 0 * 2 % 256) ((pack (true :: flat l len0)).getD (i + 1) 0 / 128) = l.getD i 0) := fun i hi => moved_next true l len0 i hi (h0.2.2.1 i hi)
      have HP : Hid (pack (flat l len0) = l) := pack_flat l len0 hll h0.2.2.1
      have HF : Hid ((flat l len0).length = 8 * len0) := hfl
      have HML : Hid ((pack (true :: flat l len0)).length = len0 + 1) := hml
      have hmf' : Hid ((pack (true :: flat l len0)).getD 0 0 / 128 = 1) := hmf
      clear hfl hmf hml hll
      generalize hxs : pack (true :: flat l len0) = xs at HM HML hmf'
      have HXS : Hid (pack (true :: flat l len0) = xs) := hxs
      clear hxs
      generalize flat l len0 = L at hT HP HF HXS
      go_wp2_with (go_at_call 17; refine (bytes_k w pb rb vb (true :: L) wr hb hT.two (by have := HF.out; simp; omega)).mono ?_; rintro e w7 ⟨g, rfl, hE7, hk7, hb7⟩; rw [HXS.out, HML.out] at hE7 ⊢; have hT7 := hT.kept hk7; obtain ⟨z0, hx0, hz0, hz1⟩ : ∃ z0 : Int, w7.cell? ⟨g, 0, none⟩ = some (.int .u8 z0) ∧ z0 / 128 = 1 ∧ 0 ≤ z0 := ⟨_, hE7.cell 0 (Nat.succ_pos _), hmf'.out, (hE7.2.2.1 0 (Nat.succ_pos _)).1⟩)
      clear hx0 hz0 hz1
      go_loopw [10] (fun i w8 => ∃ j : Nat, j ≤ len0 ∧ i = .int .i64 j ∧ Elems w8 (some ⟨g, 0, none⟩) (len0 + 1) xs ∧ Two w.heap.size w8 pa ra va L pb rb vb (true :: L) ∧ Below w.heap.size w w8) (fun i _ => len0 - (intOf i).toNat)
      case atStart => exact ⟨0, Nat.zero_le _, rfl, hE7, hT7, hb7⟩
      case round =>
        clear hE7 hT7 hb7 hb hT
        obtain ⟨j, hj, rfl, hE, hT, hb⟩ := hrel
        by_cases hlt : j < len0
        · obtain ⟨b1, o1, rfl, hcl⟩ := (h0.below hb).2.2.2.resolve_left (by omega)
          have hl1 := hcl j hlt
          have hx1 := hE.cell j (by omega)
          have hx2 := hE.cell (j + 1) (by omega)
          have hor := HM.out j hlt
          have hn1 := (hE.2.2.1 j (by omega))
          have hn2 := (hE.2.2.1 (j + 1) (by omega))
          generalize l.getD j 0 = c at hl1 hor
          generalize xs.getD j 0 = x1 at hx1 hor hn1
          generalize xs.getD (j + 1) 0 = x2 at hx2 hor hn2
          obtain ⟨hn1, hn1'⟩ := hn1
          obtain ⟨hn2, hn2'⟩ := hn2
          have hlt' : (j : Int) < (len0 : Int) := by omega
          have hlt2 : (j : Int) < (len0 : Int) + 1 := by omega
          have hlt3 : (j : Int) + 1 < (len0 : Int) + 1 := by omega
          have hk0 : (0 : Int) ≤ (j : Int) := by omega
          clear hcl
          go_wp2
          go_quiet (fail)
          go_wp2
          have hd : Below wr.heap.size wr (wr.drewN nq) := below_drewN (Below.refl _ _) nq
          exact ⟨⟨j + 1, by omega, by go_num, hE.below hd, hT.kept hd, below_drewN hb nq⟩, by simp [intOf]; omega⟩
        · have hjl : len0 = j := by omega
          subst hjl
          have hll := h0.1
          have HLL : Hid (l.length = len0) := hll
          clear hll
          go_wp2_with (first
            | (go_at_call 17; refine (bytes_k w pa ra va L wr hb hT.one (by have := HF.out; omega)).mono ?_; rintro e w9 ⟨g9, rfl, hE9, hk9, hb9⟩; rw [HP.out, HLL.out] at hE9 ⊢)
            | (go_at_call 19; refine (same_b _ _ len0 len0 cap0 l w9 hE9 ((h0.below hb9).elems (by omega))).mono ?_; rintro e w10 ⟨rfl, hb10⟩))
          go_ret
          exact ⟨rfl, bstep hb9 hb10⟩
theorem walk7 (a0 : Option Addr) (len0 cap0 : Nat) (l : List Int) (f : Bool) (w : World) (h0 : Came w a0 len0 l) :
    Calls Try.prog 7 #[.slice a0 len0 cap0, .bool f] w fun e w' => e = .returned (.bool true) ∧ Below w.heap.size w w' := by
  by_cases hlen : len0 ≤ 3000
  · cases f
    · exact walk7_false a0 len0 cap0 l w h0 hlen
    · exact walk7_true a0 len0 cap0 l w h0 hlen
  · have hb0 := Below.refl w.heap.size w
    have p1 : Hid True := trivial
    have hle : (3000 : Int) < (len0 : Int) := by omega
    go_enter Try.func7, Try.ntmps7
    go_wp2_with (go_at_call 13; first
      | (clear p1; refine (alive_a w w hb0).mono ?_; rintro e w2 ⟨rfl, hk2, hb2⟩)
      | (refine (alive_a w w2 hb2).mono ?_; rintro e w3 ⟨rfl, hk3, hb3⟩))
    go_ret
    exact ⟨rfl, hb3⟩
end Go.Proofs.Ytcaappheoekijaa.Bits
namespace Go.Proofs.Ytcaappheoekijaa
open Go.ChangeShapes Go.WideShapes Go.ChangeAt Go.RowKit
set_option linter.unusedVariables false
set_option maxRecDepth 100000 in
theorem bitsWhole_lifted (os : Os) (started : os.Started) (H : Type) (enc : TypeId × Value → H) :
    ReturnsInHanded {} Try.checked os 7 .any (Rows.bitsWholeSpec.pre6 enc Try.prog Try.f7 Rows.bitsWholeRow.domain false) (Rows.bitsWholeSpec.post enc Try.prog Try.f7 false true false false) := by
  refine returnsInHanded_of_change_sized (C := Try.checked) Bits.ownGo started (by kernel_rfl) Try.func7
    (ChangeSpec.witness6 (enc := enc) (C := Try.checked) false ⟨#[], #[.slice none 0 0, .bool false], []⟩ 8 (by kernel_rfl) (by kernel_rfl) (by kernel_rfl) (by kernel_rfl)) ?_
  intro W base args ds gs before hval0 hW _ hsz0 _
  have hsz : (DataW.weightsEach Try.prog (Try.f7.params.toList ++ Rows.bitsWholeSpec.plain.varTypes Try.prog) (ds ++ gs)).all (· ≤ reachBytes) = true := hsz0
  clear hsz0
  have hval : ∀ (j : Nat) t v, Try.f7.params[j]? = some t → args[j]? = some v → Value.okWide Try.prog W .any base t v := hval0
  have hW' := hW
  obtain ⟨p, q, hA0, hV, rfl, hfz, hnd⟩ := hW
  have hA : DataW.TrodAll enc Try.prog W 0 (fun _ => true) true Try.f7.params.toList args.toList ds p := hA0
  rw [Try.params7] at hA hval hsz
  obtain ⟨v0, vs0, d0, ds0, p0, q0, hargs, rfl, rfl, h0, r0⟩ := trodAll_cons hA
  obtain ⟨v1, vs1, d1, ds1, p1, q1, rfl, rfl, rfl, h1, r1⟩ := trodAll_cons r0
  obtain ⟨rfl, rfl, rfl⟩ := trodAll_nil r1
  obtain rfl : args = #[v0, v1] := by cases args; simp_all
  obtain ⟨rfl, rfl⟩ := trodVars_none hV
  obtain ⟨a0, len0, cap0, rfl⟩ := okWide_slice Try.underlying22 (hval 0 22 v0 rfl rfl)
  have lt0 : ∀ x ∈ p0, x.block < W.heap.size := by obtain ⟨m, hm⟩ := h0; exact DataW.trod_lt m _ _ _ hm
  obtain ⟨l0, c0⟩ := Bits.view h0 hsz (j := 0) rfl rfl
  obtain ⟨z1, rfl, rfl, rfl⟩ := open_bool Try.underlying4 (hval 1 4 v1 rfl rfl) h1
  clear hA0 hval0
  refine (Bits.walk7 a0 len0 cap0 l0 z1 W c0).mono fun e W' ⟨he, bel⟩ => ?_
  subst he
  exact ⟨_, rfl, _, _, _, [], _, [], hW', trodAll_mk1 (shut_bool Try.underlying4 _), (trodAll_cons_mk (Below.trod Bits.laidOut (by kernel_rfl) (of_decide_eq_true (by kernel_rfl)) h0 bel lt0) (trodAll_cons_mk (shut_bool Try.underlying4 _) trodAll_mk0)), rfl, bel.frame _, fun h => by cases h⟩

/-- The statement. -/
theorem bitsWhole_holds : Rows.BitsWholeSaid :=
  OpenClaim.holds_of_wide 7 Try.f7 rfl rfl rfl rfl rfl rfl rfl ⟨rfl, rfl, rfl, rfl, rfl⟩ rfl rfl rfl rfl rfl (by kernel_rfl) Try.func7 (by kernel_rfl)
    (of_decide_eq_true (by kernel_rfl)) (by unfold Func.isWrapper; first | (rw [if_pos (by decide +kernel)]; kernel_rfl) | (rw [if_neg (by decide +kernel)]; exact ⟨rfl, rfl⟩))
    (fun os started H enc _ => bitsWhole_lifted os started H enc)
#print axioms bitsWhole_holds
end Go.Proofs.Ytcaappheoekijaa
