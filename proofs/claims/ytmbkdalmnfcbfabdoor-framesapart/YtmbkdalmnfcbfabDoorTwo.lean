/-
  SameBytes and SameFrame, whatever they are held against; two frames' bytes.
-/
import Derived.Test.YtmbkdalmnfcbfabDoorAll
import Derived.Test.YtmbkdalmnfcbfabDoorOpen
import Derived.Test.YtmbkdalmnfcbfabDoorOdd
import Derived.OwnWalk
namespace Go.Proofs.YtmbkdalmnfcbfabDoor.Bits
open Go.ChangeShapes Go.WideShapes Go.ChangeAt Go.RowKit Go.Shelf Go.Maps
/-- The first k of two lists are the same. -/
def sameTo (A B : List Int) (k : Nat) : Prop := ∀ i, i < k → A.getD i 0 = B.getD i 0
theorem same_any (a b : Option Addr) (la lb ca cb : Nat) (A B : List Int) (w : World) (hA : Elems w a la A) (hB : Elems w b lb B) :
    Calls Tryd.prog 11 #[.slice a la ca, .slice b lb cb] w fun e w' => e = .returned (.bool (decide (A = B))) ∧ Below w.heap.size w w' := by
  have hla : la ≤ 1048576 := hA.2.1
  have hlb : lb ≤ 1048576 := hB.2.1
  by_cases hl : la = lb
  · subst hl
    have hne : ((la : Int) != (la : Int)) = false := by simp
    go_enter Tryd.func11, Tryd.ntmps11
    go_wp2
    go_loopw [5] (fun i wr => ∃ k n : Nat, k ≤ la ∧ i = .int .i64 k ∧ wr = w.drewN n ∧ sameTo A B k) (fun i _ => la - (intOf i).toNat)
    case atStart => exact ⟨0, 0, Nat.zero_le _, rfl, rfl, fun i hi => by omega⟩
    case round =>
      obtain ⟨k, n, hk, rfl, rfl, hs⟩ := hrel
      by_cases hlt : k < la
      · have h1 : ∃ b1 o1, a = some ⟨b1, o1, none⟩ ∧ w.cell? ⟨b1, o1 + k, none⟩ = some (.int .u8 (A.getD k 0)) := by
          obtain ⟨b1, o1, e, hc⟩ := hA.2.2.2.resolve_left (by omega)
          exact ⟨b1, o1, e, hc k hlt⟩
        have h2 : ∃ b1 o1, b = some ⟨b1, o1, none⟩ ∧ w.cell? ⟨b1, o1 + k, none⟩ = some (.int .u8 (B.getD k 0)) := by
          obtain ⟨b1, o1, e, hc⟩ := hB.2.2.2.resolve_left (by omega)
          exact ⟨b1, o1, e, hc k hlt⟩
        obtain ⟨b1, o1, rfl, h1⟩ := h1
        obtain ⟨b2, o2, rfl, h2⟩ := h2
        have hlt' : (k : Int) < (la : Int) := by omega
        have hk0 : (0 : Int) ≤ (k : Int) := by omega
        have Hs : Hid (sameTo A B k) := hs
        have HA := hA.1
        have HB := hB.1
        have Hd : Hid (A.getD k 0 = B.getD k 0 → sameTo A B (k + 1)) := fun e i hi => by
          by_cases h : i = k
          · rw [h, e]
          · exact Hs.out i (by omega)
        have Hn : Hid (¬ A.getD k 0 = B.getD k 0 → ¬ A = B) := fun h e => h (by rw [e])
        clear hs hA hB HA HB
        generalize A.getD k 0 = x at h1 Hd Hn
        generalize B.getD k 0 = y at h2 Hd Hn
        by_cases hxy : x = y
        · have hbx : (x != y) = false := by simp [hxy]
          have Hxy : Hid (x = y) := hxy
          clear hxy
          go_wp2
          go_quiet (fail)
          go_wp2
          go_roundw
          case rel => exact ⟨k + 1, n + nq, by omega, by go_num, rfl, Hd.out Hxy.out⟩
          case measure => simp [intOf]; omega
        · have hbx : (x != y) = true := by simp [hxy]
          have Hxy : Hid (¬ x = y) := hxy
          clear hxy
          go_wp2
          go_quiet (fail)
          go_wp2
          go_ret
          exact ⟨by rw [decide_eq_false (Hn.out Hxy.out)]; rfl, below_drewN (below_drewN (Below.refl _ _) n) nq⟩
      · have he : A = B := list_eq (by rw [hA.1, hB.1]) fun i hi => hs i (by rw [hA.1] at hi; omega)
        have He : Hid (A = B) := he
        clear he hs hA hB
        go_wp2
        go_ret
        exact ⟨by rw [decide_eq_true He.out]; rfl, below_drewN (Below.refl _ _) n⟩
  · have hne : ((la : Int) != (lb : Int)) = true := by simp; omega
    have Hn : Hid (¬ A = B) := fun e => hl (by rw [← hA.1, ← hB.1, e])
    clear hl hA hB
    go_enter Tryd.func11, Tryd.ntmps11
    go_wp2
    go_ret
    exact ⟨by rw [decide_eq_false Hn.out]; rfl, Below.refl _ _⟩
theorem sameFrame_any (s1 s2 : Int) (r1 m1 d1 r2 m2 d2 : Nat) (a b : Option Addr) (la lb ca cb : Nat) (A B : List Int) (w : World) (hA : Elems w a la A) (hB : Elems w b lb B) :
    Calls Tryd.prog 17 #[fr s1 r1 m1 d1 a la ca, fr s2 r2 m2 d2 b lb cb] w fun e w' => e = .returned (.bool (decide (s1 = s2 ∧ r1 = r2 ∧ m1 = m2 ∧ d1 = d2 ∧ A = B))) ∧ Below w.heap.size w w' := by
  unfold fr
  have h1 := below_alloc w (.cells #[.int .i64 s1, .int .u32 (r1 : Int), .int .u8 (m1 : Int), .int .u16 (d1 : Int), .slice a la ca] 27)
  have h2 := bstep h1 (below_alloc (w.alloc (.cells #[.int .i64 s1, .int .u32 (r1 : Int), .int .u8 (m1 : Int), .int .u16 (d1 : Int), .slice a la ca] 27)) (.cells #[.int .i64 s2, .int .u32 (r2 : Int), .int .u8 (m2 : Int), .int .u16 (d2 : Int), .slice b lb cb] 27))
  have hA2 := hA.below h2
  have hB2 := hB.below h2
  by_cases e0 : s1 = s2
  · have c0 : (s1 == s2) = true := by simp [e0]
    by_cases e1 : r1 = r2
    · have c1 : ((r1 : Int) == (r2 : Int)) = true := by simp [e1]
      by_cases e2 : m1 = m2
      · have c2 : ((m1 : Int) == (m2 : Int)) = true := by simp [e2]
        by_cases e3 : d1 = d2
        · have c3 : ((d1 : Int) == (d2 : Int)) = true := by simp [e3]
          have He : Hid (decide (A = B) = decide (s1 = s2 ∧ r1 = r2 ∧ m1 = m2 ∧ d1 = d2 ∧ A = B)) := by unfold Hid; simp [e0, e1, e2, e3]
          clear e0 e1 e2 e3
          have hsm := same_any a b la lb ca cb A B _ hA2 hB2
          rw [He.out] at hsm
          generalize decide (s1 = s2 ∧ r1 = r2 ∧ m1 = m2 ∧ d1 = d2 ∧ A = B) = q at hsm ⊢
          go_enter Tryd.func17, Tryd.ntmps17
          go_wp2_with (go_at_call 11; refine hsm.mono ?_; rintro e w3 ⟨rfl, hk3⟩)
          go_ret
          exact ⟨by simp, bstep h2 hk3⟩
        · have c3 : ((d1 : Int) == (d2 : Int)) = false := by simp; omega
          have He : Hid (decide (s1 = s2 ∧ r1 = r2 ∧ m1 = m2 ∧ d1 = d2 ∧ A = B) = false) := decide_eq_false fun h => e3 h.2.2.2.1
          clear e0 e1 e2 e3
          go_enter Tryd.func17, Tryd.ntmps17
          go_wp2
          go_ret
          exact ⟨by rw [He.out]; rfl, h2⟩
      · have c2 : ((m1 : Int) == (m2 : Int)) = false := by simp; omega
        have He : Hid (decide (s1 = s2 ∧ r1 = r2 ∧ m1 = m2 ∧ d1 = d2 ∧ A = B) = false) := decide_eq_false fun h => e2 h.2.2.1
        clear e0 e1 e2
        go_enter Tryd.func17, Tryd.ntmps17
        go_wp2
        go_ret
        exact ⟨by rw [He.out]; rfl, h2⟩
    · have c1 : ((r1 : Int) == (r2 : Int)) = false := by simp; omega
      have He : Hid (decide (s1 = s2 ∧ r1 = r2 ∧ m1 = m2 ∧ d1 = d2 ∧ A = B) = false) := decide_eq_false fun h => e1 h.2.1
      clear e0 e1
      go_enter Tryd.func17, Tryd.ntmps17
      go_wp2
      go_ret
      exact ⟨by rw [He.out]; rfl, h2⟩
  · have c0 : (s1 == s2) = false := by simp [e0]
    have He : Hid (decide (s1 = s2 ∧ r1 = r2 ∧ m1 = m2 ∧ d1 = d2 ∧ A = B) = false) := decide_eq_false fun h => e0 h.1
    clear e0
    go_enter Tryd.func17, Tryd.ntmps17
    go_wp2
    go_ret
    exact ⟨by rw [He.out]; rfl, h2⟩
/-- Two frames' bytes are the same just if the frames are. -/
theorem bytesOf_iff (s1 r1 m1 d1 s2 r2 m2 d2 : Nat) (P Q : List Int) (hs1 : s1 ≤ 8) (hs2 : s2 ≤ 8) (hr1 : r1 < 2 ^ 32) (hr2 : r2 < 2 ^ 32) (hm1 : m1 < 2 ^ 8) (hm2 : m2 < 2 ^ 8) (hd1 : d1 < 2 ^ 16) (hd2 : d2 < 2 ^ 16) (hP : P.length ≤ 4095) (hQ : Q.length ≤ 4095) :
    bytesOf sumOf s1 r1 m1 d1 P = bytesOf sumOf s2 r2 m2 d2 Q ↔ (s1 : Int) = (s2 : Int) ∧ r1 = r2 ∧ m1 = m2 ∧ d1 = d2 ∧ P = Q := by
  constructor
  · intro h
    obtain ⟨a0, a1, a2, a3, a4⟩ := H5_head (bytesOf sumOf s1 r1 m1 d1 P) s1 r1 m1 d1 P.length (fun i hi => bytesOf_head sumOf s1 r1 m1 d1 P i hi) hs1 hr1 hm1 hd1 hP
    obtain ⟨b0, b1, b2, b3, b4⟩ := H5_head (bytesOf sumOf s2 r2 m2 d2 Q) s2 r2 m2 d2 Q.length (fun i hi => bytesOf_head sumOf s2 r2 m2 d2 Q i hi) hs2 hr2 hm2 hd2 hQ
    have p1 := bytesOf_payload sumOf s1 r1 m1 d1 P
    have p2 := bytesOf_payload sumOf s2 r2 m2 d2 Q
    have hl : P.length = Q.length := by rw [← a4, ← b4, h]
    rw [h] at a0 a1 a2 a3 p1
    rw [hl, p2] at p1
    exact ⟨by omega, by omega, by omega, by omega, p1.symm⟩
  · rintro ⟨h0, rfl, rfl, rfl, rfl⟩
    rw [show s1 = s2 by omega]
/-- How many of the first k differ. -/
def apart (A B : List Int) : Nat → Nat
  | 0 => 0
  | k + 1 => apart A B k + if A.getD k 0 = B.getD k 0 then 0 else 1
theorem apart_le (A B : List Int) (k : Nat) : apart A B k ≤ k := by
  induction k with
  | zero => exact Nat.le_refl _
  | succ k ih => rw [apart]; split <;> omega
theorem apart_zero {A B : List Int} {k : Nat} (h : apart A B k = 0) : ∀ i, i < k → A.getD i 0 = B.getD i 0 := by
  induction k with
  | zero => intro i hi; omega
  | succ k ih =>
    intro i hi
    rw [apart] at h
    by_cases e : A.getD k 0 = B.getD k 0
    · rw [if_pos e] at h
      by_cases hk : i = k
      · rw [hk, e]
      · exact ih (by omega) i (by omega)
    · rw [if_neg e] at h; omega
theorem apart_one {A B : List Int} {k : Nat} (h : apart A B k = 1) : ∃ t, t < k ∧ A.getD t 0 ≠ B.getD t 0 ∧ ∀ i, i < k → i ≠ t → A.getD i 0 = B.getD i 0 := by
  induction k with
  | zero => cases h
  | succ k ih =>
    rw [apart] at h
    by_cases e : A.getD k 0 = B.getD k 0
    · rw [if_pos e] at h
      obtain ⟨t, h1, h2, h3⟩ := ih h
      refine ⟨t, by omega, h2, fun i hi ht => ?_⟩
      by_cases hk : i = k
      · rw [hk, e]
      · exact h3 i (by omega) ht
    · rw [if_neg e] at h
      exact ⟨k, by omega, e, fun i hi ht => apart_zero (k := k) (by omega) i (by omega)⟩
theorem xor8_of {a b : Int} (ha : 0 ≤ a ∧ a < 256) (hb : 0 ≤ b ∧ b < 256) : bits .xor .u8 a (bits .xor .u8 a b) = b := by
  obtain ⟨A, rfl⟩ := Int.eq_ofNat_of_zero_le ha.1
  obtain ⟨B, rfl⟩ := Int.eq_ofNat_of_zero_le hb.1
  have hx : A ^^^ B < 2 ^ 8 := Nat.xor_lt_two_pow (by omega) (by omega)
  rw [u8_xor_nat A B (by omega) (by omega), u8_xor_nat A (A ^^^ B) (by omega) (by omega), ← Nat.xor_assoc, Nat.xor_self, Nat.zero_xor]
/-- The bytes of two frames never differ in just one. -/
theorem apart_ne (s1 r1 m1 d1 s2 r2 m2 d2 : Nat) (P Q : List Int) (hPb : Byte P) (hQb : Byte Q) (g1 : 1 ≤ s1) (g2 : 1 ≤ s2) (hs1 : s1 ≤ 8) (hs2 : s2 ≤ 8) (hr1 : r1 < 2 ^ 32) (hr2 : r2 < 2 ^ 32) (hm1 : m1 < 2 ^ 8) (hm2 : m2 < 2 ^ 8) (hd1 : d1 < 2 ^ 16) (hd2 : d2 < 2 ^ 16) (hP : P.length ≤ 4095) (hl : P.length = Q.length) :
    apart (bytesOf sumOf s1 r1 m1 d1 P) (bytesOf sumOf s2 r2 m2 d2 Q) (13 + P.length) ≠ 1 := by
  intro h
  obtain ⟨t, ht, hne, hot⟩ := apart_one h
  have hAb := bytesOf_byte sumOf s1 r1 m1 d1 P hPb
  have hBb := bytesOf_byte sumOf s2 r2 m2 d2 Q hQb
  have hAl := bytesOf_length sumOf s1 r1 m1 d1 P
  have hBl := bytesOf_length sumOf s2 r2 m2 d2 Q
  have hg := good_bytesOf s2 r2 m2 d2 Q hQb g2 hs2 hr2 hm2 hd2 (by omega)
  have hbad := fun bt K h1 h2 h3 h4 => spoilt_bad s1 r1 m1 d1 P bt K hPb h1 g1 hs1 hr1 hm1 hd1 hP h2 h3 h4
  generalize bytesOf sumOf s1 r1 m1 d1 P = A at *
  generalize bytesOf sumOf s2 r2 m2 d2 Q = B at *
  have hx := Crc.xor8 _ _ (byte_getD hAb t) (byte_getD hBb t)
  have hb1 : Byte [bits .xor .u8 (A.getD t 0) (B.getD t 0)] := fun z hz => by
    rw [List.mem_singleton] at hz
    rw [hz]; exact hx.2
  have hsp : spoilt A [bits .xor .u8 (A.getD t 0) (B.getD t 0)] t = B := by
    refine list_eq (by rw [spoilt_length _ _ _ (by simp; omega)]; omega) fun i hi => ?_
    rw [spoilt_length _ _ _ (by simp; omega)] at hi
    rw [spoilt_getD A _ t i hAb (by simp; omega) hi]
    by_cases e : i = t
    · subst e
      rw [if_pos (by simp), Nat.sub_self]
      exact xor8_of (byte_getD hAb i) (byte_getD hBb i)
    · rw [if_neg (by simp; omega)]
      exact hot i (by omega) e
  have h0 := hbad [bits .xor .u8 (A.getD t 0) (B.getD t 0)] t hb1 (by simp) (by simp; omega) (by simp; omega) (by rw [hsp, hl]; exact hg) _ (List.mem_singleton.2 rfl)
  have := xor8_of (byte_getD hAb t) (byte_getD hBb t)
  rw [h0, Crc.xor8_zero _ (byte_getD hAb t)] at this
  exact hne this
end Go.Proofs.YtmbkdalmnfcbfabDoor.Bits
