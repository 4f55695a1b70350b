/-
  The bits of a type: a map that is made, and looked up.
-/
import Derived.Test.YtmbkdalmnfcbfabDoorFPut
import Derived.Maps.OwnOps
import Derived.Maps.Views
namespace Go.Proofs.YtmbkdalmnfcbfabDoor.Bits
open Go.ChangeShapes Go.WideShapes Go.ChangeAt Go.RowKit Go.Shelf Go.Maps
/-- How many bits a type has. -/
def wide (t : Nat) : Nat := if t = 1 then 64 else if t = 2 then 1 else 0
theorem law39 : Keyed Tryd.prog 43 := int_keyed Tryd.underlying43
def D2 : DataW Unit := ((DataW.map []).put (.int .u8 1) (.lit (.int .i64 64))).put (.int .u8 2) (.lit (.int .i64 1))
theorem D2_at (t : Nat) : D2.atKey (.int .u8 (t : Int)) (.lit (.int .i64 0)) = .lit (.int .i64 (wide t : Int)) := by
  unfold D2 wide
  by_cases h2 : t = 2
  · subst h2; rfl
  · rw [atKey_put_other (by simp; omega)]
    by_cases h1 : t = 1
    · subst h1; rfl
    · rw [atKey_put_other (by simp; omega), if_neg h1, if_neg h2]; rfl
/-- Block m is the map of the types' bits. -/
def Tm (w : World) (m : Nat) : Prop := w.ownsMap Tryd.prog 43 (plainElem Tryd.prog 3) m 2 D2
theorem Tm.below {w w' : World} {m : Nat} (h : Tm w m) (hb : Below w.heap.size w w') : Tm w' m :=
  World.ownsMap.kept (row := none) h ⟨hb.os, hb.tape, hb.output, hb.size, fun k hk _ => hb.block k hk⟩ (by simp)
theorem zero3 (w : World) : (zeroValue 3).run Tryd.prog w = .ok (.int .i64 0) w := by kernel_rfl
theorem Tm.look {w : World} {m : Nat} (h : Tm w m) (t : Nat) (ht : t < 256) : (Instr.lookup 68 (.map (some m)) (.int .u8 (t : Int)) false).run Tryd.prog w = .ok (.int .i64 (wide t : Int)) w := by
  have hwf : (Lit.int .u8 (t : Int)).wf = true := by simp [Lit.wf, IntKind.min, IntKind.max, IntKind.signed, IntKind.bits]; omega
  obtain ⟨c, hrun, hat, _⟩ := World.ownsMap.lookup_int h law39 Tryd.underlying68 Tryd.underlying3 (zero3 w) (keyOf_int_mk Tryd.underlying43 hwf)
  rw [D2_at] at hat
  rw [hrun]
  cases hat
  rfl
theorem typeBits (w : World) : Calls Tryd.prog 28 #[] w fun e w' => ∃ m, e = .returned (.map (some m)) ∧ Tm w' m ∧ w.heap.size ≤ m ∧ Below w.heap.size w w' := by
  have hmm := @run_makeMap Tryd.prog
  have h0 : (w.alloc (.map #[] 0)).ownsMap Tryd.prog 43 (plainElem Tryd.prog 3) w.heap.size 0 (DataW.map ([] : List (Lit × DataW Unit))) := World.ownsMap_made _ _ _ _
  obtain ⟨w1, hr1, h1, hg1⟩ := h0.update law39 Tryd.underlying68 (by unfold maxLen; omega) (key := .int .u8 1) (val := .int .i64 64) (keyOf_int_mk Tryd.underlying43 (by decide)) (plainElem_int Tryd.underlying3 (by decide))
  obtain ⟨w2, hr2, h2, hg2⟩ := h1.update law39 Tryd.underlying68 (by unfold maxLen; omega) (key := .int .u8 2) (val := .int .i64 1) (keyOf_int_mk Tryd.underlying43 (by decide)) (plainElem_int Tryd.underlying3 (by decide))
  have hb : Below w.heap.size w w2 := (((Below.refl _ _).alloc (Nat.le_refl _) _).grown hg1 (by simp) (fun k e => by cases e; exact Nat.le_refl _)).grown hg2 (Nat.le_trans (by simp) hg1.size) (fun k e => by cases e; exact Nat.le_refl _)
  have H2 : Hid (Tm w2 w.heap.size) := h2
  clear h0 h1 h2 hg1 hg2
  go_enter Tryd.func28, Tryd.ntmps28
  go_wp2
  go_ret
  exact ⟨_, rfl, H2.out, Nat.le_refl _, hb⟩
/-- Numbers, added up. -/
def tot (K : Nat → Nat) : Nat → Nat
  | 0 => 0
  | j + 1 => tot K j + K j
theorem upTo_len (K N : Nat → Nat) (j : Nat) : (upTo K N j).length = tot K j := by
  induction j with
  | zero => rfl
  | succ j ih => rw [upTo, List.length_append, bitsOf_length, ih, tot]
theorem tot_le (K : Nat → Nat) (hK : ∀ i, K i ≤ 64) (j : Nat) : tot K j ≤ 64 * j := by
  induction j with
  | zero => exact Nat.le_refl _
  | succ j ih => have := hK j; rw [tot]; omega
theorem tot_mono (K : Nat → Nat) {i j : Nat} (h : i ≤ j) : tot K i ≤ tot K j := by
  induction j with
  | zero => rw [Nat.le_zero.1 h]; exact Nat.le_refl _
  | succ j ih =>
    by_cases e : i = j + 1
    · rw [e]; exact Nat.le_refl _
    · exact Nat.le_trans (ih (by omega)) (Nat.le_add_right _ _)
theorem wide_le (t : Nat) : wide t ≤ 64 := by unfold wide; split; exact Nat.le_refl _; split <;> omega
/-- The bits of types, one by one. -/
def KT (T : List Int) (i : Nat) : Nat := wide (T.getD i 0).toNat
theorem KT_le (T : List Int) (i : Nat) : KT T i ≤ 64 := wide_le _
theorem wholeBytes (n : Nat) (w : World) (hn : n ≤ 1000000000) : Calls Tryd.prog 30 #[.int .i64 (n : Int)] w fun e w' => e = .returned (.int .i64 (((n + 7) / 8 : Nat) : Int)) ∧ w' = w := by
  have e : ((n : Int) + 8 - 1) / 8 = (((n + 7) / 8 : Nat) : Int) := by omega
  go_enter Tryd.func30, Tryd.ntmps30
  go_wp2
  go_ret
  refine ⟨?_, rfl⟩
  show Ending.returned (.int .i64 _) = _
  rw [e]
theorem allBits (s : Option Addr) (len cap : Nat) (T : List Int) (m : Nat) (w : World) (hE : Elems w s len T) (hm : Tm w m) :
    Calls Tryd.prog 33 #[.slice s len cap, .map (some m)] w fun e w' => e = .returned (.int .i64 (tot (KT T) len : Int)) ∧ w' = w := by
  have hlm := hE.2.1
  go_enter Tryd.func33, Tryd.ntmps33
  go_wp2
  go_loop [5, 10] (fun t i => ∃ j : Nat, j ≤ len ∧ i = .int .i64 j ∧ t = .int .i64 (tot (KT T) j : Int)) (fun _ i => len - (intOf i).toNat)
  case atStart => exact ⟨0, Nat.zero_le _, rfl, rfl⟩
  case round =>
    obtain ⟨j, hj, rfl, rfl⟩ := hrel
    by_cases hlt : j < len
    · obtain ⟨b, o, rfl, hc⟩ := hE.2.2.2.resolve_left (by omega)
      have hcj := hc j hlt
      have hbj := hE.2.2.1 j hlt
      have hle := tot_le (KT T) (KT_le T) j
      have hkl := KT_le T j
      have hs : tot (KT T) (j + 1) = tot (KT T) j + KT T j := rfl
      have hlook := hm.look (T.getD j 0).toNat (by omega)
      have hK : wide (T.getD j 0).toNat = KT T j := rfl
      rw [hK, Int.toNat_of_nonneg hbj.1] at hlook
      generalize KT T j = k at hs hlook hkl
      have HS : Hid (tot (KT T) (j + 1) = tot (KT T) j + k) := hs
      generalize tot (KT T) j = t at hle HS
      generalize T.getD j 0 = z at hcj hbj hlook
      clear hs hc hK
      have hlt' : (j : Int) < (len : Int) := by omega
      have hj0 : (0 : Int) ≤ (j : Int) := by omega
      go_wp2
      go_round
      case rel => exact ⟨j + 1, by omega, by go_num, by rw [HS.out]; go_num⟩
      case measure => simp [intOf]; omega
    · have hjl : len = j := by omega
      subst hjl
      go_wp2
      go_ret
      exact ⟨rfl, rfl⟩
/-- A number of 64 bits, as one from 0 on. -/
def un (z : Int) : Nat := (z % 18446744073709551616).toNat
theorem un_lt (z : Int) : un z < 2 ^ 64 := by unfold un; omega
theorem un_wrap (z : Int) : IntKind.u64.wrap z = (un z : Int) := by rw [IntKind.wrap_u64]; unfold un; omega
/-- fits, where a number of so many bits is told. -/
theorem fits_ok (t : Nat) (z : Int) (k : Nat) (w : World) (hk : 0 < k) (hk64 : k ≤ 64) (hz : un z < 2 ^ k) :
    Calls Tryd.prog 29 #[.agg #[.int .u8 (t : Int), .int .i64 z], .int .i64 (k : Int)] w fun e w' => e = .returned (.bool true) ∧ Below w.heap.size w w' := by
  have hk0 : (0 : Int) < (k : Int) := by omega
  have hk0' : (0 : Int) ≤ (k : Int) := by omega
  have hw := un_wrap z
  generalize un z = n at hw hz
  have hn : n < 2 ^ 64 := Nat.lt_of_lt_of_le hz (Nat.pow_le_pow_right (by decide) hk64)
  have hdiv : (n : Int) / 2 ^ k = 0 := Int.ediv_eq_zero_of_lt (by omega) (by exact_mod_cast hz)
  go_enter Tryd.func29, Tryd.ntmps29
  go_wp2
  go_ret
  exact ⟨rfl, (Below.refl _ _).alloc (Nat.le_refl _) _⟩
theorem closure (t p m : Nat) (w : World) (ht : t < 256) (hc : w.cell? ⟨p, 0, none⟩ = some (.map (some m))) (hm : Tm w m) :
    Calls Tryd.prog 32 #[.int .u8 (t : Int), .pointer (some ⟨p, 0, none⟩)] w fun e w' => e = .returned (.bool (decide (wide t = 0))) ∧ w' = w := by
  have hl := hm.look t ht
  have e : ((wide t : Int) == 0) = decide (wide t = 0) := by by_cases h : wide t = 0 <;> simp [h]
  go_enter Tryd.func32, Tryd.ntmps32
  go_wp2
  go_ret
  exact ⟨by rw [← e]; rfl, rfl⟩
end Go.Proofs.YtmbkdalmnfcbfabDoor.Bits
