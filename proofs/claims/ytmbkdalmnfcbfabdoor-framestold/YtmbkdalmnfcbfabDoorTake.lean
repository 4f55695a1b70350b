/-
  The bits of bytes, one by one: the contract of the function that bits.ofBytes hands back; bits.Get.
-/
import Derived.Test.YtmbkdalmnfcbfabDoorPut
namespace Go.Proofs.YtmbkdalmnfcbfabDoor.Bits
open Go.ChangeShapes Go.WideShapes Go.ChangeAt Go.RowKit Go.Shelf
attribute [local go_sem] Oper.semAt_some
/-- A slice of bytes in memory: its elements. -/
def Elems (w : World) (a : Option Addr) (len : Nat) (l : List Int) : Prop :=
  l.length = len ∧ len ≤ 1048576 ∧ (∀ i, i < len → 0 ≤ l.getD i 0 ∧ l.getD i 0 < 256) ∧ (len = 0 ∨ ∃ b o, a = some ⟨b, o, none⟩ ∧ ∀ i, i < len → w.cell? ⟨b, o + i, none⟩ = some (.int .u8 (l.getD i 0)))
theorem Elems.below {w w' : World} {a : Option Addr} {len : Nat} {l : List Int} (h : Elems w a len l) (hb : Below w.heap.size w w') : Elems w' a len l := by
  obtain ⟨h1, h2, h3, h4⟩ := h
  refine ⟨h1, h2, h3, ?_⟩
  rcases h4 with h4 | ⟨b, o, ha, hc⟩
  · exact .inl h4
  · exact .inr ⟨b, o, ha, fun i hi => by rw [hb.cell (World.block_lt_of_cell? w _ (hc i hi))]; exact hc i hi⟩
theorem Kept.trans {p : Nat → Prop} {a b c : World} (h : Kept p a b) (k : Kept p b c) : Kept p a c := fun i hi => (k i hi).trans (h i hi)
theorem Kept.cell {p : Nat → Prop} {a b : World} (h : Kept p a b) {i o : Nat} (hi : p i) : b.cell? ⟨i, o, none⟩ = a.cell? ⟨i, o, none⟩ := World.cell?_of_block (a := ⟨i, o, none⟩) (h i hi)
theorem and8 (x : Nat) (hx : x < 256) : bits .and .u8 (x : Int) 1 = ((x % 2 : Nat) : Int) := by
  show IntKind.u8.wrap ((BitVec.ofInt 8 (x : Int) &&& BitVec.ofInt 8 1).toNat : Int) = _
  rw [BitVec.toNat_and, BitVec.toNat_ofInt, BitVec.toNat_ofInt, IntKind.wrap_u8']
  have e1 : ((x : Int) % ((2 ^ 8 : Nat) : Int)).toNat = x := by omega
  have e2 : ((1 : Int) % ((2 ^ 8 : Nat) : Int)).toNat = 1 := by decide
  rw [e1, e2, Nat.and_one_is_mod]
  omega
theorem byte_bit (z : Int) (m : Nat) (h0 : 0 ≤ z) (h1 : z < 256) : bits .and .u8 (z / 2 ^ m) 1 = ((z.toNat.testBit m).toNat : Int) := by
  obtain ⟨x, rfl⟩ : ∃ x : Nat, z = x := ⟨z.toNat, by omega⟩
  have e : (x : Int) / 2 ^ m = ((x / 2 ^ m : Nat) : Int) := by simp
  rw [e, and8 _ (by have := Nat.div_le_self x (2 ^ m); omega), bit_of, Int.toNat_natCast]
theorem ofBytes1 (F : Fence) (n : Nat) (h25 : F.fn 37) (hro : F.round = none) (hn : 1 ≤ n) (l Ba Bk Bb : Nat) (p : Nat → Prop) (hpa : p Ba) (hpk : p Bk) (hpb : p Bb) (s : Option Addr) (len cap : Nat) (B : List Int) (at_ k : Nat) (hk : k ≤ 64) (hr : at_ + k ≤ 8 * len)
    (J Jx : List Bool → World → Prop)
    (hY : ∀ pre x W, J pre W → pre.length < k → YieldAt F (n - 1) Tryd.prog l #[.int .u8 (x.toNat : Int)] W fun e W' =>
      (e = .returned (.bool true) ∧ J (pre ++ [x]) W' ∧ Kept p W W') ∨ (e = .returned (.bool false) ∧ Jx (pre ++ [x]) W'))
    (W : World) (hE : Elems W s len B) (hps : ∀ b o, s = some ⟨b, o, none⟩ → len = 0 ∨ p b) (hBa : W.cell? ⟨Ba, 0, none⟩ = some (.int .i64 at_)) (hBk : W.cell? ⟨Bk, 0, none⟩ = some (.int .i64 k)) (hBb : W.cell? ⟨Bb, 0, none⟩ = some (.slice s len cap)) (h0 : J [] W) :
    CallsIn F n Tryd.prog 37 #[.func (.yield l) #[] #[], .pointer (some ⟨Ba, 0, none⟩), .pointer (some ⟨Bk, 0, none⟩), .pointer (some ⟨Bb, 0, none⟩)] W fun e W' => (∃ v, e = .returned v) ∧
      ((∃ ys, ys = part B at_ k ∧ J ys W') ∨ (∃ pre, True ∧ Jx pre W')) := by
  obtain ⟨hl, hlm, hby, hcs⟩ := hE
  refine callsIn_of_wp Tryd.func37 rfl h25 ?_ hro
  simp only [Tryd.ntmps37, List.size_toArray, List.length_cons, List.length_nil, Nat.reduceAdd, Nat.reduceSub, Array.replicate_succ, Array.replicate_zero, List.push_toArray, List.append_toArray, List.nil_append, List.cons_append]
  gi_wp2
  gi_loopw [5] (fun q wr => ∃ j : Nat, j ≤ k ∧ q = .int .i64 ((at_ + j : Nat) : Int) ∧ J (part B at_ j) wr ∧ Kept p W wr)
    (fun q wr => at_ + k - (intOf q).toNat)
  case atStart => exact ⟨0, Nat.zero_le _, by simp, h0, fun _ _ => rfl⟩
  case round =>
    obtain ⟨j, hj, rfl, hJ, hK⟩ := hrel
    have hBa' := (hK.cell hpa).trans hBa
    have hBk' := (hK.cell hpk).trans hBk
    have hBb' := (hK.cell hpb).trans hBb
    by_cases hlt : j < k
    · obtain ⟨b, o, rfl, hcell⟩ := hcs.resolve_left (by omega)
      obtain ⟨i, hi⟩ : ∃ i : Nat, i = at_ + j := ⟨_, rfl⟩
      have HS : Hid (part B at_ (j + 1) = part B at_ j ++ [bitAt B i]) := by rw [hi]; exact part_succ B at_ j
      have hi8 : i / 8 < len := by omega
      have hc : wr.cell? ⟨b, o + i / 8, none⟩ = some (.int .u8 (B.getD (i / 8) 0)) := ((hK.cell ((hps b o rfl).resolve_left (by omega))).trans (hcell _ hi8))
      have hbit : bits .and .u8 (B.getD (i / 8) 0 / 2 ^ (7 - i % 8)) 1 = ((bitAt B i).toNat : Int) := byte_bit _ _ (hby _ hi8).1 (hby _ hi8).2
      have hzp := (hby _ hi8).1
      obtain ⟨fn, tmps, assign, body, hy, hR⟩ := hY (part B at_ j) (bitAt B i) wr hJ (by rw [part_length]; exact hlt)
      rw [← hi]
      generalize bitAt B i = x at hbit hy hR HS
      generalize B.getD (i / 8) 0 = z at hc hbit hzp
      have hlt' : (i : Int) < (at_ : Int) + (k : Int) := by omega
      have hih : Hid (i = at_ + j) := hi
      have h8' : (i : Int) / 8 < (len : Int) := by omega
      clear hcell hby hcs hi
      gi_wp2
      refine hR.mono ?_
      rintro e W3 (⟨rfl, hJ3, hk3⟩ | ⟨rfl, hJx3⟩)
      · gi_wp2
        go_roundw
        case rel => exact ⟨j + 1, by omega, by rw [hih.out]; go_num, by rw [HS.out]; exact hJ3, hK.trans hk3⟩
        case measure => have := hih.out; simp [intOf]; omega
      · gi_wp2
        refine bodyPost_ret (results_none rfl _ _ _) rfl ?_
        exact ⟨⟨_, rfl⟩, .inr ⟨_, trivial, hJx3⟩⟩
    · have hjk : j = k := by omega
      subst hjk
      gi_wp2
      go_end0
      exact ⟨⟨_, rfl⟩, .inl ⟨_, rfl, hJ⟩⟩
end Go.Proofs.YtmbkdalmnfcbfabDoor.Bits
