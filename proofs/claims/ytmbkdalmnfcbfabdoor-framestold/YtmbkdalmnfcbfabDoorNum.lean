/-
  The bits of a number, one by one: the contract of the function that bits.ofNumber hands back.
-/
import Derived.Test.YtmbkdalmnfcbfabDoorAdd
import Derived.RangeFuncNested
import Derived.RangeFuncBound
import Derived.RangeFuncCalls
import Derived.RangeFuncLeaves
import Derived.Shelf.Abstract
import Derived.Shelf.RegionOpen
import Derived.OwnWalkIn
import Derived.TacticsInMore
import Derived.LoopNIn
import Derived.LoopIn
namespace Go.Proofs.YtmbkdalmnfcbfabDoor.Bits
open Go.ChangeShapes Go.WideShapes Go.ChangeAt Go.RowKit Go.Shelf
attribute [local go_sem] Oper.semAt_some
/-- Blocks that lie as they lay. -/
def Kept (p : Nat → Prop) (W W' : World) : Prop := ∀ b, p b → W'.heap[b]? = W.heap[b]?
theorem bitsOf_take_succ (N k j : Nat) (h : j < k) : (bitsOf N k).take (j + 1) = (bitsOf N k).take j ++ [N.testBit (k - 1 - j)] := by
  rw [List.take_add_one]
  congr 1
  simp [bitsOf, h]
theorem and64 (x : Nat) (hx : x < 2 ^ 64) : bits .and .u64 (x : Int) 1 = ((x % 2 : Nat) : Int) := by
  show IntKind.u64.wrap ((BitVec.ofInt 64 (x : Int) &&& BitVec.ofInt 64 1).toNat : Int) = _
  rw [BitVec.toNat_and, BitVec.toNat_ofInt, BitVec.toNat_ofInt, IntKind.wrap_u64]
  have e1 : ((x : Int) % ((2 ^ 64 : Nat) : Int)).toNat = x := by omega
  have e2 : ((1 : Int) % ((2 ^ 64 : Nat) : Int)).toNat = 1 := by decide
  rw [e1, e2, Nat.and_one_is_mod]
  omega
theorem bit_of (N m : Nat) : N / 2 ^ m % 2 = (N.testBit m).toNat := by
  rw [Nat.testBit_eq_decide_div_mod_eq]
  by_cases h : N / 2 ^ m % 2 = 1
  · simp [h]
  · have : N / 2 ^ m % 2 = 0 := by omega
    simp [this]
theorem num_bit (N m : Nat) (hN : N < 2 ^ 64) : bits .and .u64 ((N : Int) / 2 ^ m) 1 = ((N.testBit m).toNat : Int) := by
  have e : (N : Int) / 2 ^ m = ((N / 2 ^ m : Nat) : Int) := by simp
  rw [e, and64 _ (Nat.lt_of_le_of_lt (Nat.div_le_self _ _) hN), bit_of]
theorem bit_mod (b : Bool) : (b.toNat : Int) % 256 = (b.toNat : Int) := by cases b <;> rfl
theorem ofNum1 (F : Fence) (n : Nat) (h26 : F.fn 40) (hro : F.round = none) (hn : 1 ≤ n) (l Bk Bn N k : Nat) (hk : k ≤ 64) (hN : N < 2 ^ 64) (J Jx : List Bool → World → Prop)
    (hY : ∀ pre x W, J pre W → pre.length < k → YieldAt F (n - 1) Tryd.prog l #[.int .u8 (x.toNat : Int)] W fun e W' =>
      (e = .returned (.bool true) ∧ J (pre ++ [x]) W' ∧ Kept (fun b => b = Bk ∨ b = Bn) W W') ∨ (e = .returned (.bool false) ∧ Jx (pre ++ [x]) W'))
    (W : World) (hBk : W.cell? ⟨Bk, 0, none⟩ = some (.int .i64 k)) (hBn : W.cell? ⟨Bn, 0, none⟩ = some (.int .u64 N)) (h0 : J [] W) :
    CallsIn F n Tryd.prog 40 #[.func (.yield l) #[] #[], .pointer (some ⟨Bk, 0, none⟩), .pointer (some ⟨Bn, 0, none⟩)] W fun e W' => (∃ v, e = .returned v) ∧
      ((∃ ys, ys = bitsOf N k ∧ J ys W') ∨ (∃ pre, True ∧ Jx pre W')) := by
  refine callsIn_of_wp Tryd.func40 rfl h26 ?_ hro
  simp only [Tryd.ntmps40, List.size_toArray, List.length_cons, List.length_nil, Nat.reduceAdd, Nat.reduceSub, Array.replicate_succ, Array.replicate_zero, List.push_toArray, List.append_toArray, List.nil_append, List.cons_append]
  gi_wp2
  gi_loopw [4] (fun p wr => ∃ j : Nat, j ≤ k ∧ p = .int .i64 ((k : Int) - 1 - j) ∧ J ((bitsOf N k).take j) wr ∧ wr.cell? ⟨Bk, 0, none⟩ = some (.int .i64 k) ∧ wr.cell? ⟨Bn, 0, none⟩ = some (.int .u64 N))
    (fun p wr => (intOf p + 1).toNat)
  case atStart => exact ⟨0, Nat.zero_le _, by go_num, h0, hBk, hBn⟩
  case round =>
    obtain ⟨j, hj, rfl, hJ, hBk', hBn'⟩ := hrel
    by_cases hlt : j < k
    · obtain ⟨m, hm⟩ : ∃ m : Nat, m = k - 1 - j := ⟨_, rfl⟩
      have hmi : (k : Int) - 1 - j = (m : Int) := by omega
      rw [hmi]
      obtain ⟨fn, tmps, assign, body, hy, hR⟩ := hY ((bitsOf N k).take j) (N.testBit m) wr hJ (by simp [bitsOf_length]; omega)
      have hm64 : m < 64 := by omega
      have hbit := num_bit N m hN
      have HS : Hid ((bitsOf N k).take (j + 1) = (bitsOf N k).take j ++ [N.testBit m]) := by rw [hm]; exact bitsOf_take_succ N k j hlt
      generalize N.testBit m = x at hbit hy hR HS
      have hx256 := bit_mod x
      have hmh : Hid (m = k - 1 - j) := hm
      clear hm hmi
      gi_wp2
      refine hR.mono ?_
      rintro e W3 (⟨rfl, hJ3, hk3⟩ | ⟨rfl, hJx3⟩)
      · gi_wp2
        go_roundw
        case rel => exact ⟨j + 1, by omega, by have := hmh.out; go_num, by rw [HS.out]; exact hJ3, (World.cell?_of_block (hk3 Bk (.inl rfl))).trans hBk', (World.cell?_of_block (hk3 Bn (.inr rfl))).trans hBn'⟩
        case measure => simp [intOf]
      · gi_wp2
        refine bodyPost_ret (results_none rfl _ _ _) rfl ?_
        exact ⟨⟨_, rfl⟩, .inr ⟨_, trivial, hJx3⟩⟩
    · gi_wp2
      go_end0
      exact ⟨⟨_, rfl⟩, .inl ⟨_, rfl, by rw [show (bitsOf N k) = (bitsOf N k).take j by rw [List.take_of_length_le]; rw [bitsOf_length]; omega]; exact hJ⟩⟩
end Go.Proofs.YtmbkdalmnfcbfabDoor.Bits
