/-
  What the Go text of crc.remainders and of the function inside it leave behind, whatever the memory: the sixteen remainders of four bits.
-/
import Derived.Test.YtmbkdalmnfcbfabDoorRows
import Derived.Test.YtmbkdalmnfcbfabDoorMath
import Derived.WalkKit
import Derived.ProofKit
import Derived.OpenShut
import Derived.ShutString
import Derived.ChangeOld
import Derived.Below
import Derived.Deep.MidRow
import Derived.Laws.BitsAllLaws
namespace Go.Proofs.YtmbkdalmnfcbfabDoor.Crc
open Go.ChangeShapes Go.WideShapes Go.ChangeAt Go.RowKit

/-! ### The machine's words on numbers of 32 bits, as bit vectors -/
theorem ofInt_toNat (X : BitVec 32) : BitVec.ofInt 32 (X.toNat : Int) = X := by simp
theorem xor32 (X Y : BitVec 32) : bits .xor .u32 (X.toNat : Int) (Y.toNat : Int) = ((X ^^^ Y).toNat : Int) := by
  show IntKind.u32.wrap ((BitVec.ofInt 32 (X.toNat : Int) ^^^ BitVec.ofInt 32 (Y.toNat : Int)).toNat : Int) = _
  rw [ofInt_toNat, ofInt_toNat, IntKind.wrap_u32']
  omega
theorem and32 (X Y : BitVec 32) : bits .and .u32 (X.toNat : Int) (Y.toNat : Int) = ((X &&& Y).toNat : Int) := by
  show IntKind.u32.wrap ((BitVec.ofInt 32 (X.toNat : Int) &&& BitVec.ofInt 32 (Y.toNat : Int)).toNat : Int) = _
  rw [ofInt_toNat, ofInt_toNat, IntKind.wrap_u32']
  omega
theorem not32 (X : BitVec 32) : bits .xor .u32 IntKind.u32.max (X.toNat : Int) = ((~~~ X).toNat : Int) := by
  have h := xor32 (BitVec.allOnes 32) X
  rw [BitVec.allOnes_xor] at h
  exact h
theorem shr32 (X : BitVec 32) (n : Nat) : ((X >>> n).toNat : Int) = (X.toNat : Int) / ((2 ^ n : Nat) : Int) := by
  rw [BitVec.toNat_ushiftRight, Nat.shiftRight_eq_div_pow]; simp
theorem and1 (X : BitVec 32) : bits .and .u32 (X.toNat : Int) 1 = if X.getLsbD 0 then 1 else 0 := by
  have h := and32 X 1#32
  have e : ((1#32).toNat : Int) = 1 := rfl
  rw [e] at h
  rw [h, BitVec.toNat_and]
  have : X.getLsbD 0 = Nat.testBit X.toNat 0 := rfl
  rw [this, Nat.testBit_zero, show (1#32).toNat = 1 from rfl, Nat.and_one_is_mod]
  by_cases hh : X.toNat % 2 = 1
  · simp [hh]
  · have : X.toNat % 2 = 0 := by omega
    simp [this]
theorem half_hit (X : BitVec 32) (h : X.getLsbD 0 = true) : bits .xor .u32 ((X.toNat : Int) / 2) 3988292384 = ((bit1 X).toNat : Int) := by
  have e := shr32 X 1
  have k := xor32 (X >>> 1) 3988292384#32
  rw [e] at k
  rw [bit1, h, if_pos rfl]
  exact k
theorem half_miss (X : BitVec 32) (h : X.getLsbD 0 = false) : (X.toNat : Int) / 2 = ((bit1 X).toNat : Int) := by
  have e := shr32 X 1
  rw [bit1, h, if_neg (by simp), BitVec.xor_zero]
  exact e.symm
theorem off_succ (k : Nat) (x : BitVec 32) : bit1 (off k x) = off (k + 1) x := by rw [off_add]; rfl
theorem ret_int {k : IntKind} {a b : Int} (h : a = b) : Ending.returned (.int k a) = .returned (.int k b) := by rw [h]
theorem val_int {k : IntKind} {a b : Int} (h : a = b) : Value.int k a = .int k b := by rw [h]

/-- The closure: four bits off. -/
theorem w18 (n : Int) (x : BitVec 32) (hn : n = x.toNat) (b o : Nat) (w : World) (hp : w.cell? ⟨b, o, none⟩ = some (.int .u32 3988292384)) :
    Calls Tryd.prog 41 #[.int .u32 n, .pointer (some ⟨b, o, none⟩)] w fun e w' => e = .returned (.int .u32 ((off 4 x).toNat : Int)) ∧ w' = w := by
  subst hn
  go_enter Tryd.func41, Tryd.ntmps41
  go_wp2
  go_loop [0, 5] (fun c i => ∃ k : Nat, k ≤ 4 ∧ i = .int .i64 k ∧ c = .int .u32 ((off k x).toNat : Int)) (fun _ i => 4 - (intOf i).toNat)
  case atStart => exact ⟨0, Nat.zero_le _, rfl, rfl⟩
  case round =>
    obtain ⟨k, hk, rfl, rfl⟩ := hrel
    by_cases hlt : k < 4
    · have ha := and1 (off k x)
      cases hb : (off k x).getLsbD 0
      all_goals
        rw [hb] at ha
        go_wp2
        go_round
        case rel => exact ⟨k + 1, by omega, by go_num, val_int (by rw [← off_succ]; first | exact half_miss _ hb | exact half_hit _ hb)⟩
        case measure => simp [intOf]; omega
    · go_wp2
      go_ret
      exact ⟨ret_int (by rw [show k = 4 by omega]), rfl⟩

def tabAt (j : Nat) : Value := .int .u32 ((off 4 (BitVec.ofNat 32 j)).toNat : Int)
def tabL : List Value := (List.range 16).map tabAt
theorem tabL_len : tabL.length = 16 := by simp [tabL]
theorem tabL_get (j : Nat) (h : j < 16) : tabL[j]? = some (tabAt j) := by simp [tabL, h]
theorem tabL_one : ∀ v ∈ tabL, v.oneCell' = true := by
  intro v hv
  simp only [tabL, List.mem_map] at hv
  obtain ⟨j, _, rfl⟩ := hv
  rfl

theorem there_new (w : World) (c : Array Value) (t : TypeId) (b n : Nat) (hb : b = w.heap.size) (hn : c.size = n) : (w.alloc (.cells c t)).there b 0 n := by
  intro j hj
  subst hb hn
  refine ⟨?_, World.frozen?_alloc_at _ _ _ _ rfl⟩
  rw [World.cell?_alloc_at _ _ _ _ rfl, Nat.zero_add, Array.getElem?_eq_getElem hj]; rfl
theorem below_setCells {B b : Nat} {a : World} (hB : B ≤ b) (o : Nat) (vs : List Value) : ∀ {w : World}, Below B a w → Below B a (w.setCells b o vs) := by
  induction vs generalizing o with
  | nil => intro w h; exact h
  | cons v r ih => intro w h; exact ih (o + 1) (h.setCell hB v)

/-- The table of sixteen remainders. -/
theorem w17 (w : World) :
    Calls Tryd.prog 38 #[.int .u32 3988292384] w fun e w' => e = .returned (.agg tabL.toArray) ∧ Below w.heap.size w w' := by
  have hmf : ∀ (fn : Fn) (first cap : Array Value) (w : World), (Instr.makeFunc fn first cap).run Tryd.prog w = .ok (.func fn first cap) w := fun _ _ _ _ => rfl
  go_enter Tryd.func38, Tryd.ntmps38
  go_wp2
  go_loopw [7] (fun i wr => ∃ k : Nat, k ≤ 16 ∧ i = .int .i64 k ∧ wr.heap.size = w.heap.size + 3 ∧ Below w.heap.size w wr ∧ wr.cell? ⟨w.heap.size, 0, none⟩ = some (.int .u32 3988292384)
      ∧ wr.there (w.heap.size + 1) 0 16 ∧ wr.there (w.heap.size + 1 + 1) 0 16 ∧ ∀ j, j < k → wr.cell? ⟨w.heap.size + 1 + 1, 0 + j, none⟩ = some (tabAt j)) (fun i _ => 16 - (intOf i).toNat)
  case atStart =>
    refine ⟨0, by omega, rfl, by simp, (((Below.refl _ _).alloc (Nat.le_refl _) _).alloc (by simp) _).alloc (by simp; omega) _, ?_, ?_, ?_, ?_⟩
    · simp [go_sem]
    · exact World.there_alloc (there_new _ _ 83 _ 16 (by simp) rfl) _
    · exact there_new _ _ 83 _ 16 (by simp) rfl
    · intro j hj; omega
  case round =>
    obtain ⟨k, hk, rfl, hs, hb, hc, ht1, ht2, htab⟩ := hrel
    by_cases hlt : k < 16
    · have HT : Hid (∀ j, j < k → wr.cell? ⟨w.heap.size + 1 + 1, 0 + j, none⟩ = some (tabAt j)) := htab
      obtain ⟨hsome, hfr⟩ := ht2 k hlt
      obtain ⟨old, hold⟩ := Option.isSome_iff_exists.1 hsome
      have H1 : Hid (wr.there (w.heap.size + 1) 0 16) := ht1
      have H2 : Hid (wr.there (w.heap.size + 1 + 1) 0 16) := ht2
      clear htab ht1 ht2 hsome
      simp only [Nat.zero_add] at hold hfr
      go_wp2_with (go_at_call 41; refine (w18 _ (BitVec.ofNat 32 k) (by simp; omega) _ _ _ hc).mono ?_; rintro e w' ⟨rfl, rfl⟩)
      go_roundw
      case rel =>
        refine ⟨k + 1, by omega, by go_num, by simp [hs], hb.setCell (by simp; omega) _, ?_, World.there_setCells H1.out _ _ [_], World.there_setCells H2.out _ _ [_], ?_⟩
        · rw [World.cell?_setCell_other _ _ _ _ (by simp)]; exact hc
        · intro j hj
          by_cases e : j = k
          · subst e
            rw [Nat.zero_add, World.cell?_setCell_same _ _ _ hold]; rfl
          · rw [World.cell?_setCell_other _ _ _ _ (by simp)]; exact HT.out j (by omega)
      case measure => simp [intOf]; omega
    · have H1 : Hid (wr.there (w.heap.size + 1) 0 16) := ht1
      have H2 : wr.rangeAt (w.heap.size + 1 + 1) 0 tabL := by
        intro j v hv
        obtain ⟨hj, hv'⟩ := List.getElem?_eq_some_iff.1 hv
        rw [tabL_len] at hj
        rw [htab j (by omega), ← tabL_get j hj, hv]
      clear htab ht1 ht2
      go_wp2_with (first | (refine wpList_load_mid rfl 83 _ rfl (w.heap.size + 1 + 1) 0 (by rfl) tabL _ H2 Tryd.underlying83 rfl (by kernel_rfl) ?_) | (refine wpList_store_mid rfl 83 _ _ rfl (w.heap.size + 1) 0 tabL.toArray (by rfl) (by rfl) (by simpa [tabL_len] using H1.out) (by kernel_rfl) (all_oneCell_toArray tabL_one) ?_))
      have hr := World.rangeAt_setCells_same wr (w.heap.size + 1) 0 tabL (by simpa [tabL_len] using H1.out)
      have hrun := run_loadVar_mid (P := Tryd.prog) _ _ _ 83 tabL _ hr Tryd.underlying83 rfl (by kernel_rfl)
      refine bodyPost_ret (v := .agg tabL.toArray) ?_ rfl ⟨rfl, ?_⟩
      · simp [results, Tryd.results38]
        show ((Sem.run Tryd.prog (asAddr (.pointer (some ⟨w.heap.size + 1, 0, none⟩))) _).andThen fun a w' => (loadVar 83 a).run Tryd.prog w') = _
        simp only [asAddr, Sem.run_pure, Result.andThen_ok]
        exact hrun
      · exact below_setCells (by omega) 0 tabL hb
end Go.Proofs.YtmbkdalmnfcbfabDoor.Crc
