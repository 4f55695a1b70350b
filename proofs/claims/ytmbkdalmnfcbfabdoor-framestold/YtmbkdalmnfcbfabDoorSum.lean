/-
  Contracts of the Go texts crc.More, crc.Of, of their document twins and of Beyond: what each returns and what it leaves, for every list of at most 1048576 bytes.
-/
import Derived.Test.YtmbkdalmnfcbfabDoorTab
namespace Go.Proofs.YtmbkdalmnfcbfabDoor.Crc
open Go.ChangeShapes Go.WideShapes Go.ChangeAt Go.RowKit

/-- A slice of bytes whose elements are the numbers of the list. -/
def Elems (w : World) (a : Option Addr) (len : Nat) (l : List Int) : Prop :=
  l.length = len ∧ len ≤ 1048576 ∧ (∀ i, i < len → 0 ≤ l.getD i 0 ∧ l.getD i 0 < 256) ∧ (len = 0 ∨ ∃ b o, a = some ⟨b, o, none⟩ ∧ ∀ i, i < len → w.cell? ⟨b, o + i, none⟩ = some (.int .u8 (l.getD i 0)))
theorem Elems.below {w w' : World} {a : Option Addr} {len : Nat} {l : List Int} (h : Elems w a len l) (hb : Below w.heap.size w w') : Elems w' a len l := by
  obtain ⟨h1, h2, h3, h4⟩ := h
  refine ⟨h1, h2, h3, ?_⟩
  rcases h4 with h4 | ⟨b, o, ha, hc⟩
  · exact .inl h4
  · exact .inr ⟨b, o, ha, fun i hi => by rw [hb.cell (World.block_lt_of_cell? w _ (hc i hi))]; exact hc i hi⟩
theorem take_snoc (l : List Int) (k : Nat) (h : k < l.length) : l.take (k + 1) = l.take k ++ [l.getD k 0] := by
  rw [List.take_succ_eq_append_getElem h]; simp [h]
theorem run_snoc (x : BitVec 32) (l : List Int) (k : Nat) (h : k < l.length) : run x (l.take (k + 1)) = upd (run x (l.take k)) (l.getD k 0) := by
  rw [take_snoc l k h, run_append]; rfl

theorem tab_cell {W : World} {g : Nat} (h : W.rangeAt g 0 tabL) (m : Nat) (hm : m < 16) : W.cell? ⟨g, m, none⟩ = some (.int .u32 ((off 4 (BitVec.ofNat 32 m)).toNat : Int)) := by
  have := h m _ (tabL_get m hm)
  rwa [Nat.zero_add] at this
/-- Four bits off by the table: the place in the table, what stands there, what comes of both. -/
theorem nib_word (X : BitVec 32) : ∃ m : Nat, m < 16 ∧ bits .and .u32 (X.toNat : Int) 15 = (m : Int) ∧ bits .xor .u32 ((X.toNat : Int) / 16) ((off 4 (BitVec.ofNat 32 m)).toNat : Int) = ((off 4 X).toNat : Int) := by
  have e15 : ((15#32).toNat : Int) = 15 := rfl
  have h := and32 X 15#32
  rw [e15] at h
  have hlt : (X &&& 15#32).toNat < 16 := by
    rw [BitVec.toNat_and]
    exact Nat.and_lt_two_pow (n := 4) _ (by decide)
  refine ⟨(X &&& 15#32).toNat, hlt, h, ?_⟩
  have k := xor32 (X >>> 4) (off 4 (X &&& 15#32))
  rw [nib, shr32] at k
  rw [BitVec.ofNat_toNat, BitVec.setWidth_eq]
  exact k
theorem byte_word (X : BitVec 32) (z : Int) (h0 : 0 ≤ z) (h1 : z < 256) : bits .xor .u32 (X.toNat : Int) z = ((X ^^^ BitVec.ofInt 32 z).toNat : Int) := by
  have h := xor32 X (BitVec.ofInt 32 z)
  have e : ((BitVec.ofInt 32 z).toNat : Int) = z := by rw [BitVec.toNat_ofInt]; omega
  rw [e] at h; exact h

theorem w13 (s : BitVec 32) (a : Option Addr) (len cap : Nat) (l : List Int) (w : World) (hE : Elems w a len l) :
    Calls Tryd.prog 27 #[.int .u32 (s.toNat : Int), .slice a len cap] w fun e w' => e = .returned (.int .u32 ((more s l).toNat : Int)) ∧ Below w.heap.size w w' := by
  have hsg : IntKind.u32.signed = false := rfl
  obtain ⟨S, hS0⟩ : ∃ S, S = ~~~ s := ⟨_, rfl⟩
  have hnot := not32 s
  rw [← hS0] at hnot
  have hS : Hid (S = ~~~ s) := hS0
  clear hS0
  go_enter Tryd.func27, Tryd.ntmps27
  go_wp2_with (first | (go_at_call 38; refine (w17 _).mono ?_; rintro e w1 ⟨rfl, hb1⟩) | (refine wpList_store_mid rfl 83 _ _ rfl w1.heap.size 0 tabL.toArray (by rfl) (by rfl) ?_ (by kernel_rfl) (all_oneCell_toArray tabL_one) ?_))
  · exact there_new _ _ 83 _ _ rfl (by simp [tabL_len])
  have hT := World.rangeAt_setCells_same _ w1.heap.size 0 tabL (there_new w1 (Array.replicate 16 (.int .u32 0)) 83 _ _ rfl (by simp [tabL_len]))
  have hB : Below w.heap.size w _ := below_setCells (by have := hb1.size; omega) 0 tabL (hb1.alloc (by have := hb1.size; omega) (.cells (Array.replicate 16 (.int .u32 0)) 83))
  have hW : ∃ W, W = (w1.alloc (.cells (Array.replicate 16 (.int .u32 0)) 83)).setCells w1.heap.size 0 tabL := ⟨_, rfl⟩
  obtain ⟨W, hW⟩ := hW
  rw [← hW] at hT hB
  have hE' := hE.below hB
  show Code.wp Tryd.prog _ _ _ ((w1.alloc (.cells (Array.replicate 16 (.int .u32 0)) 83)).setCells w1.heap.size 0 tabL)
  rw [← hW]
  clear hE hW
  obtain ⟨hl, hm, hby, hcs⟩ := hE'
  have hlast := not32 (run S l)
  have hlast' : ((~~~ run S l).toNat : Int) = ((more s l).toNat : Int) := by rw [more, hS.out]
  rw [hlast'] at hlast
  have HL : Hid (bits .xor .u32 IntKind.u32.max ((run S l).toNat : Int) = ((more s l).toNat : Int)) := hlast
  clear hlast hlast' hnot
  rcases hcs with h0 | ⟨b, o, rfl, hcell⟩
  · have e : l = [] := List.eq_nil_of_length_eq_zero (by omega)
    subst e h0
    have HL' := HL.out
    simp only [run_nil] at HL'
    go_loop [6, 14] (fun x i => x = .int .u32 (S.toNat : Int) ∧ i = .int .i64 0) (fun _ _ => 0)
    case atStart => exact ⟨rfl, rfl⟩
    case round =>
      obtain ⟨rfl, rfl⟩ := hrel
      go_wp2
      go_ret
      exact ⟨rfl, hB⟩
  · go_loop [6, 14] (fun x i => ∃ k : Nat, k ≤ len ∧ i = .int .i64 k ∧ x = .int .u32 ((run S (l.take k)).toNat : Int)) (fun _ i => len - (intOf i).toNat)
    case atStart => exact ⟨0, Nat.zero_le _, rfl, rfl⟩
    case round =>
      obtain ⟨k, hk, rfl, rfl⟩ := hrel
      by_cases hlt : k < len
      · have hc := hcell k hlt
        obtain ⟨hz0, hz1⟩ := hby k hlt
        have hst : Hid (run S (l.take (k + 1)) = upd (run S (l.take k)) (l.getD k 0)) := run_snoc S l k (by omega)
        generalize l.getD k 0 = z at hc hz0 hz1 hst
        generalize run S (l.take k) = X at hst
        have hx := byte_word X z hz0 hz1
        have hX1 : Hid (upd X z = off 4 (off 4 (X ^^^ BitVec.ofInt 32 z))) := by unfold Hid upd; rw [← off_add]
        generalize X ^^^ BitVec.ofInt 32 z = X1 at hx hX1
        obtain ⟨m1, hm1, ha1, hn1⟩ := nib_word X1
        have hc1 := tab_cell hT m1 hm1
        generalize off 4 (BitVec.ofNat 32 m1) = T1 at hn1 hc1
        generalize off 4 X1 = X2 at hn1 hX1
        obtain ⟨m2, hm2, ha2, hn2⟩ := nib_word X2
        have hc2 := tab_cell hT m2 hm2
        generalize off 4 (BitVec.ofNat 32 m2) = T2 at hn2 hc2
        generalize off 4 X2 = X3 at hn2 hX1
        have hlt' : (k : Int) < (len : Int) := by omega
        clear hT hcell hby
        go_wp2
        go_round
        case rel => exact ⟨k + 1, by omega, by go_num, val_int (by rw [hst.out, hX1.out])⟩
        case measure => simp [intOf]; omega
      · have HL' := HL.out
        rw [show l.take k = l by rw [List.take_of_length_le (by omega)]]
        go_wp2
        go_ret
        exact ⟨rfl, hB⟩

theorem w11 (a : Option Addr) (len cap : Nat) (l : List Int) (w : World) (hE : Elems w a len l) :
    Calls Tryd.prog 12 #[.slice a len cap] w fun e w' => e = .returned (.int .u32 ((more 0#32 l).toNat : Int)) ∧ Below w.heap.size w w' := by
  go_enter Tryd.func12, Tryd.ntmps12
  go_wp2_with (go_at_call 27; refine (w13 0#32 _ _ _ l _ hE).mono ?_; rintro e w' ⟨rfl, hb⟩)
  go_ret
  exact ⟨rfl, hb⟩
end Go.Proofs.YtmbkdalmnfcbfabDoor.Crc
