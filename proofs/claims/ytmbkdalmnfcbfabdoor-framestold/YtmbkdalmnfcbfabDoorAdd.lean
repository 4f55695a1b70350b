/-
  What the Go text of (*row).add leaves behind: one bit more.
-/
import Derived.Test.YtmbkdalmnfcbfabDoorRow
namespace Go.Proofs.YtmbkdalmnfcbfabDoor.Bits
open Go.ChangeShapes Go.WideShapes Go.ChangeAt Go.RowKit
theorem shl8_lt (b : Bool) (k : Nat) (hk : k ≤ 7) : b.toNat * 2 ^ k < 256 := by
  have := Nat.pow_le_pow_right (n := 2) (by decide) hk
  cases b <;> simp <;> omega
theorem shl8 (b : Bool) (k : Nat) (hk : k ≤ 7) : (b.toNat : Int) * 2 ^ k % 256 = ((b.toNat * 2 ^ k : Nat) : Int) := by
  have h := shl8_lt b k hk
  have e : (b.toNat : Int) * 2 ^ k = ((b.toNat * 2 ^ k : Nat) : Int) := by simp
  rw [e]
  omega
/-- One bit more, where a byte is full. -/
theorem add1 (r : Nat) (v : Value) (b : Bool) (L : List Bool) (w : World) (hR : Row w r v L) (hL : L.length < 1099511627776) (h8 : L.length % 8 = 0) :
    Calls Tryd.prog 36 #[.pointer (some ⟨r, 0, none⟩), .int .u8 (b.toNat : Int)] w fun e w' => (∃ x, e = .returned x) ∧ ∃ v', Row w' r v' (L ++ [b]) ∧ Put r v v' w w' := by
  obtain ⟨i0, hi, hz0, hz1, hz2⟩ := info_parts info5
  have hr := hR.row
  have hown := hR.own
  have hc0 : w.cell? ⟨r, 0, none⟩ = some v := by simp [World.cell?, hr]
  have hc1 : w.cell? ⟨r, 1, none⟩ = some (.int .i64 L.length) := by simp [World.cell?, hr]
  have hpl := pack_length L
  have hrl : r < w.heap.size := (Array.getElem?_eq_some_iff.1 hr).1
  have hm : (L.length : Int) % 8 = 0 := by omega
  have hroom : Hid ((pack L).map (Value.int .u8) ++ [.int .u8 0] = (room L).map (Value.int .u8)) := by show _ = _; rw [room, if_pos h8]; simp
  have hmm : Hid ((pack L).length + 1 = L.length / 8 + 1) := by show _ = _; omega
  generalize (pack L).map (Value.int .u8) = xs at hown hroom
  generalize (pack L).length = m at hown hpl hmm
  obtain rfl : m = L.length / 8 := by omega
  clear hmm hpl
  have hrv := hR.not_own
  have hR' : Hid (Row w r v L) := hR
  have hr' : Hid (w.heap[r]? = some (.cells #[v, .int .i64 L.length] 77 (0, 0))) := hr
  clear hR hr
  go_enter Tryd.func36, Tryd.ntmps36
  go_wp2_with (at_builtin; refine wpList_append_own_at _ rfl _ _ 22 rfl 0 5 i0 (.int .u8 0) 1 1 Tryd.underlying22 hi hz0 hz1 hz2 rfl (by decide) v (L.length / 8) xs rfl (hown.alloc _) ⟨w.heap.size, 0, none⟩ 1 1 [.int .u8 0] rfl rfl (cell_one_new _ _ _) (by simp [Value.oneCell']) (by unfold maxLen; omega) (by omega) (Nat.zero_le _) ?_; intro v' w1 hown' hgrow hnil hat; obtain ⟨g', cap', rfl⟩ := ownsRow_succ hown'; clear hnil; obtain ⟨Hr1, hc10, hf10⟩ := grown_row hgrow hrl hrv hr'.out)
  have hMid : Mid (w1.setCell ⟨r, 0, none⟩ (.slice (some ⟨g', 0, none⟩) (L.length / 8 + 1) cap')) r g' cap' L := by
    refine ⟨by rw [heap_set_same Hr1.out]; simp, ?_⟩
    rw [← hroom.out]
    refine hown'.kept (grownBy_setCell' _ _ _) (.inr ?_)
    intro e
    simp only [Value.ownBlock, Option.some.injEq] at e
    subst e
    obtain ⟨cur, hh, _⟩ := own_heap hown'
    rw [Hr1.out] at hh
    simp at hh
  have hPut : Put r v (.slice (some ⟨g', 0, none⟩) (L.length / 8 + 1) cap') w (w1.setCell ⟨r, 0, none⟩ (.slice (some ⟨g', 0, none⟩) (L.length / 8 + 1) cap')) := by
    refine ⟨hgrow.os, hgrow.tape, hgrow.output, ?_, ?_, ?_⟩
    · have := hgrow.size; rw [World.size_alloc] at this; simp [World.setCell]; omega
    · intro k hk hkr hkv
      rw [heap_set_other _ hkr, hgrow.block k (by rw [World.size_alloc]; omega) hkv, Below.heap_alloc _ _ _ hk]
    · rcases hat with e | e
      · exact .inl e
      · exact .inr ⟨_, e, by rw [World.size_alloc]; omega⟩
  obtain ⟨W, hW⟩ : ∃ W, w1.setCell ⟨r, 0, none⟩ (.slice (some ⟨g', 0, none⟩) (L.length / 8 + 1) cap') = W := ⟨_, rfl⟩
  rw [hW] at hMid hPut ⊢
  clear hW Hr1 hc10 hf10 hat hown' hgrow hroom hown hc0 hc1 hrv hR' hr' hi hz0 hz1 hz2
  have hc0 : W.cell? ⟨r, 0, none⟩ = some (.slice (some ⟨g', 0, none⟩) (L.length / 8 + 1) cap') := by simp [World.cell?, hMid.row]
  have hc1 : W.cell? ⟨r, 1, none⟩ = some (.int .i64 L.length) := by simp [World.cell?, hMid.row]
  have hf1 : W.frozen? ⟨r, 1, none⟩ = false := by simp [World.frozen?, hMid.row]
  obtain ⟨hg0, hg1⟩ := own_cell' hMid.own (L.length / 8) (by omega)
  rw [room, room_getD] at hg0
  go_region
  have hne := hMid.ne
  have hz : bits BinOp.or IntKind.u8 (byteAt L (L.length / 8) : Int) ((b.toNat : Int) * 128 % 256) = ((byteAt L (L.length / 8) ||| (b.toNat * 2 ^ (7 - L.length % 8)) : Nat) : Int) := by
    have e : (b.toNat : Int) * 128 % 256 = ((b.toNat * 2 ^ (7 - L.length % 8) : Nat) : Int) := by cases b <;> simp [h8]
    rw [e, or8 _ _ (byteAt_lt _ _) (by cases b <;> simp [h8])]
  have HD : Hid (∀ c : Int, c = (L.length : Int) + 1 → Row ((W.setCell ⟨g', L.length / 8, none⟩ (.int .u8 (bits BinOp.or IntKind.u8 (byteAt L (L.length / 8) : Int) ((b.toNat : Int) * 128 % 256)))).setCell ⟨r, 1, none⟩ (.int .i64 c)) r (.slice (some ⟨g', 0, none⟩) (L.length / 8 + 1) cap') (L ++ [b])) := fun c => hMid.done b (c := c) hz
  clear hz
  generalize bits BinOp.or IntKind.u8 (byteAt L (L.length / 8) : Int) ((b.toNat : Int) * 128 % 256) = z at HD ⊢
  have hb1 : (W.setCell ⟨g', L.length / 8, none⟩ (.int .u8 z)).drew.cell? ⟨r, 1, none⟩ = some (.int .i64 L.length) := by
    rw [World.cell?_drew, World.cell?_setCell_other _ _ _ _ (by simp)]; exact hc1
  have hb2 : (W.setCell ⟨g', L.length / 8, none⟩ (.int .u8 z)).drew.frozen? ⟨r, 1, none⟩ = false := by
    rw [World.frozen?_drew, World.frozen?_setCell]; exact hf1
  go_wp2
  go_end0
  exact ⟨⟨_, rfl⟩, _, (HD.out _ rfl).drew, ((hPut.bytes rfl _ _).cell _ _).drew⟩
/-- One bit more, within a byte. -/
theorem add2 (r : Nat) (v : Value) (b : Bool) (L : List Bool) (w : World) (hR : Row w r v L) (hL : L.length < 1099511627776) (h8 : L.length % 8 ≠ 0) :
    Calls Tryd.prog 36 #[.pointer (some ⟨r, 0, none⟩), .int .u8 (b.toNat : Int)] w fun e w' => (∃ x, e = .returned x) ∧ ∃ v', Row w' r v' (L ++ [b]) ∧ Put r v v' w w' := by
  have hpl : (pack L).length = L.length / 8 + 1 := by rw [pack_length]; omega
  obtain ⟨g', cap', rfl⟩ := ownsRow_succ (k := L.length / 8) (by have := hR.own; rw [hpl] at this; exact this)
  have hMid : Mid w r g' cap' L := by
    refine ⟨hR.row, ?_⟩
    have := hR.own
    rw [room, if_neg h8, ← hpl]
    rw [← hpl] at this
    exact this
  have hPut := Put.refl r (.slice (some ⟨g', 0, none⟩) (L.length / 8 + 1) cap') w
  have hc0 : w.cell? ⟨r, 0, none⟩ = some (.slice (some ⟨g', 0, none⟩) (L.length / 8 + 1) cap') := by simp [World.cell?, hMid.row]
  have hc1 : w.cell? ⟨r, 1, none⟩ = some (.int .i64 L.length) := by simp [World.cell?, hMid.row]
  have hf1 : w.frozen? ⟨r, 1, none⟩ = false := by simp [World.frozen?, hMid.row]
  obtain ⟨hg0, hg1⟩ := own_cell' hMid.own (L.length / 8) (by omega)
  rw [room, room_getD] at hg0
  have hm : (L.length : Int) % 8 ≠ 0 := by omega
  clear hR hpl
  go_enter Tryd.func36, Tryd.ntmps36
  go_wp2
  go_region
  have hne := hMid.ne
  have hz : bits BinOp.or IntKind.u8 (byteAt L (L.length / 8) : Int) ((b.toNat : Int) * 2 ^ (7 - L.length % 8) % 256) = ((byteAt L (L.length / 8) ||| (b.toNat * 2 ^ (7 - L.length % 8)) : Nat) : Int) := by
    have e : (b.toNat : Int) * 2 ^ (7 - L.length % 8) % 256 = ((b.toNat * 2 ^ (7 - L.length % 8) : Nat) : Int) := shl8 b _ (by omega)
    rw [e, or8 _ _ (byteAt_lt _ _) (shl8_lt b _ (by omega))]
  have HD : Hid (∀ c : Int, c = (L.length : Int) + 1 → Row ((w.setCell ⟨g', L.length / 8, none⟩ (.int .u8 (bits BinOp.or IntKind.u8 (byteAt L (L.length / 8) : Int) ((b.toNat : Int) * 2 ^ (7 - L.length % 8) % 256)))).setCell ⟨r, 1, none⟩ (.int .i64 c)) r (.slice (some ⟨g', 0, none⟩) (L.length / 8 + 1) cap') (L ++ [b])) := fun c => hMid.done b (c := c) hz
  clear hz
  generalize bits BinOp.or IntKind.u8 (byteAt L (L.length / 8) : Int) ((b.toNat : Int) * 2 ^ (7 - L.length % 8) % 256) = z at HD ⊢
  have hb1 : (w.setCell ⟨g', L.length / 8, none⟩ (.int .u8 z)).drew.cell? ⟨r, 1, none⟩ = some (.int .i64 L.length) := by
    rw [World.cell?_drew, World.cell?_setCell_other _ _ _ _ (by simp)]; exact hc1
  have hb2 : (w.setCell ⟨g', L.length / 8, none⟩ (.int .u8 z)).drew.frozen? ⟨r, 1, none⟩ = false := by
    rw [World.frozen?_drew, World.frozen?_setCell]; exact hf1
  go_wp2
  go_end0
  exact ⟨⟨_, rfl⟩, _, (HD.out _ rfl).drew, ((hPut.bytes rfl _ _).cell _ _).drew⟩
/-- One bit more. -/
theorem add (r : Nat) (v : Value) (b : Bool) (L : List Bool) (w : World) (hR : Row w r v L) (hL : L.length < 1099511627776) :
    Calls Tryd.prog 36 #[.pointer (some ⟨r, 0, none⟩), .int .u8 (b.toNat : Int)] w fun e w' => (∃ x, e = .returned x) ∧ ∃ v', Row w' r v' (L ++ [b]) ∧ Put r v v' w w' := by
  by_cases h8 : L.length % 8 = 0
  · exact add1 r v b L w hR hL h8
  · exact add2 r v b L w hR hL h8
end Go.Proofs.YtmbkdalmnfcbfabDoor.Bits
