/-
  bits.Get where it refuses; New, Len, Bytes; what the statements ask besides: low, SameBytes.
-/
import Derived.Test.YtmbkdalmnfcbfabDoorGet
import Derived.Laws.CopyOwn
import Derived.OwnWalk
import Derived.Deep.QuietTactic
import Derived.BigQuiet
namespace Go.Proofs.YtmbkdalmnfcbfabDoor.Bits
open Go.ChangeShapes Go.WideShapes Go.ChangeAt Go.RowKit Go.Shelf
/-- Get, where at or bits may not be. -/
theorem get_bad (s : Option Addr) (len cap : Nat) (at_ k : Int) (w : World) (hb : at_ < 0 ∨ ¬ (0 ≤ k ∧ k ≤ 64)) :
    Calls Tryd.prog 10 #[.slice s len cap, .int .i64 at_, .int .i64 k] w fun e w' => e = .returned (.tuple #[.int .u64 0, .int .i64 1]) ∧ w' = w := by
  by_cases ha : at_ < 0
  · clear hb
    go_enter Tryd.func10, Tryd.ntmps10
    go_wp2_with (fail)
    refine bodyPost_ret (results_tmp2 rfl _ _ _) rfl ?_
    exact ⟨rfl, rfl⟩
  · have hwid : decide (0 ≤ k ∧ k ≤ 64) = false := by simp only [decide_eq_false_iff_not]; exact hb.resolve_left ha
    clear hb
    go_enter Tryd.func10, Tryd.ntmps10
    go_wp2_with (go_at_call 25; refine (isWidth _ _).mono ?_; rintro e w2 ⟨rfl, h2⟩; rw [hwid, h2]; clear h2 w2)
    refine bodyPost_ret (results_tmp2 rfl _ _ _) rfl ?_
    exact ⟨rfl, rfl⟩
/-- Get, where there are too few bits. -/
theorem get_short (s : Option Addr) (len cap : Nat) (at_ k : Nat) (w : World) (hl : len ≤ 1048576) (ha : at_ < 9223372036854775808) (hk : k ≤ 64) (hr : 8 * len < at_ + k) :
    Calls Tryd.prog 10 #[.slice s len cap, .int .i64 (at_ : Int), .int .i64 (k : Int)] w fun e w' => e = .returned (.tuple #[.int .u64 0, .int .i64 4]) ∧ w' = w := by
  have hwid : decide ((0 : Int) ≤ (k : Int) ∧ (k : Int) ≤ 64) = true := by simp; omega
  have hs : (8 : Int) * (len : Int) < (at_ : Int) + (k : Int) := by omega
  go_enter Tryd.func10, Tryd.ntmps10
  go_wp2_with (go_at_call 25; refine (isWidth _ _).mono ?_; rintro e w2 ⟨rfl, h2⟩; rw [hwid, h2]; clear h2 w2)
  refine bodyPost_ret (results_tmp2 rfl _ _ _) rfl ?_
  exact ⟨rfl, rfl⟩
/-- New: a writer of no bits. -/
theorem new (w : World) :
    Calls Tryd.prog 22 #[] w fun e w' => e = .returned (.pointer (some ⟨w.heap.size + 1, 0, none⟩)) ∧ w'.heap.size = w.heap.size + 2 ∧ Wr w' (w.heap.size + 1) w.heap.size (.slice none 0 0) [] ∧ Below w.heap.size w w' := by
  go_enter Tryd.func22, Tryd.ntmps22
  go_wp2
  go_ret
  refine ⟨by simp, by simp, ⟨?_, ⟨?_, World.ownsRow_nil _ _ _ _⟩⟩, ((Below.refl _ w).alloc (Nat.le_refl _) _).alloc (by simp) _⟩
  · have := World.alloc_heap_new (w.alloc (.cells #[.slice none 0 0, .int .i64 0] 77)) (.cells #[.pointer (some ⟨w.heap.size, 0, none⟩)] 79)
    rw [World.size_alloc] at this
    exact this
  · exact (Below.heap_alloc _ _ _ (by simp)).trans (World.alloc_heap_new w _)
/-- A block of bytes. -/
def Blk (w : World) (g : Nat) (l : List Int) : Prop := w.heap[g]? = some (.cells (l.map (Value.int .u8)).toArray 5 (0, 0))
theorem made_row {w w1 : World} {n : Nat} {xs : List Value} (h : w1.ownsRow w.heap.size 5 1 (.slice (some ⟨w.heap.size, 0, none⟩) n n) n xs) : ∃ cur : List Value, w1.heap[w.heap.size]? = some (.cells cur.toArray 5 (0, 0)) ∧ cur.length = n := by
  rcases h.2 with ⟨h2, _⟩ | ⟨g', cap', cur, hv, _, hh, hn, hm, hs, ht⟩
  · cases h2
  · simp only [Value.slice.injEq, Option.some.injEq, Addr.mk.injEq, and_true, true_and] at hv
    obtain ⟨rfl, rfl⟩ := hv
    exact ⟨cur.toList, by simpa using hh, by simpa using hs⟩
/-- Bytes: all of it, in new memory. -/
theorem bytes (a r : Nat) (v : Value) (L : List Bool) (w : World) (hW : Wr w a r v L) (hL : L.length < 1099511627776) :
    Calls Tryd.prog 24 #[.pointer (some ⟨a, 0, none⟩)] w fun e w' => e = .returned (.slice (some ⟨w.heap.size, 0, none⟩) (pack L).length (pack L).length) ∧ Blk w' w.heap.size (pack L) ∧ Below w.heap.size w w' := by
  obtain ⟨i0, hi, hz0, hz1, hz2⟩ := info_parts info5
  have hca : w.cell? ⟨a, 0, none⟩ = some (.pointer (some ⟨r, 0, none⟩)) := by simp [World.cell?, hW.ptr]
  have hcr : w.cell? ⟨r, 0, none⟩ = some v := by simp [World.cell?, hW.row.row]
  have hpl := pack_length L
  obtain ⟨n, hn⟩ : ∃ n, n = (pack L).length := ⟨_, rfl⟩
  obtain ⟨xs, hxs⟩ : ∃ xs, xs = (pack L).map (Value.int .u8) := ⟨_, rfl⟩
  have hown := hW.row.own
  rw [← hn, ← hxs] at hown
  obtain ⟨sp, cap, hv⟩ : ∃ sp cap, v = .slice sp n cap := by
    rcases hown.2 with ⟨rfl, rfl⟩ | ⟨g, cap, cur, rfl, _⟩
    · exact ⟨_, _, rfl⟩
    · exact ⟨_, _, rfl⟩
  subst hv
  have hnb : n ≤ 281474976710656 := by omega
  have Hxs : Hid (xs = (pack L).map (Value.int .u8)) := hxs
  have Hn : Hid (n = (pack L).length) := hn
  have hxl : Hid (xs.length = n) := by show _ = _; have := hown.1; simpa using this
  have hsrc : Hid (0 < n → ∃ ad, sp = some ad ∧ ∀ j u, xs[j]? = some u → w.cell? (ad.add j) = some u) := fun h0 => by
    rcases hown.2 with ⟨_, h⟩ | ⟨g, cap, cur, hv, _⟩
    · omega
    · cases hv
      exact ⟨_, rfl, hown.cells rfl⟩
  have hone : Hid (∀ u ∈ xs, u.oneCell' = true) := fun u hu => by
    rw [hxs] at hu
    obtain ⟨z, _, rfl⟩ := List.mem_map.1 hu
    rfl
  clear hpl hxs hn
  have hwr : Hid (Wr w a r (.slice sp n cap) L) := hW
  go_enter Tryd.func24, Tryd.ntmps24
  go_wp2_with (first | (go_at_call 34; refine (there_yes a r _ hW.ptr).mono ?_; rintro e w2 ⟨rfl, h2⟩; rw [h2]; clear h2 w2) | (at_make; refine wpList_make_full _ rfl _ _ 22 rfl w.heap.size 5 i0 (.int .u8 0) 1 Tryd.underlying22 hi hz0 hz1 _ _ _ _ n rfl rfl rfl rfl (by rw [hz2]; omega) (by unfold maxLen; omega) (Nat.le_refl _) ?_; intro w1 hown1 hgrow1; obtain ⟨cur, hcur, hcl⟩ := made_row hown1; have Hcur : Hid (w1.heap[w.heap.size]? = some (.cells cur.toArray 5 (0, 0))) := hcur; have Hcl : Hid (cur.length = n) := hcl; have hca1 : w1.cell? ⟨a, 0, none⟩ = some (.pointer (some ⟨r, 0, none⟩)) := hgrow1.cell hca (by exact fun h => by cases h); have hcr1 : w1.cell? ⟨r, 0, none⟩ = some (.slice sp n cap) := hgrow1.cell hcr (by exact fun h => by cases h); clear hcur hcl hown1) | (refine wpList_copy_splice rfl _ _ 22 22 rfl 5 Tryd.underlying22 (by kernel_rfl) (some ⟨w.heap.size, 0, none⟩) sp n n n cap rfl rfl w.heap.size 0 cur 5 Hcur.out xs (by rw [hxl.out]; exact (Nat.min_self n).symm) (fun h0 => ⟨rfl, (hsrc.out (by have := hxl.out; omega)).imp fun ad h => ⟨h.1, fun j u hu => hgrow1.cell (h.2 j u hu) (by exact fun h => by cases h)⟩⟩) (by have := hxl.out; have := Hcl.out; omega) hone.out w.heap.size w ((Below.refl _ _).grown hgrow1 (Nat.le_refl _) (fun k h => by cases h)) (Nat.le_refl _) ?_; intro w2 hg2 hb2))
  go_ret
  have hsp : splice cur 0 xs = xs := by
    have h1 := hxl.out
    have h2 := Hcl.out
    rw [splice, List.take_zero, List.nil_append, Nat.zero_add, List.drop_eq_nil_of_le (by omega), List.append_nil]
  refine ⟨by rw [Hn.out]; rfl, ?_, hb2⟩
  have := hg2.out
  rw [hsp, Hxs.out] at this
  exact this
theorem Blk.elems {w : World} {g : Nat} {l : List Int} (h : Blk w g l) (hb : ∀ i, i < l.length → 0 ≤ l.getD i 0 ∧ l.getD i 0 < 256) (hl : l.length ≤ 1048576) : Elems w (some ⟨g, 0, none⟩) l.length l :=
  ⟨rfl, hl, hb, .inr ⟨g, 0, rfl, fun i hi => by rw [Nat.zero_add, cell_of_row w g i _ 5 (0, 0) h]; simp [hi]⟩⟩
theorem pack_bytes (L : List Bool) : ∀ i, i < (pack L).length → 0 ≤ (pack L).getD i 0 ∧ (pack L).getD i 0 < 256 := fun i hi => by
  rw [pack_getD L i (by rw [pack_length] at hi; exact hi)]
  have := byteAt_lt L i
  omega
theorem below_drewN {B : Nat} {a w : World} (h : Below B a w) (n : Nat) : Below B a (w.drewN n) := h.trans ⟨rfl, rfl, rfl, Nat.le_refl _, fun _ _ => rfl⟩
theorem bstep {a w w' : World} (h : Below a.heap.size a w) (k : Below w.heap.size w w') : Below a.heap.size a w' := h.trans (k.mono h.size)
/-- SameBytes of slices whose elements are the same. -/
theorem same (a b : Option Addr) (len ca cb : Nat) (l : List Int) (w : World) (hA : Elems w a len l) (hB : Elems w b len l) :
    Calls Tryd.prog 11 #[.slice a len ca, .slice b len cb] w fun e w' => e = .returned (.bool true) ∧ ∃ n, w' = w.drewN n := by
  have hlm : len ≤ 1048576 := hA.2.1
  have hne : ((len : Int) != (len : Int)) = false := by simp
  go_enter Tryd.func11, Tryd.ntmps11
  go_wp2
  go_loopw [5] (fun i wr => ∃ k n : Nat, k ≤ len ∧ i = .int .i64 k ∧ wr = w.drewN n) (fun i _ => len - (intOf i).toNat)
  case atStart => exact ⟨0, 0, Nat.zero_le _, rfl, rfl⟩
  case round =>
    obtain ⟨k, n, hk, rfl, rfl⟩ := hrel
    by_cases hlt : k < len
    · obtain ⟨b1, o1, rfl, hc1⟩ := hA.2.2.2.resolve_left (by omega)
      obtain ⟨b2, o2, rfl, hc2⟩ := hB.2.2.2.resolve_left (by omega)
      have h1 := hc1 k hlt
      have h2 := hc2 k hlt
      generalize l.getD k 0 = z at h1 h2
      have hlt' : (k : Int) < (len : Int) := by omega
      have hk0 : (0 : Int) ≤ (k : Int) := by omega
      clear hc1 hc2 hA hB
      go_wp2
      go_quiet (fail)
      go_wp2
      go_roundw
      case rel => exact ⟨k + 1, n + nq, by omega, by go_num, rfl⟩
      case measure => simp [intOf]; omega
    · go_wp2
      go_ret
      exact ⟨rfl, n, rfl⟩
theorem same_b (a b : Option Addr) (len ca cb : Nat) (l : List Int) (w : World) (hA : Elems w a len l) (hB : Elems w b len l) :
    Calls Tryd.prog 11 #[.slice a len ca, .slice b len cb] w fun e w' => e = .returned (.bool true) ∧ Below w.heap.size w w' :=
  (same a b len ca cb l w hA hB).mono fun e w' ⟨h1, n, h2⟩ => ⟨h1, by rw [h2]; exact below_drewN (Below.refl _ _) n⟩
end Go.Proofs.YtmbkdalmnfcbfabDoor.Bits
