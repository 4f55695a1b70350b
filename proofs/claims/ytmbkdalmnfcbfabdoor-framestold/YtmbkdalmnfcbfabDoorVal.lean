/-
  frames.Values: the values that bytes tell, or none.
-/
import Derived.Test.YtmbkdalmnfcbfabDoorPay
import Derived.Deep.OwnRows
namespace Go.Proofs.YtmbkdalmnfcbfabDoor.Bits
open Go.ChangeShapes Go.WideShapes Go.ChangeAt Go.RowKit Go.Shelf Go.Maps
/-- The number of 64 bits that a number from 0 on is. -/
def si (n : Nat) : Int := if n < 9223372036854775808 then (n : Int) else (n : Int) - 18446744073709551616
theorem si_wrap (n : Nat) (h : n < 2 ^ 64) : IntKind.i64.wrap (n : Int) = si n := by
  rw [IntKind.wrap_i64]; unfold si; split <;> omega
/-- Values, where the bytes are too many or too few. -/
theorem values_long (s : Option Addr) (len cap : Nat) (s2 : Option Addr) (len2 cap2 : Nat) (T : List Int) (w : World) (hT : Elems w s2 len2 T) (hg : ∀ i, i < len2 → KT T i ≠ 0) (hne : len ≠ (tot (KT T) len2 + 7) / 8) :
    Calls Tryd.prog 14 #[.slice s len cap, .slice s2 len2 cap2] w fun e w' => e = .returned (.tuple #[.slice none 0 0, .int .i64 5]) ∧ Below w.heap.size w w' := by
  have hmf : ∀ (fn : Fn) (first cap : Array Value) (w : World), (Instr.makeFunc fn first cap).run Tryd.prog w = .ok (.func fn first cap) w := fun _ _ _ _ => rfl
  have hlm := hT.2.1
  have hle := tot_le (KT T) (KT_le T) len2
  obtain ⟨n, hn⟩ : ∃ n, tot (KT T) len2 = n := ⟨_, rfl⟩
  have Hn : Hid (tot (KT T) len2 = n) := hn
  rw [hn] at hle hne
  clear hn
  obtain ⟨q, hq⟩ : ∃ q, (n + 7) / 8 = q := ⟨_, rfl⟩
  have Hq : Hid ((n + 7) / 8 = q) := hq
  rw [hq] at hne
  clear hq
  have hne' : ((len : Int) != (q : Int)) = true := by simp; omega
  go_enter Tryd.func14, Tryd.ntmps14
  go_wp2_with (first
    | (go_at_call 28; refine (typeBits w).mono ?_; rintro e w1 ⟨m, rfl, hm1, hm2, hb1⟩; have hmA := hm1.below (below_alloc w1 (.cells #[.map (some m)] 68)); have hTA := (hT.below hb1).below (below_alloc w1 (.cells #[.map (some m)] 68)))
    | (go_at_call 31; refine (containsFunc s2 len2 cap2 T w1.heap.size m (w1.alloc (.cells #[.map (some m)] 68)) hTA (by simp) hmA hg).mono ?_; rintro e w2 ⟨rfl, h2⟩; rw [h2]; clear h2 w2)
    | (go_at_call 33; refine (allBits s2 len2 cap2 T m _ hTA hmA).mono ?_; rintro e w2 ⟨rfl, h2⟩; rw [h2, Hn.out]; clear h2 w2)
    | (go_at_call 30; refine (wholeBytes n _ (by omega)).mono ?_; rintro e w2 ⟨rfl, h2⟩; rw [h2, Hq.out]; clear h2 w2))
  refine bodyPost_ret (results_tmp2 rfl _ _ _) rfl ?_
  exact ⟨rfl, bstep hb1 (below_alloc w1 _)⟩
/-- Values, where a bit behind is no nought. -/
theorem values_behind (s : Option Addr) (cap : Nat) (s2 : Option Addr) (len2 cap2 : Nat) (B T : List Int) (n : Nat) (w : World) (hE : Elems w s ((n + 7) / 8) B) (hT : Elems w s2 len2 T) (hg : ∀ i, i < len2 → KT T i ≠ 0) (hn : tot (KT T) len2 = n) (hv : val (part B n (8 * ((n + 7) / 8) - n)) ≠ 0) :
    Calls Tryd.prog 14 #[.slice s ((n + 7) / 8) cap, .slice s2 len2 cap2] w fun e w' => e = .returned (.tuple #[.slice none 0 0, .int .i64 5]) ∧ Below w.heap.size w w' := by
  have hmf : ∀ (fn : Fn) (first cap : Array Value) (w : World), (Instr.makeFunc fn first cap).run Tryd.prog w = .ok (.func fn first cap) w := fun _ _ _ _ => rfl
  have hlm := hT.2.1
  have hle := tot_le (KT T) (KT_le T) len2
  have Hn : Hid (tot (KT T) len2 = n) := hn
  rw [hn] at hle
  clear hn
  have hq8 : n ≤ 8 * ((n + 7) / 8) ∧ 8 * ((n + 7) / 8) ≤ n + 7 := by omega
  obtain ⟨q, hq⟩ : ∃ q, (n + 7) / 8 = q := ⟨_, rfl⟩
  have Hq : Hid ((n + 7) / 8 = q) := hq
  rw [hq] at hE hv hq8 ⊢
  clear hq
  obtain ⟨x, hx⟩ : ∃ x, val (part B n (8 * q - n)) = x := ⟨_, rfl⟩
  have Hx : Hid (val (part B n (8 * q - n)) = x) := hx
  have hxl : x < 2 ^ 64 := by rw [← hx]; exact Nat.lt_of_lt_of_le (val_lt _) (Nat.pow_le_pow_right (by decide) (by rw [part_length]; omega))
  rw [hx] at hv
  clear hx
  have hne' : ((q : Int) != (q : Int)) = false := by simp
  have hnx : ((x : Int) != 0) = true := by simp; omega
  go_enter Tryd.func14, Tryd.ntmps14
  go_wp2_with (first
    | (go_at_call 28; refine (typeBits w).mono ?_; rintro e w1 ⟨m, rfl, hm1, hm2, hb1⟩; have hmA := hm1.below (below_alloc w1 (.cells #[.map (some m)] 68)); have hTA := (hT.below hb1).below (below_alloc w1 (.cells #[.map (some m)] 68)); have hEA := (hE.below hb1).below (below_alloc w1 (.cells #[.map (some m)] 68)))
    | (go_at_call 31; refine (containsFunc s2 len2 cap2 T w1.heap.size m (w1.alloc (.cells #[.map (some m)] 68)) hTA (by simp) hmA hg).mono ?_; rintro e w2 ⟨rfl, h2⟩; rw [h2]; clear h2 w2)
    | (go_at_call 33; refine (allBits s2 len2 cap2 T m _ hTA hmA).mono ?_; rintro e w2 ⟨rfl, h2⟩; rw [h2, Hn.out]; clear h2 w2)
    | (go_at_call 30; refine (wholeBytes n _ (by omega)).mono ?_; rintro e w2 ⟨rfl, h2⟩; rw [h2, Hq.out]; clear h2 w2)
    | (go_at_call 10; refine (get_ok_c s q cap B n (8 * q - n) _ hEA (by omega) (by omega) _ _ rfl (by omega)).mono ?_; rintro e w3 ⟨rfl, hk3⟩; rw [Hx.out]))
  refine bodyPost_ret (results_tmp2 rfl _ _ _) rfl ?_
  exact ⟨rfl, bstep (bstep hb1 (below_alloc w1 _)) hk3⟩
/-- A row of values. -/
structure Row2 (w : World) (g len j : Nat) (T : List Int) (X : Nat → Int) : Prop where
  row : ∃ c : Array Value, w.heap[g]? = some (.cells c 45 (0, 0)) ∧ c.size = len * 2 ∧ ∀ i, i < j → c[i * 2]? = some (.int .u8 (T.getD i 0)) ∧ c[i * 2 + 1]? = some (.int .i64 (X i))
theorem Row2.old {w : World} {g len j : Nat} {T : List Int} {X : Nat → Int} (h : Row2 w g len j T X) (i : Nat) (hi : i < len * 2) : ∃ v, w.cell? ⟨g, i, none⟩ = some v ∧ w.frozen? ⟨g, i, none⟩ = false := by
  obtain ⟨c, hc, hs, _⟩ := h.row
  exact row_at hc (by omega)
theorem Row2.kept {w w' : World} {g len j : Nat} {T : List Int} {X : Nat → Int} (h : Row2 w g len j T X) (hb : Below w.heap.size w w') : Row2 w' g len j T X := by
  obtain ⟨c, hc, hs, hv⟩ := h.row
  exact ⟨c, row_kept hc hb, hs, hv⟩
theorem Row2.step {w : World} {g len j : Nat} {T : List Int} {X : Nat → Int} (h : Row2 w g len j T X) (hj : j < len) : Row2 ((w.setCell ⟨g, j * 2, none⟩ (.int .u8 (T.getD j 0))).setCell ⟨g, j * 2 + 1, none⟩ (.int .i64 (X j))) g len (j + 1) T X := by
  obtain ⟨c, hc, hs, hv⟩ := h.row
  refine ⟨_, heap_set_same (heap_set_same hc _ _) _ _, by simpa using hs, fun i hi => ?_⟩
  by_cases e : i = j
  · subst e
    refine ⟨?_, ?_⟩
    · rw [Array.getElem?_setIfInBounds_ne (by omega), Array.getElem?_setIfInBounds_self_of_lt (by omega)]
    · rw [Array.getElem?_setIfInBounds_self_of_lt (by simp; omega)]
  · have := hv i (by omega)
    rw [Array.getElem?_setIfInBounds_ne (by omega), Array.getElem?_setIfInBounds_ne (by omega), Array.getElem?_setIfInBounds_ne (by omega), Array.getElem?_setIfInBounds_ne (by omega)]
    exact this
theorem Row2.vals {w : World} {g len : Nat} {T : List Int} {X : Nat → Int} (h : Row2 w g len len T X) (hl : len ≤ 1048576) (hT : ∀ i, i < len → 0 ≤ T.getD i 0 ∧ T.getD i 0 < 256) : Vals w (some ⟨g, 0, none⟩) len (fun i => (T.getD i 0).toNat) X := by
  obtain ⟨c, hc, hs, hv⟩ := h.row
  refine ⟨hl, fun i hi => by have := hT i hi; show (T.getD i 0).toNat < 256; omega, .inr ⟨g, 0, rfl, fun i hi => ?_⟩⟩
  obtain ⟨h1, h2⟩ := hv i hi
  have := hT i hi
  rw [Nat.zero_add, cell_of_row w g _ c 45 (0, 0) hc, cell_of_row w g _ c 45 (0, 0) hc, Int.toNat_of_nonneg this.1]
  exact ⟨h1, h2⟩
theorem info41 : (Tryd.prog.info? 45).map (fun i => (i.zero, i.size, i.bytes)) = some (some (.agg #[.int .u8 0, .int .i64 0]), 2, 16) := by kernel_rfl
theorem make43 (n : Nat) (hn : n ≤ 1048576) (w : World) : ∃ C : Array Value, C.size = n * 2 ∧ (Instr.makeSlice 41 (.int .i64 (n : Int)) (.int .i64 (n : Int))).run Tryd.prog w = .ok (.slice (some ⟨w.heap.size, 0, none⟩) n n) (w.alloc (.cells C 45)) := by
  obtain ⟨i, hi, hz, hs, hb⟩ := info_parts info41
  have h := run_make (P := Tryd.prog) w 41 45 i _ Tryd.underlying41 hi hz .i64 .i64 n n (by omega) (Int.le_refl _) (by rw [hb]; omega) (by omega)
  rw [Int.toNat_natCast, hs] at h
  exact ⟨_, size_madeCells _ _, h⟩
theorem Tm.set {w : World} {m g : Nat} (h : Tm w m) (hne : m ≠ g) (i : Nat) (u : Value) : Tm (w.setCell ⟨g, i, none⟩ u) m :=
  World.ownsMap.kept (row := some g) h ⟨rfl, rfl, rfl, by simp [World.setCell], fun k _ hk => heap_set_other _ (fun e => hk (by rw [e])) _ _⟩ (fun e => hne (Option.some.inj e))
theorem Tm.lt {w : World} {m : Nat} (h : Tm w m) : m < w.heap.size := World.ownsMap.lt h
/-- The numbers that bytes tell, by types. -/
def XT (B T : List Int) (i : Nat) : Int := si (val (part B (tot (KT T) i) (KT T i)))
set_option maxRecDepth 100000 in
/-- Values, where the bytes are those of values. -/
theorem values_ok (s : Option Addr) (cap : Nat) (s2 : Option Addr) (len2 cap2 : Nat) (B T : List Int) (n : Nat) (w : World) (hE : Elems w s ((n + 7) / 8) B) (hT : Elems w s2 len2 T) (hg : ∀ i, i < len2 → KT T i ≠ 0) (hn : tot (KT T) len2 = n) (hv : val (part B n (8 * ((n + 7) / 8) - n)) = 0) :
    Calls Tryd.prog 14 #[.slice s ((n + 7) / 8) cap, .slice s2 len2 cap2] w fun e w' => ∃ g, e = .returned (.tuple #[.slice (some ⟨g, 0, none⟩) len2 len2, .int .i64 0]) ∧ Row2 w' g len2 len2 T (XT B T) ∧ w.heap.size ≤ g ∧ Below w.heap.size w w' := by
  have hmf : ∀ (fn : Fn) (first cap : Array Value) (w : World), (Instr.makeFunc fn first cap).run Tryd.prog w = .ok (.func fn first cap) w := fun _ _ _ _ => rfl
  have hlm := hT.2.1
  have hle := tot_le (KT T) (KT_le T) len2
  have Hn : Hid (tot (KT T) len2 = n) := hn
  rw [hn] at hle
  clear hn
  have hq8 : n ≤ 8 * ((n + 7) / 8) ∧ 8 * ((n + 7) / 8) ≤ n + 7 := by omega
  obtain ⟨q, hq⟩ : ∃ q, (n + 7) / 8 = q := ⟨_, rfl⟩
  have Hq : Hid ((n + 7) / 8 = q) := hq
  rw [hq] at hE hv hq8 ⊢
  clear hq
  have Hx : Hid (val (part B n (8 * q - n)) = 0) := hv
  clear hv
  have hne' : ((q : Int) != (q : Int)) = false := by simp
  go_enter Tryd.func14, Tryd.ntmps14
  go_wp2_with (first
    | (go_at_call 28; refine (typeBits w).mono ?_; rintro e w1 ⟨m, rfl, hm1, hm2, hb1⟩; have hmA := hm1.below (below_alloc w1 (.cells #[.map (some m)] 68)); have hTA := (hT.below hb1).below (below_alloc w1 (.cells #[.map (some m)] 68)); have hEA := (hE.below hb1).below (below_alloc w1 (.cells #[.map (some m)] 68)); have hcA := cell_of_row (w1.alloc (.cells #[.map (some m)] 68)) w1.heap.size 0 _ 68 (0, 0) (heap_alloc_new _ _))
    | (go_at_call 31; refine (containsFunc s2 len2 cap2 T w1.heap.size m (w1.alloc (.cells #[.map (some m)] 68)) hTA (by simp) hmA hg).mono ?_; rintro e w2 ⟨rfl, h2⟩; rw [h2]; clear h2 w2)
    | (go_at_call 33; refine (allBits s2 len2 cap2 T m _ hTA hmA).mono ?_; rintro e w2 ⟨rfl, h2⟩; rw [h2, Hn.out]; clear h2 w2)
    | (go_at_call 30; refine (wholeBytes n _ (by omega)).mono ?_; rintro e w2 ⟨rfl, h2⟩; rw [h2, Hq.out]; clear h2 w2)
    | (go_at_call 10; refine (get_ok_c s q cap B n (8 * q - n) _ hEA (by omega) (by omega) _ _ rfl (by omega)).mono ?_; rintro e w3 ⟨rfl, hk3⟩; rw [Hx.out]; have hmk := make43 len2 hlm w3; obtain ⟨C, hCs, hmk⟩ := hmk))
  have hk3' := bstep (below_alloc w1 (.cells #[.map (some m)] 68)) hk3
  have hb3 := bstep hb1 hk3'
  have hE3 := hE.below hb3
  have hT3 := hT.below hb3
  have hm3 := hm1.below hk3'
  have hc3 : w3.cell? ⟨w1.heap.size, 0, none⟩ = some (.map (some m)) := (hk3.cell (p := ⟨w1.heap.size, 0, none⟩) (by simp)).trans hcA
  clear hk3 hk3' hmA hTA hEA hcA hm1 hmk
  go_loopw [11, 46] (fun t i wr => ∃ j : Nat, j ≤ len2 ∧ i = .int .i64 j ∧ t = .int .i64 (tot (KT T) j : Int) ∧ Row2 wr w3.heap.size len2 j T (XT B T) ∧ Below w3.heap.size w3 wr) (fun _ i _ => len2 - (intOf i).toNat)
  case atStart => exact ⟨0, Nat.zero_le _, rfl, rfl, ⟨C, heap_alloc_new _ _, hCs, fun i hi => by omega⟩, (Below.refl _ _).alloc (Nat.le_refl _) _⟩
  case round =>
    obtain ⟨j, hj, rfl, rfl, hR, hb⟩ := hrel
    by_cases hlt : j < len2
    · obtain ⟨b, o, rfl, hc⟩ := (hT3.below hb).2.2.2.resolve_left (by omega)
      have hcj := hc j hlt
      have hbj := hT.2.2.1 j hlt
      have hlook : ∀ W, Tm W m → (Instr.lookup 68 (.map (some m)) (.int .u8 (T.getD j 0)) false).run Tryd.prog W = .ok (.int .i64 (KT T j : Int)) W := fun W h => by
        have := h.look (T.getD j 0).toNat (by omega)
        rwa [Int.toNat_of_nonneg hbj.1] at this
      have hmono := tot_mono (KT T) (show j + 1 ≤ len2 by omega)
      have HS : Hid (tot (KT T) (j + 1) = tot (KT T) j + KT T j) := rfl
      have HXT : Hid (XT B T j = si (val (part B (tot (KT T) j) (KT T j)))) := rfl
      have hkl := KT_le T j
      have hvl := val_lt (part B (tot (KT T) j) (KT T j))
      rw [part_length] at hvl
      have hvl64 : val (part B (tot (KT T) j) (KT T j)) < 2 ^ 64 := Nat.lt_of_lt_of_le hvl (Nat.pow_le_pow_right (by decide) hkl)
      have hsi := si_wrap _ hvl64
      rw [HS.out, Hn.out] at hmono
      have HR : Hid (Row2 wr w3.heap.size len2 j T (XT B T)) := hR
      have hER := hE3.below hb
      have hmr := hm3.below hb
      have hl1 := hlook wr hmr
      have hne3 : m ≠ w3.heap.size := Nat.ne_of_lt hm3.lt
      have hne4 : w1.heap.size ≠ w3.heap.size := Nat.ne_of_lt (World.block_lt_of_cell? w3 _ hc3)
      have hcm : wr.cell? ⟨w1.heap.size, 0, none⟩ = some (.map (some m)) := (hb.cell (World.block_lt_of_cell? w3 _ hc3)).trans hc3
      have hz : (XT B T j) = IntKind.i64.wrap (val (part B (tot (KT T) j) (KT T j)) : Int) := by rw [HXT.out, hsi]
      have HZ : Hid (XT B T j = IntKind.i64.wrap (val (part B (tot (KT T) j) (KT T j)) : Int)) := hz
      clear hc hvl hsi hz HXT
      generalize KT T j = k at hlook HS hkl hmono hl1 HZ hvl64
      generalize tot (KT T) j = t at HS hmono HZ hvl64
      obtain ⟨x, hx⟩ : ∃ x, val (part B t k) = x := ⟨_, rfl⟩
      have Hx : Hid (val (part B t k) = x) := hx
      rw [hx] at HZ hvl64
      obtain ⟨y, hy⟩ : ∃ y, IntKind.i64.wrap (x : Int) = y := ⟨_, rfl⟩
      rw [hy] at HZ
      clear hx
      obtain ⟨ty, hty⟩ : ∃ ty, T.getD j 0 = ty := ⟨_, rfl⟩
      have Hty : Hid (T.getD j 0 = ty) := hty
      rw [hty] at hcj hbj hl1
      simp only [hty] at hlook
      clear hty
      have hlt' : (j : Int) < (len2 : Int) := by omega
      have hj0 : (0 : Int) ≤ (j : Int) := by omega
      go_wp2_with (go_at_call 10; refine (get_ok_c s q cap B t k wr hER (by omega) (by omega) _ _ rfl rfl).mono ?_; rintro e w6 ⟨rfl, hk6⟩; rw [Hx.out]; have hR6 : Hid (Row2 w6 w3.heap.size len2 j T (XT B T)) := HR.out.kept hk6; obtain ⟨o1, ho1, hf1⟩ := hR6.out.old (j * 2) (by omega); obtain ⟨o2, ho2, hf2⟩ := hR6.out.old (j * 2 + 1) (by omega); have hb6 := bstep hb hk6; have hl6 := hlook w6 (hmr.below hk6); have hcm6 : w6.cell? ⟨w1.heap.size, 0, none⟩ = some (.map (some m)) := (hk6.cell (World.block_lt_of_cell? wr _ hcm)).trans hcm; have hl7 := hlook ((w6.setCell ⟨w3.heap.size, j * 2, none⟩ (.int .u8 ty)).setCell ⟨w3.heap.size, j * 2 + 1, none⟩ (.int .i64 y)) (((hmr.below hk6).set hne3 _ _).set hne3 _ _))
      go_roundw
      case rel =>
        refine ⟨j + 1, by omega, by go_num, by rw [HS.out]; go_num, ?_, below_set (below_set hb6 (Nat.le_refl _) _ _) (Nat.le_refl _) _ _⟩
        have h := hR6.out.step hlt
        rw [HZ.out, Hty.out] at h
        exact h
      case measure => simp [intOf]; omega
    · have hjl : j = len2 := by omega
      have hlt' : (len2 : Int) ≤ (j : Int) := by omega
      rw [hjl] at hR
      clear hjl
      go_wp2
      refine bodyPost_ret (results_tmp2 rfl _ _ _) rfl ?_
      exact ⟨_, rfl, hR, hb3.size, bstep hb3 hb⟩
end Go.Proofs.YtmbkdalmnfcbfabDoor.Bits
