/-
  slices.ContainsFunc over types that have bits; frames.Payload of values that may be; frames.Bits.
-/
import Derived.Test.YtmbkdalmnfcbfabDoorMap
namespace Go.Proofs.YtmbkdalmnfcbfabDoor.Bits
open Go.ChangeShapes Go.WideShapes Go.ChangeAt Go.RowKit Go.Shelf Go.Maps
/-- IndexFunc: none has no bits. -/
theorem indexFunc (s : Option Addr) (len cap : Nat) (T : List Int) (p m : Nat) (w : World) (hE : Elems w s len T) (hc : w.cell? ⟨p, 0, none⟩ = some (.map (some m))) (hm : Tm w m) (hg : ∀ i, i < len → KT T i ≠ 0) :
    Calls Tryd.prog 39 #[.slice s len cap, .func (.func 32) #[] #[.pointer (some ⟨p, 0, none⟩)]] w fun e w' => e = .returned (.int .i64 (-1)) ∧ w' = w := by
  have hlm := hE.2.1
  go_enter Tryd.func39, Tryd.ntmps39
  go_wp2
  go_loop [8] (fun i => ∃ j : Nat, j ≤ len ∧ i = .int .i64 j) (fun i => len - (intOf i).toNat)
  case atStart => exact ⟨0, Nat.zero_le _, rfl⟩
  case round =>
    obtain ⟨j, hj, rfl⟩ := hrel
    by_cases hlt : j < len
    · obtain ⟨b, o, rfl, hcc⟩ := hE.2.2.2.resolve_left (by omega)
      have hcj := hcc j hlt
      have hbj := hE.2.2.1 j hlt
      have hk := hg j hlt
      obtain ⟨t, ht⟩ : ∃ t : Nat, T.getD j 0 = t := ⟨(T.getD j 0).toNat, by omega⟩
      have hde : decide (wide t = 0) = false := by
        have : KT T j = wide t := by unfold KT; rw [ht, Int.toNat_natCast]
        rw [this] at hk
        exact decide_eq_false hk
      rw [ht] at hcj hbj
      clear hcc ht hk
      have hlt' : (j : Int) < (len : Int) := by omega
      have hj0 : (0 : Int) ≤ (j : Int) := by omega
      go_wp2_with (go_at_call 32; refine (closure t p m w (by omega) hc hm).mono ?_; rintro e w2 ⟨rfl, h2⟩; rw [hde, h2]; clear h2 w2)
      go_round
      case rel => exact ⟨j + 1, by omega, by go_num⟩
      case measure => simp [intOf]; omega
    · go_wp2
      go_ret
      exact ⟨rfl, rfl⟩
theorem containsFunc (s : Option Addr) (len cap : Nat) (T : List Int) (p m : Nat) (w : World) (hE : Elems w s len T) (hc : w.cell? ⟨p, 0, none⟩ = some (.map (some m))) (hm : Tm w m) (hg : ∀ i, i < len → KT T i ≠ 0) :
    Calls Tryd.prog 31 #[.slice s len cap, .func (.func 32) #[] #[.pointer (some ⟨p, 0, none⟩)]] w fun e w' => e = .returned (.bool false) ∧ w' = w := by
  go_enter Tryd.func31, Tryd.ntmps31
  go_wp2_with (go_at_call 39; refine (indexFunc s len cap T p m w hE hc hm hg).mono ?_; rintro e w2 ⟨rfl, h2⟩; rw [h2]; clear h2 w2)
  go_ret
  exact ⟨rfl, rfl⟩
/-- Bits: how many a frame has whose Payload is values of these types. -/
theorem bits14 (s : Option Addr) (len cap : Nat) (T : List Int) (w : World) (hE : Elems w s len T) :
    Calls Tryd.prog 16 #[.slice s len cap] w fun e w' => e = .returned (.int .i64 ((8 * (13 + (tot (KT T) len + 7) / 8) : Nat) : Int)) ∧ Below w.heap.size w w' := by
  have hlm := hE.2.1
  have hle := tot_le (KT T) (KT_le T) len
  obtain ⟨n, hn⟩ : ∃ n, tot (KT T) len = n := ⟨_, rfl⟩
  have Hn : Hid (tot (KT T) len = n) := hn
  rw [hn] at hle ⊢
  clear hn
  obtain ⟨q, hq⟩ : ∃ q, (n + 7) / 8 = q := ⟨_, rfl⟩
  have hq8 : q ≤ 100000000 := by omega
  have Hq : Hid ((n + 7) / 8 = q) := hq
  rw [hq]
  clear hq
  go_enter Tryd.func16, Tryd.ntmps16
  go_wp2_with (first
    | (go_at_call 28; refine (typeBits w).mono ?_; rintro e w1 ⟨m, rfl, hm1, hm2, hb1⟩)
    | (go_at_call 33; refine (allBits s len cap T m w1 (hE.below hb1) hm1).mono ?_; rintro e w2 ⟨rfl, h2⟩; rw [h2, Hn.out]; clear h2 w2)
    | (go_at_call 30; refine (wholeBytes n w1 (by omega)).mono ?_; rintro e w2 ⟨rfl, h2⟩; rw [h2, Hq.out]; clear h2 w2))
  go_ret
  refine ⟨?_, hb1⟩
  show Ending.returned (.int .i64 _) = _
  congr 2
  omega
/-- Values in memory: their types, their numbers. -/
def Vals (w : World) (a : Option Addr) (len : Nat) (T : Nat → Nat) (Z : Nat → Int) : Prop :=
  len ≤ 1048576 ∧ (∀ i, i < len → T i < 256) ∧ (len = 0 ∨ ∃ b o, a = some ⟨b, o, none⟩ ∧ ∀ i, i < len → w.cell? ⟨b, o + i * 2, none⟩ = some (.int .u8 (T i : Int)) ∧ w.cell? ⟨b, o + i * 2 + 1, none⟩ = some (.int .i64 (Z i)))
theorem Vals.below {w w' : World} {a : Option Addr} {len : Nat} {T : Nat → Nat} {Z : Nat → Int} (h : Vals w a len T Z) (hb : Below w.heap.size w w') : Vals w' a len T Z := by
  refine ⟨h.1, h.2.1, h.2.2.imp id ?_⟩
  rintro ⟨b, o, ha, hc⟩
  exact ⟨b, o, ha, fun i hi => ⟨(hb.cell (World.block_lt_of_cell? w _ (hc i hi).1)).trans (hc i hi).1, (hb.cell (World.block_lt_of_cell? w _ (hc i hi).2)).trans (hc i hi).2⟩⟩
/-- Payload, of values that may be. -/
theorem payload (s : Option Addr) (len cap : Nat) (T : Nat → Nat) (Z : Nat → Int) (w : World) (hV : Vals w s len T Z) (hg : ∀ i, i < len → 0 < wide (T i) ∧ un (Z i) < 2 ^ wide (T i)) (hl : (tot (fun i => wide (T i)) len + 7) / 8 ≤ 4095) (hlen : len ≤ 100000) :
    Calls Tryd.prog 13 #[.slice s len cap] w fun e w' => ∃ g, e = .returned (.tuple #[.slice (some ⟨g, 0, none⟩) ((tot (fun i => wide (T i)) len + 7) / 8) ((tot (fun i => wide (T i)) len + 7) / 8), .int .i64 0]) ∧ Blk w' g (pack (upTo (fun i => wide (T i)) (fun i => un (Z i)) len)) ∧ w.heap.size ≤ g ∧ Below w.heap.size w w' := by
  obtain ⟨K, hK⟩ : ∃ K : Nat → Nat, (fun i => wide (T i)) = K := ⟨_, rfl⟩
  obtain ⟨N, hN⟩ : ∃ N : Nat → Nat, (fun i => un (Z i)) = N := ⟨_, rfl⟩
  have hK64 : ∀ i, K i ≤ 64 := fun i => by rw [← hK]; exact wide_le _
  have HK : Hid (∀ i, wide (T i) = K i) := fun i => by rw [← hK]
  have HN : Hid (∀ i, un (Z i) = N i) := fun i => by rw [← hN]
  rw [hK] at hl ⊢
  rw [hN]
  clear hK hN
  obtain ⟨q, hq⟩ : ∃ q, (tot K len + 7) / 8 = q := ⟨_, rfl⟩
  have Hq : Hid ((tot K len + 7) / 8 = q) := hq
  rw [hq] at hl ⊢
  clear hq
  have hq' : (q : Int) ≤ 4095 := by omega
  go_enter Tryd.func13, Tryd.ntmps13
  go_wp2_with (go_at_call 28; refine (typeBits w).mono ?_; rintro e w1 ⟨m, rfl, hm1, hm2, hb1⟩)
  go_loopw [5, 14] (fun t i wr => ∃ j : Nat, j ≤ len ∧ i = .int .i64 j ∧ t = .int .i64 (tot K j : Int) ∧ Below w1.heap.size w1 wr) (fun _ i _ => len - (intOf i).toNat)
  case atStart => exact ⟨0, Nat.zero_le _, rfl, rfl, Below.refl _ _⟩
  case round =>
    obtain ⟨j, hj, rfl, rfl, hb⟩ := hrel
    by_cases hlt : j < len
    · obtain ⟨b, o, rfl, hc⟩ := ((hV.below hb1).below hb).2.2.resolve_left (by omega)
      obtain ⟨hc1, hc2⟩ := hc j hlt
      have htj := hV.2.1 j hlt
      have hgj := hg j hlt
      have hlook : ∀ W, Tm W m → (Instr.lookup 68 (.map (some m)) (.int .u8 (T j : Int)) false).run Tryd.prog W = .ok (.int .i64 (K j : Int)) W := fun W h => by rw [← HK.out]; exact h.look _ htj
      have hle := tot_le K hK64 j
      have hk64 := hK64 j
      rw [HK.out] at hgj
      have HS : Hid (tot K (j + 1) = tot K j + K j) := rfl
      generalize K j = k at hlook hgj HS hk64
      generalize tot K j = t at hle HS
      generalize T j = y at hc1 htj hlook
      generalize Z j = z at hc2 hgj
      have hlt' : (j : Int) < (len : Int) := by omega
      have hj0 : (0 : Int) ≤ (j : Int) := by omega
      clear hc
      have hmr : Tm wr m := hm1.below hb
      have hl1 := hlook (wr.alloc (.cells #[.int .u8 (y : Int), .int .i64 z] 45)) (hmr.below (below_alloc _ _))
      go_wp2_with (go_at_call 29; refine (fits_ok y z k _ hgj.1 hk64 hgj.2).mono ?_; rintro e w3 ⟨rfl, hk3⟩; have hk3' := bstep (below_alloc wr _) hk3; have hl3 := hlook w3 (hmr.below hk3'); have hb3 := bstep hb hk3'; have hc3 : w3.cell? ⟨wr.heap.size, 0, none⟩ = some (.int .u8 (y : Int)) := (hk3.cell (p := ⟨wr.heap.size, 0, none⟩) (by simp)).trans (by simp))
      go_roundw
      case rel => exact ⟨j + 1, by omega, by go_num, by rw [HS.out]; go_num, hb3⟩
      case measure => simp [intOf]; omega
    · have hjl : len = j := by omega
      subst hjl
      have hle := tot_le K hK64 len
      have HT : Hid (∀ j, (upTo K N j).length = tot K j) := fun j => upTo_len K N j
      have Hmono : Hid (∀ j, j ≤ len → tot K j ≤ tot K len) := fun j h => tot_mono K h
      have HL : Hid ((pack (upTo K N len)).length = q) := by show _ = _; rw [pack_length, HT.out, Hq.out]
      generalize htl : tot K len = tl at hle Hq Hmono
      clear htl
      go_wp2_with (first
        | (go_at_call 30; refine (wholeBytes tl wr (by omega)).mono ?_; rintro e w2 ⟨rfl, h2⟩; rw [h2, Hq.out]; clear h2 w2)
        | (go_at_call 22; refine (new_b wr wr (Below.refl _ _)).mono ?_; rintro e w2 ⟨pa, pr, rfl, hpa, hP2, hb2⟩))
      go_loopw [38] (fun i w3 => ∃ (j : Nat) (v : Value), j ≤ len ∧ i = .int .i64 j ∧ Pen wr.heap.size w3 pa pr v (upTo K N j) ∧ Below wr.heap.size wr w3) (fun i _ => len - (intOf i).toNat)
      case atStart => exact ⟨0, _, Nat.zero_le _, rfl, hP2, hb2⟩
      case round =>
        clear hP2 hb2
        obtain ⟨j, v, hj, rfl, hP, hb9⟩ := hrel
        by_cases hlt : j < len
        · obtain ⟨b, o, rfl, hc⟩ := (((hV.below hb1).below hb).below hb9).2.2.resolve_left (by omega)
          obtain ⟨hc1, hc2⟩ := hc j hlt
          have htj := hV.2.1 j hlt
          have hgj := hg j hlt
          have hlook : ∀ W, Tm W m → (Instr.lookup 68 (.map (some m)) (.int .u8 (T j : Int)) false).run Tryd.prog W = .ok (.int .i64 (K j : Int)) W := fun W h => by rw [← HK.out]; exact h.look _ htj
          have hk64 := hK64 j
          have hun := un_wrap (Z j)
          rw [HK.out, HN.out] at hgj
          rw [HN.out] at hun
          have hup : Hid (upTo K N (j + 1) = upTo K N j ++ bitsOf (N j) (K j)) := rfl
          have hln := Hmono.out j hj
          rw [← HT.out j] at hln
          generalize upTo K N j = L at hP hup hln
          generalize K j = k at hlook hgj hk64 hup
          generalize N j = n at hun hgj hup
          generalize T j = y at hc1 htj hlook
          generalize Z j = z at hc2 hun
          have hlt' : (j : Int) < (len : Int) := by omega
          have hj0 : (0 : Int) ≤ (j : Int) := by omega
          have hmr : Tm wr m := (hm1.below hb).below hb9
          have hl1 := hlook (wr.alloc (.cells #[.int .u8 (y : Int), .int .i64 z] 45)) (hmr.below (below_alloc _ _))
          clear hc
          go_wp2_with (go_at_call 23; refine (put_a _ pa pr v L n k (wr.alloc (.cells #[.int .u8 (y : Int), .int .i64 z] 45)) (bstep hb9 (below_alloc wr _)) (hP.kept (below_alloc wr _)) hk64 hgj.2 (by omega)).mono ?_; rintro e w4 ⟨rfl, v4, hP4, hb4⟩)
          go_roundw
          case rel => exact ⟨j + 1, v4, by omega, by go_num, by rw [hup.out]; exact hP4, hb4⟩
          case measure => simp [intOf]; omega
        · have hjl : len = j := by omega
          subst hjl
          have hln := HT.out len
          have hb0 : Below w.heap.size w wr := bstep (bstep hb1 hb) hb9
          have hP0 := hP.mono (Nat.le_trans hb1.size hb.size)
          have hln2 : (upTo K N len).length ≤ 8388608 := by have h := HL.out; rw [pack_length] at h; omega
          obtain ⟨By, hBy⟩ : ∃ By, pack (upTo K N len) = By := ⟨_, rfl⟩
          have HBy : Hid (pack (upTo K N len) = By) := hBy
          rw [hBy] at HL
          clear hBy
          obtain ⟨L, hL⟩ : ∃ L, upTo K N len = L := ⟨_, rfl⟩
          have HUL : Hid (upTo K N len = L) := hL
          rw [hL] at hP0 hln2 HBy
          clear hL hP hln
          go_wp2_with (go_at_call 24; refine (bytes_b w pa pr v L wr hb0 hP0 hln2 By HBy.out q HL.out).mono ?_; rintro e w5 ⟨g5, rfl, hB5, hg5, hE5, hk5, hb5⟩)
          refine bodyPost_ret (results_tmp2 rfl _ _ _) rfl ?_
          exact ⟨g5, rfl, by rw [HUL.out, HBy.out]; exact hB5, hg5, hb5⟩
end Go.Proofs.YtmbkdalmnfcbfabDoor.Bits
