/-
  The statement BitsBack of this seat is proved: for every list of numbers of 64 bits and every list as long of how many bits each is put in, what is put is got, from where it was put, the bytes are as many as the bits need, and the rest of the last byte is nought; where there are more than 200 numbers, or the lists are not of one length, the law asks nothing of them.
  Conditions: none beside those that the given row prints.
-/
import Derived.Test.YtcaappheoekijaaAcc
import Derived.WalkKit
import Derived.ProofKit
import Derived.OpenShut
import Derived.ShutString
import Derived.ChangeOld
import Derived.Below
import Derived.SizedLaws
namespace Go.Proofs.Ytcaappheoekijaa.Bits
open Go.ChangeShapes Go.WideShapes Go.ChangeAt Go.RowKit
/-- The bits of the first numbers, each in so many bits. -/
def upTo (K N : Nat → Nat) : Nat → List Bool
  | 0 => []
  | j + 1 => upTo K N j ++ bitsOf (N j) (K j)
theorem upTo_prefix (K N : Nat → Nat) (j n : Nat) (h : j ≤ n) : ∃ rest, upTo K N n = upTo K N j ++ rest := by
  induction n with
  | zero => exact ⟨[], by rw [show j = 0 by omega]; rfl⟩
  | succ n ih =>
    by_cases e : j = n + 1
    · exact ⟨[], by rw [e, List.append_nil]⟩
    · obtain ⟨r, hr⟩ := ih (by omega)
      exact ⟨r ++ bitsOf (N n) (K n), by rw [upTo, hr, List.append_assoc]⟩
theorem upTo_length (K N : Nat → Nat) (hK : ∀ i, K i ≤ 64) (j : Nat) : (upTo K N j).length ≤ 64 * j := by
  induction j with
  | zero => simp [upTo]
  | succ j ih =>
    have := hK j
    rw [upTo, List.length_append, bitsOf_length]
    omega
theorem upTo_part (K N : Nat → Nat) (j n : Nat) (h : j < n) : part (pack (upTo K N n)) (upTo K N j).length (K j) = bitsOf (N j) (K j) := by
  obtain ⟨r, hr⟩ := upTo_prefix K N (j + 1) n h
  rw [hr, upTo]
  have := part_pack (upTo K N j) (bitsOf (N j) (K j)) r
  rw [bitsOf_length] at this
  exact this
theorem upTo_le (K N : Nat → Nat) (j n : Nat) (h : j < n) : (upTo K N j).length + K j ≤ (upTo K N n).length := by
  obtain ⟨r, hr⟩ := upTo_prefix K N (j + 1) n h
  rw [hr, upTo]
  simp [bitsOf_length]
theorem part_end (L : List Bool) (k : Nat) : val (part (pack L) L.length k) = 0 := by
  have h : ∀ k, part (pack L) L.length k = List.replicate k false := fun k => by
    apply List.ext_getElem
    · rw [part_length, List.length_replicate]
    · intro i h1 h2
      simp only [part, List.getElem_map, List.getElem_range, bitAt_pack, List.getElem_replicate]
      rw [List.getD_eq_getElem?_getD, List.getElem?_eq_none (by omega)]
      rfl
  rw [h]
  clear h
  induction k with
  | zero => rfl
  | succ k ih => rw [List.replicate_succ', val_snoc, ih]; rfl
/-- A slice of numbers of 64 bits that came in. -/
def CameQ (w : World) (a : Option Addr) (len : Nat) (q : List Nat) : Prop :=
  q.length = len ∧ len ≤ 140737488351232 ∧ (∀ i, i < len → q.getD i 0 < 2 ^ 64) ∧ (len = 0 ∨ ∃ b o, a = some ⟨b, o, none⟩ ∧ ∀ i, i < len → w.cell? ⟨b, o + i, none⟩ = some (.int .u64 (q.getD i 0 : Int)))
theorem CameQ.below {w w' : World} {a : Option Addr} {len : Nat} {l : List Nat} (h : CameQ w a len l) (hb : Below w.heap.size w w') : CameQ w' a len l := by
  obtain ⟨h1, h2, h3, h4⟩ := h
  refine ⟨h1, h2, h3, ?_⟩
  rcases h4 with h4 | ⟨b, o, ha, hc⟩
  · exact .inl h4
  · exact .inr ⟨b, o, ha, fun i hi => by rw [hb.cell (World.block_lt_of_cell? w _ (hc i hi))]; exact hc i hi⟩
theorem quad_wf {n : Int} (h : (Lit.int .u64 n).wf = true) : 0 ≤ n ∧ n < 2 ^ 64 := by
  simp [Lit.wf, IntKind.min, IntKind.max, IntKind.signed, IntKind.bits] at h
  omega
theorem cells25 : Try.prog.cellsOf 25 = 1 := by kernel_rfl
theorem bytesOf25 : Try.prog.bytesOf 25 = 8 := by kernel_rfl
theorem toNat_getD (l : List Int) (i : Nat) : (l.map Int.toNat).getD i 0 = (l.getD i 0).toNat := by
  rw [List.getD_eq_getElem?_getD, List.getD_eq_getElem?_getD, List.getElem?_map]
  cases l[i]? <;> rfl
/-- An argument of type []uint64, opened once. -/
theorem viewq {H : Type} {enc : TypeId × Value → H} {W : World} {a0 : Option Addr} {len cap : Nat} {d : DataW H} {p : List MemPlace} {ts : List TypeId} {ds : List (DataW H)} {j : Nat}
    (hd : DataW.Trod enc Try.prog W 0 (fun _ => true) true 31 (.slice a0 len cap) d p)
    (hsz : (DataW.weightsEach Try.prog ts ds).all (· ≤ reachBytes) = true) (ht : ts[j]? = some 31) (hj : ds[j]? = some d) : ∃ l, CameQ W a0 len l := by
  obtain ⟨fuel, hf⟩ := hd
  rcases open_ints Try.underlying31 Try.underlying25 cells25 hf with ⟨hcs, hx⟩ | ⟨a, len', cap', zs, hcs, _, hl, hm, hz, hx, hcell, hwz⟩
  · simp [Value.cells] at hcs
    obtain ⟨rfl, rfl, rfl⟩ := hcs
    exact ⟨[], rfl, by omega, fun i hi => by omega, .inl rfl⟩
  · simp [Value.cells] at hcs
    obtain ⟨rfl, rfl, rfl⟩ := hcs
    simp only [Prod.mk.injEq] at hx
    obtain ⟨rfl, _⟩ := hx
    simp only [if_true] at hz
    have hr := sized_slice hsz ht hj Try.underlying31
    rw [bytesOf25] at hr
    simp only [lits, List.length_map, List.length_take, List.length_drop, reachBytes] at hr
    have hg : ∀ i, i < len → (zs.take len).getD i 0 = zs.getD i 0 := fun i hi => by simp [List.getD, hi]
    have hw : ∀ i, i < len → 0 ≤ zs.getD i 0 ∧ zs.getD i 0 < 2 ^ 64 := fun i hi => quad_wf (hwz _ (getD_mem zs i (by omega)))
    refine ⟨(zs.take len).map Int.toNat, by simp; omega, by omega, fun i hi => ?_, ?_⟩
    · rw [toNat_getD, hg i hi]
      have := hw i hi
      omega
    · by_cases h0 : len = 0
      · exact .inl h0
      · obtain ⟨b, o, sp⟩ := a
        have hsp : sp = none := by simpa [Addr.add] using World.cell?_spot (hcell 0 (by omega))
        subst hsp
        refine .inr ⟨b, o, rfl, fun i hi => ?_⟩
        rw [toNat_getD, hg i hi, ← Addr.add_mid, Int.toNat_of_nonneg (hw i hi).1]
        exact hcell i (by omega)
theorem get_ok_c (s : Option Addr) (len cap : Nat) (B : List Int) (at_ k : Nat) (w : World) (hE : Elems w s len B) (hk : k ≤ 64) (hr : at_ + k ≤ 8 * len) (i j : Int) (hi : i = at_) (hj : j = k) :
    Calls Try.prog 10 #[.slice s len cap, .int .i64 i, .int .i64 j] w fun e w' => e = .returned (.tuple #[.int .u64 (val (part B at_ k) : Int), .int .i64 0]) ∧ Below w.heap.size w w' := by
  subst hi hj
  exact get_ok s len cap B at_ k w hE hk hr
theorem bytes_a (w0 : World) (a r : Nat) (v : Value) (L : List Bool) (w : World) (hb : Below w0.heap.size w0 w) (hP : Pen w0.heap.size w a r v L) (hL : L.length ≤ 8388608) :
    Calls Try.prog 17 #[.pointer (some ⟨a, 0, none⟩)] w fun e w' => ∃ g, e = .returned (.slice (some ⟨g, 0, none⟩) (pack L).length (pack L).length) ∧ Elems w' (some ⟨g, 0, none⟩) (pack L).length (pack L) ∧ Below w.heap.size w w' ∧ Below w0.heap.size w0 w' :=
  (bytes a r v L w hP.wr (by omega)).mono fun e w' h => ⟨_, h.1, h.2.1.elems (pack_bytes L) (by rw [pack_length]; omega), h.2.2, bstep hb h.2.2⟩
set_option maxHeartbeats 1000000 in
theorem walk4_in (a0 : Option Addr) (len0 cap0 : Nat) (q : List Nat) (a1 : Option Addr) (cap1 : Nat) (l : List Int) (w : World) (h0 : CameQ w a0 len0 q) (h1 : Came w a1 len0 l) (hlen : len0 ≤ 200) :
    Calls Try.prog 4 #[.slice a0 len0 cap0, .slice a1 len0 cap1] w fun e w' => e = .returned (.bool true) ∧ Below w.heap.size w w' := by
  have hb0 := Below.refl w.heap.size w
  have hne : ((len0 : Int) != (len0 : Int)) = false := by simp
  have hle : (len0 : Int) ≤ 200 := by omega
  obtain ⟨K, hK⟩ : ∃ K : Nat → Nat, K = fun i => (l.getD i 0).toNat % 65 := ⟨_, rfl⟩
  obtain ⟨N, hN⟩ : ∃ N : Nat → Nat, N = fun i => q.getD i 0 % 2 ^ K i := ⟨_, rfl⟩
  have hK64 : ∀ i, K i ≤ 64 := fun i => by rw [hK]; show _ % 65 ≤ 64; omega
  have HK : Hid (∀ i, K i = (l.getD i 0).toNat % 65) := fun i => by rw [hK]
  have HN : Hid (∀ i, N i = q.getD i 0 % 2 ^ K i) := fun i => by rw [hN]
  clear hK hN
  go_enter Try.func4, Try.ntmps4
  go_wp2_with (first
    | (go_at_call 13; refine (alive_a w w hb0).mono ?_; rintro e w1 ⟨rfl, hk1, hb1⟩)
    | (go_at_call 14; refine (new_a w w1 hb1).mono ?_; rintro e w2 ⟨a, r, rfl, hP2, hb2⟩))
  go_loopw [6] (fun i wr => ∃ (j : Nat) (v : Value), j ≤ len0 ∧ i = .int .i64 j ∧ Pen w.heap.size wr a r v (upTo K N j) ∧ Below w.heap.size w wr) (fun i _ => len0 - (intOf i).toNat)
  case atStart => exact ⟨0, _, Nat.zero_le _, rfl, hP2, hb2⟩
  case round =>
    obtain ⟨j, v, hj, rfl, hP, hb⟩ := hrel
    by_cases hlt : j < len0
    · obtain ⟨b, o, rfl, hcq⟩ := (h0.below hb).2.2.2.resolve_left (by omega)
      obtain ⟨b1, o1, rfl, hcl⟩ := (h1.below hb).2.2.2.resolve_left (by omega)
      have hq1 := hcq j hlt
      have hl1 := hcl j hlt
      have hqb := h0.2.2.1 j hlt
      have hlb := h1.2.2.1 j hlt
      have hup : upTo K N (j + 1) = upTo K N j ++ bitsOf (N j) (K j) := rfl
      have hln := upTo_length K N hK64 j
      have hkj := hK64 j
      have hNj := HN.out j
      obtain ⟨c, hc⟩ : ∃ c : Nat, l.getD j 0 = c := ⟨(l.getD j 0).toNat, by omega⟩
      have hkk : (c : Int) % 65 = (K j : Int) := by rw [HK.out, hc]; omega
      rw [hc] at hl1 hlb
      rw [hNj] at hup
      clear hcq hcl hNj hc
      generalize q.getD j 0 = n at hq1 hqb hup
      generalize K j = k at hkj hkk hup
      have hlt' : (j : Int) < (len0 : Int) := by omega
      have hc256 : c < 256 := by omega
      have hup' : Hid (upTo K N (j + 1) = upTo K N j ++ bitsOf (n % 2 ^ k) k) := hup
      clear hup
      generalize upTo K N j = L at hP hln hup'
      have hk64 : (k : Int) ≤ 64 := by omega
      go_wp2_with (first
        | (go_at_call 16; refine (low n k wr hqb).mono ?_; rintro e w3 ⟨rfl, h3⟩; rw [h3]; clear h3 w3)
        | (go_at_call 15; refine (put_a w a r v L (n % 2 ^ k) k wr hb hP hkj (Nat.mod_lt _ (Nat.two_pow_pos k)) (by omega)).mono ?_; rintro e w4 ⟨rfl, v4, hP4, hb4⟩))
      go_roundw
      case rel => exact ⟨j + 1, v4, by omega, by go_num, by rw [hup'.out]; exact hP4, hb4⟩
      case measure => simp [intOf]; omega
    · have hjl : len0 = j := by omega
      subst hjl
      have hln := upTo_length K N hK64 len0
      go_wp2_with (go_at_call 17; refine (bytes_a w a r v _ wr hb hP (by omega)).mono ?_; rintro e w5 ⟨g, rfl, hE5, hk5, hb5⟩; have hP5 := hP.kept hk5)
      have hpl := pack_length (upTo K N len0)
      have F1 : Hid (∀ i, i < len0 → part (pack (upTo K N len0)) (upTo K N i).length (K i) = bitsOf (N i) (K i)) := fun i hi => upTo_part K N i len0 hi
      have F2 : Hid (∀ k, val (part (pack (upTo K N len0)) (upTo K N len0).length k) = 0) := part_end _
      have F3 : Hid (∀ i, i < len0 → (upTo K N i).length + K i ≤ (upTo K N len0).length) := fun i hi => upTo_le K N i len0 hi
      generalize pack (upTo K N len0) = Bs at hE5 hpl F1 F2
      have HM : Hid (Bs.length = ((upTo K N len0).length + 7) / 8) := hpl
      generalize Bs.length = M at hE5 hpl HM
      clear hP hk5 hpl
      go_loopw [9, 10] (fun t i w3 => ∃ j : Nat, j ≤ len0 ∧ i = .int .i64 j ∧ t = .int .i64 ((upTo K N j).length : Int) ∧ Elems w3 (some ⟨g, 0, none⟩) M Bs ∧ Pen w.heap.size w3 a r v (upTo K N len0) ∧ Below w.heap.size w w3) (fun _ i _ => len0 - (intOf i).toNat)
      case atStart => exact ⟨0, Nat.zero_le _, rfl, rfl, hE5, hP5, hb5⟩
      case round =>
        clear hE5 hP5 hb hb5
        obtain ⟨j, hj, rfl, rfl, hE, hP, hb⟩ := hrel
        by_cases hlt : j < len0
        · obtain ⟨b, o, rfl, hcq⟩ := (h0.below hb).2.2.2.resolve_left (by omega)
          obtain ⟨b1, o1, rfl, hcl⟩ := (h1.below hb).2.2.2.resolve_left (by omega)
          have hq1 := hcq j hlt
          have hl1 := hcl j hlt
          have hqb := h0.2.2.1 j hlt
          have hlb := h1.2.2.1 j hlt
          have hln1 := upTo_length K N hK64 j
          have hkj := hK64 j
          have hNj := HN.out j
          have hv : val (part Bs (upTo K N j).length (K j)) = q.getD j 0 % 2 ^ K j := by rw [F1.out j hlt, val_bitsOf, hNj, Nat.mod_mod]
          have hr := F3.out j hlt
          have hM := HM.out
          have HS : Hid ((upTo K N (j + 1)).length = (upTo K N j).length + K j) := by show _ = _; rw [upTo, List.length_append, bitsOf_length]
          obtain ⟨c, hc⟩ : ∃ c : Nat, l.getD j 0 = c := ⟨(l.getD j 0).toNat, by omega⟩
          have hkk : (c : Int) % 65 = (K j : Int) := by rw [HK.out, hc]; omega
          rw [hc] at hl1 hlb
          clear hcq hcl hNj hc
          generalize q.getD j 0 = n at hq1 hqb hv
          generalize K j = k at hkj hkk hv hr HS
          generalize (upTo K N j).length = t at hv hr HS hln1
          have hr' : t + k ≤ 8 * M := by omega
          have hlt' : (j : Int) < (len0 : Int) := by omega
          have hc256 : c < 256 := by omega
          have hk64 : (k : Int) ≤ 64 := by omega
          have ht : (t : Int) ≤ 12800 := by omega
          clear hr hM
          go_wp2_with (first
            | (go_at_call 16; refine (low n k w6 hqb).mono ?_; rintro e w3 ⟨rfl, h3⟩; rw [h3]; clear h3 w3)
            | (go_at_call 10; refine (get_ok _ M M Bs t k wr hE hkj hr').mono ?_; rintro e w6 ⟨rfl, hk6⟩; rw [hv]; have hq6 := (hk6.cell (World.block_lt_of_cell? wr _ hq1)).trans hq1; have hb6 := bstep hb hk6; have hE6 := hE.below hk6; have hP6 := hP.kept hk6))
          go_roundw
          case rel => exact ⟨j + 1, by omega, by go_num, val_int (by rw [HS.out]; go_num), hE6, hP6, hb6⟩
          case measure => simp [intOf]; omega
        · have hjl : len0 = j := by omega
          subst hjl
          have hM := HM.out
          have hF := F2.out (8 * M - (upTo K N len0).length)
          generalize upTo K N len0 = L at hP hM hF hln
          have hT : Hid True := trivial
          have hl8 : L.length ≤ 8 * M := by omega
          have hq : ((L.length : Int) + 7) / 8 = (M : Int) := by omega
          have hLb : (L.length : Int) ≤ 12800 := by omega
          have hMb : (M : Int) ≤ 2000 := by omega
          have hd : 8 * M - L.length ≤ 64 := by omega
          have hMM : Hid (M = (L.length + 7) / 8) := hM
          clear hM
          go_wp2_with (first
            | (go_at_call 10; refine (get_ok_c _ M M Bs L.length (8 * M - L.length) wr hE hd (by omega) L.length (8 * M - L.length) rfl (by omega)).mono ?_; rintro e w6 ⟨rfl, hk6⟩; rw [hF]; have hP6 := (hP.kept hk6).wr; have hb6 := bstep hb hk6)
            | (go_at_call 18; refine (len a r v L w6 hP6).mono ?_; rintro e w7 ⟨rfl, h7⟩; rw [h7]; clear h7 w7))
          go_ret
          exact ⟨rfl, hb6⟩
theorem walk4 (a0 : Option Addr) (len0 cap0 : Nat) (q : List Nat) (a1 : Option Addr) (len1 cap1 : Nat) (l : List Int) (w : World) (h0 : CameQ w a0 len0 q) (h1 : Came w a1 len1 l) :
    Calls Try.prog 4 #[.slice a0 len0 cap0, .slice a1 len1 cap1] w fun e w' => e = .returned (.bool true) ∧ Below w.heap.size w w' := by
  by_cases hlen : len0 ≤ 200
  · by_cases he : len0 = len1
    · subst he
      exact walk4_in a0 len0 cap0 q a1 cap1 l w h0 h1 hlen
    · have hb0 := Below.refl w.heap.size w
      have p1 : Hid True := trivial
      have hne : ((len1 : Int) != (len0 : Int)) = true := by simp; omega
      have hle : (len0 : Int) ≤ 200 := by omega
      have hB := h1.2.1
      go_enter Try.func4, Try.ntmps4
      go_wp2_with (go_at_call 13; first
        | (clear p1; refine (alive_a w w hb0).mono ?_; rintro e w2 ⟨rfl, hk2, hb2⟩)
        | (refine (alive_a w w2 hb2).mono ?_; rintro e w3 ⟨rfl, hk3, hb3⟩))
      go_ret
      exact ⟨rfl, hb3⟩
  · have hb0 := Below.refl w.heap.size w
    have p1 : Hid True := trivial
    have hle : (200 : Int) < (len0 : Int) := by omega
    go_enter Try.func4, Try.ntmps4
    go_wp2_with (go_at_call 13; first
      | (clear p1; refine (alive_a w w hb0).mono ?_; rintro e w2 ⟨rfl, hk2, hb2⟩)
      | (refine (alive_a w w2 hb2).mono ?_; rintro e w3 ⟨rfl, hk3, hb3⟩))
    go_ret
    exact ⟨rfl, hb3⟩
end Go.Proofs.Ytcaappheoekijaa.Bits
namespace Go.Proofs.Ytcaappheoekijaa
open Go.ChangeShapes Go.WideShapes Go.ChangeAt Go.RowKit
set_option linter.unusedVariables false
set_option maxRecDepth 100000 in
theorem bitsBack_lifted (os : Os) (started : os.Started) (H : Type) (enc : TypeId × Value → H) :
    ReturnsInHanded {} Try.checked os 4 .any (Rows.bitsBackSpec.pre6 enc Try.prog Try.f4 Rows.bitsBackRow.domain false) (Rows.bitsBackSpec.post enc Try.prog Try.f4 false true false false) := by
  refine returnsInHanded_of_change_sized (C := Try.checked) Bits.ownGo started (by kernel_rfl) Try.func4
    (ChangeSpec.witness6 (enc := enc) (C := Try.checked) false ⟨#[], #[.slice none 0 0, .slice none 0 0], []⟩ 8 (by kernel_rfl) (by kernel_rfl) (by kernel_rfl) (by kernel_rfl)) ?_
  intro W base args ds gs before hval0 hW _ hsz0 _
  have hsz : (DataW.weightsEach Try.prog (Try.f4.params.toList ++ Rows.bitsBackSpec.plain.varTypes Try.prog) (ds ++ gs)).all (· ≤ reachBytes) = true := hsz0
  clear hsz0
  have hval : ∀ (j : Nat) t v, Try.f4.params[j]? = some t → args[j]? = some v → Value.okWide Try.prog W .any base t v := hval0
  have hW' := hW
  obtain ⟨p, q, hA0, hV, rfl, hfz, hnd⟩ := hW
  have hA : DataW.TrodAll enc Try.prog W 0 (fun _ => true) true Try.f4.params.toList args.toList ds p := hA0
  rw [Try.params4] at hA hval hsz
  obtain ⟨v0, vs0, d0, ds0, p0, q0, hargs, rfl, rfl, h0, r0⟩ := trodAll_cons hA
  obtain ⟨v1, vs1, d1, ds1, p1, q1, rfl, rfl, rfl, h1, r1⟩ := trodAll_cons r0
  obtain ⟨rfl, rfl, rfl⟩ := trodAll_nil r1
  obtain rfl : args = #[v0, v1] := by cases args; simp_all
  obtain ⟨rfl, rfl⟩ := trodVars_none hV
  obtain ⟨a0, len0, cap0, rfl⟩ := okWide_slice Try.underlying31 (hval 0 31 v0 rfl rfl)
  have lt0 : ∀ x ∈ p0, x.block < W.heap.size := by obtain ⟨m, hm⟩ := h0; exact DataW.trod_lt m _ _ _ hm
  obtain ⟨l0, c0⟩ := Bits.viewq h0 hsz (j := 0) rfl rfl
  obtain ⟨a1, len1, cap1, rfl⟩ := okWide_slice Try.underlying22 (hval 1 22 v1 rfl rfl)
  have lt1 : ∀ x ∈ p1, x.block < W.heap.size := by obtain ⟨m, hm⟩ := h1; exact DataW.trod_lt m _ _ _ hm
  obtain ⟨l1, c1⟩ := Bits.view h1 hsz (j := 1) rfl rfl
  clear hA0 hval0
  refine (Bits.walk4 a0 len0 cap0 l0 a1 len1 cap1 l1 W c0 c1).mono fun e W' ⟨he, bel⟩ => ?_
  subst he
  exact ⟨_, rfl, _, _, _, [], _, [], hW', trodAll_mk1 (shut_bool Try.underlying4 _), (trodAll_cons_mk (Below.trod Bits.laidOut (by kernel_rfl) (of_decide_eq_true (by kernel_rfl)) h0 bel lt0) (trodAll_cons_mk (Below.trod Bits.laidOut (by kernel_rfl) (of_decide_eq_true (by kernel_rfl)) h1 bel lt1) trodAll_mk0)), rfl, bel.frame _, fun h => by cases h⟩

/-- The statement. -/
theorem bitsBack_holds : Rows.BitsBackSaid :=
  OpenClaim.holds_of_wide 4 Try.f4 rfl rfl rfl rfl rfl rfl rfl ⟨rfl, rfl, rfl, rfl, rfl⟩ rfl rfl rfl rfl rfl (by kernel_rfl) Try.func4 (by kernel_rfl)
    (of_decide_eq_true (by kernel_rfl)) (by unfold Func.isWrapper; first | (rw [if_pos (by decide +kernel)]; kernel_rfl) | (rw [if_neg (by decide +kernel)]; exact ⟨rfl, rfl⟩))
    (fun os started H enc _ => bitsBack_lifted os started H enc)
#print axioms bitsBack_holds
end Go.Proofs.Ytcaappheoekijaa
