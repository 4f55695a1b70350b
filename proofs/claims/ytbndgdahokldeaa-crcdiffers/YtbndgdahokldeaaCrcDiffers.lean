/-
  The statement CrcDiffers of this seat is proved: of every two lists of bytes, cut to the shortest of three lengths, the sums differ likewise where the same third list is taken against both; where all three together are longer than 1048576 bytes the law itself asks nothing.
  Conditions: none beside those that the given row prints.
-/
import Derived.Test.YtbndgdahokldeaaJoin
import Derived.Test.YtbndgdahokldeaaAlike
import Derived.Deep.RegionHeld3
import Derived.WalkKit
import Derived.ProofKit
import Derived.OpenShut
import Derived.ShutString
import Derived.ChangeOld
import Derived.Below
import Derived.SizedLaws
namespace Go.Proofs.Ytbndgdahokldeaa.Crc
open Go.ChangeShapes Go.WideShapes Go.ChangeAt Go.RowKit
theorem three_size (n m k : Nat) (hn : n ≤ 140737488351232) (hm : m ≤ 140737488351232) (hk : k ≤ 140737488351232) : ∀ x ∈ [(n : Int), (m : Int), (k : Int)], 0 ≤ x ∧ x ≤ 140737488355328 := by simp; omega
theorem three_cell (w : World) (n m k : Nat) : ∀ i, i < 3 → (w.alloc (.cells #[.int .i64 (n : Int), .int .i64 (m : Int), .int .i64 (k : Int)] 3)).cell? ⟨w.heap.size, 0 + i, none⟩ = some (.int .i64 ([(n : Int), (m : Int), (k : Int)].getD i 0)) := by
  intro i hi
  match i, hi with
  | 0, _ => simp
  | 1, _ => simp
  | 2, _ => simp
/-- The first ones of a list. -/
theorem Elems.take {w : World} {a : Option Addr} {len : Nat} {l : List Int} (h : Elems w a len l) (n : Nat) (hn : n ≤ len) : Elems w a n (l.take n) := by
  obtain ⟨h1, h2, h3, h4⟩ := h
  have hg : ∀ i, i < n → (l.take n).getD i 0 = l.getD i 0 := fun i hi => by simp [List.getD, hi]
  refine ⟨by simp; omega, by omega, fun i hi => by rw [hg i hi]; exact h3 i (by omega), ?_⟩
  rcases h4 with h4 | ⟨b, o, ha, hc⟩
  · exact .inl (by omega)
  · exact .inr ⟨b, o, ha, fun i hi => by rw [hg i hi]; exact hc i (by omega)⟩
/-- What has been changed so far. -/
def mix (l d : List Int) (k j : Nat) : Int := if j < k then bits .xor .u8 (l.getD j 0) (d.getD j 0) else l.getD j 0
/-- The first n cells of block g hold these numbers and may be written. -/
structure Part (w : World) (g n : Nat) (f : Nat → Int) : Prop where
  cells : ∀ j, j < n → w.cell? ⟨g, j, none⟩ = some (.int .u8 (f j))
  free : ∀ j, j < n → w.frozen? ⟨g, j, none⟩ = false
theorem Copy.part {w : World} {g n : Nat} {l : List Int} (h : Copy w g n l) (d : List Int) : Part w g n (mix l d 0) :=
  ⟨fun j hj => by rw [h.cells j hj]; simp [mix], fun j hj => h.free j (by omega)⟩
theorem mix_self (l d : List Int) (k : Nat) : mix l d k k = l.getD k 0 := by simp [mix]
theorem mix_succ (l d : List Int) (k j : Nat) : mix l d (k + 1) j = if j = k then bits .xor .u8 (l.getD k 0) (d.getD k 0) else mix l d k j := by
  unfold mix
  by_cases h : j = k
  · subst h; simp
  · by_cases h2 : j < k
    · simp [h, h2, show j < k + 1 by omega]
    · simp [h, h2, show ¬ j < k + 1 by omega]
theorem Part.step {w : World} {g n k : Nat} {l d : List Int} (h : Part w g n (mix l d k)) (hk : k < n) {v : Int} (hv : mix l d (k + 1) k = v) : Part (w.setCell ⟨g, k, none⟩ (.int .u8 v)) g n (mix l d (k + 1)) := by
  refine ⟨fun j hj => ?_, fun j hj => ?_⟩
  · by_cases e : j = k
    · subst e
      rw [World.cell?_setCell_same _ _ _ (h.cells j hj), hv]
    · rw [World.cell?_setCell_other _ _ _ _ (by simp), h.cells j hj, mix_succ, if_neg e]
  · rw [World.frozen?_setCell]; exact h.free j hj
theorem Part.other {w : World} {g n : Nat} {f : Nat → Int} (h : Part w g n f) (g' k : Nat) (v : Value) (hne : ¬ g' = g) : Part (w.setCell ⟨g', k, none⟩ v) g n f := by
  refine ⟨fun j hj => ?_, fun j hj => ?_⟩
  · rw [World.cell?_setCell_other _ _ _ _ (by simp), h.cells j hj]
  · rw [World.frozen?_setCell]; exact h.free j hj
theorem Part.drew {w : World} {g n : Nat} {f : Nat → Int} (h : Part w g n f) : Part w.drew g n f := ⟨h.cells, h.free⟩
/-- Four lists of one length, told from the world in which the law was called. -/
structure Quad (W w : World) (a0 a1 : Option Addr) (gx gy n : Nat) (L0 L1 X Y : List Int) : Prop where
  bel : Below W.heap.size W w
  e0 : Elems w a0 n L0
  e1 : Elems w a1 n L1
  ex : Elems w (some ⟨gx, 0, none⟩) n X
  ey : Elems w (some ⟨gy, 0, none⟩) n Y
theorem Quad.step {W w w' : World} {a0 a1 : Option Addr} {gx gy n : Nat} {L0 L1 X Y : List Int} (h : Quad W w a0 a1 gx gy n L0 L1 X Y) (k : Below w.heap.size w w') : Quad W w' a0 a1 gx gy n L0 L1 X Y :=
  ⟨bstep h.bel k, h.e0.below k, h.e1.below k, h.ex.below k, h.ey.below k⟩
theorem Quad.drew {W w : World} {a0 a1 : Option Addr} {gx gy n : Nat} {L0 L1 X Y : List Int} (h : Quad W w a0 a1 gx gy n L0 L1 X Y) : Quad W w.drew a0 a1 gx gy n L0 L1 X Y := h.step (Below.refl _ _).drew
theorem quad0 {W w : World} {a0 a1 : Option Addr} {gx gy n : Nat} {L0 L1 X Y : List Int} (_ : Hid True) (h : Quad W w a0 a1 gx gy n L0 L1 X Y) (cap : Nat) :
    Calls Try.prog 11 #[.slice a0 n cap] w fun e w' => e = .returned (.int .u32 ((more 0#32 L0).toNat : Int)) ∧ Quad W w' a0 a1 gx gy n L0 L1 X Y :=
  (w11 a0 n cap L0 w h.e0).mono fun _ _ ⟨h1, h2⟩ => ⟨h1, h.step h2⟩
theorem quad1 {W w : World} {a0 a1 : Option Addr} {gx gy n : Nat} {L0 L1 X Y : List Int} (_ : Hid True) (h : Quad W w a0 a1 gx gy n L0 L1 X Y) (cap : Nat) :
    Calls Try.prog 11 #[.slice a1 n cap] w fun e w' => e = .returned (.int .u32 ((more 0#32 L1).toNat : Int)) ∧ Quad W w' a0 a1 gx gy n L0 L1 X Y :=
  (w11 a1 n cap L1 w h.e1).mono fun _ _ ⟨h1, h2⟩ => ⟨h1, h.step h2⟩
theorem quadx {W w : World} {a0 a1 : Option Addr} {gx gy n : Nat} {L0 L1 X Y : List Int} (_ : Hid True) (h : Quad W w a0 a1 gx gy n L0 L1 X Y) (cap : Nat) :
    Calls Try.prog 11 #[.slice (some ⟨gx, 0, none⟩) n cap] w fun e w' => e = .returned (.int .u32 ((more 0#32 X).toNat : Int)) ∧ Quad W w' a0 a1 gx gy n L0 L1 X Y :=
  (w11 _ n cap X w h.ex).mono fun _ _ ⟨h1, h2⟩ => ⟨h1, h.step h2⟩
theorem quady {W w : World} {a0 a1 : Option Addr} {gx gy n : Nat} {L0 L1 X Y : List Int} (_ : Hid True) (h : Quad W w a0 a1 gx gy n L0 L1 X Y) (cap : Nat) :
    Calls Try.prog 11 #[.slice (some ⟨gy, 0, none⟩) n cap] w fun e w' => e = .returned (.int .u32 ((more 0#32 Y).toNat : Int)) ∧ Quad W w' a0 a1 gx gy n L0 L1 X Y :=
  (w11 _ n cap Y w h.ey).mono fun _ _ ⟨h1, h2⟩ => ⟨h1, h.step h2⟩
/-- The copy, changed all along. -/
theorem Part.elems {w w0 : World} {g n : Nat} {a a2 : Option Addr} {l d : List Int} (h : Part w g n (mix l d n)) (hE : Elems w0 a n l) (hD : Elems w0 a2 n (d.take n)) : Elems w (some ⟨g, 0, none⟩) n (xorL l (d.take n)) := by
  have e1 := hE.1
  have e2 := hD.1
  have hx : ∀ i, i < n → (xorL l (d.take n)).getD i 0 = bits .xor .u8 (l.getD i 0) (d.getD i 0) := fun i hi => by
    rw [xorL_getD l (d.take n) i (by omega) (by omega)]
    congr 1
    simp [List.getD, hi]
  have hd2 : ∀ i, i < n → (d.take n).getD i 0 = d.getD i 0 := fun i hi => by simp [List.getD, hi]
  refine ⟨by rw [xorL_length _ _ (by omega), e1], hE.2.1, fun i hi => ?_, .inr ⟨g, 0, rfl, fun i hi => ?_⟩⟩
  · rw [hx i hi]
    have := hD.2.2.1 i hi
    rw [hd2 i hi] at this
    exact (xor8 _ _ (hE.2.2.1 i hi) this).2
  · rw [Nat.zero_add, h.cells i hi, hx i hi]
    simp [mix, hi]
theorem Elems.byte {w : World} {a : Option Addr} {n : Nat} {l : List Int} (h : Elems w a n l) : Byte l := byte_of_getD fun i hi => h.2.2.1 i (by rw [← h.1]; exact hi)
theorem alike_eq (L0 L1 D : List Int) (n : Nat) (h0 : L0.length = n) (h1 : L1.length = n) (hd : D.length = n) (b0 : Byte L0) (b1 : Byte L1) (bd : Byte D) :
    (bits .xor .u32 ((more 0#32 L0).toNat : Int) ((more 0#32 (xorL L0 D)).toNat : Int) == bits .xor .u32 ((more 0#32 L1).toNat : Int) ((more 0#32 (xorL L1 D)).toNat : Int)) = true := by
  rw [xor32, xor32, more_xor L0 D (by omega) b0 bd, more_xor L1 D (by omega) b1 bd]
  simp
/-- The walk: the Go text of the law returns true and turns nothing that was there. -/
theorem walk6 (a0 : Option Addr) (len0 cap0 : Nat) (l0 : List Int) (a1 : Option Addr) (len1 cap1 : Nat) (l1 : List Int) (a2 : Option Addr) (len2 cap2 : Nat) (l2 : List Int) (w : World) (h0 : Came w a0 len0 l0) (h1 : Came w a1 len1 l1) (h2 : Came w a2 len2 l2)
    (n0 : len0 ≤ cap0) (n1 : len1 ≤ cap1) :
    Calls Try.prog 6 #[.slice a0 len0 cap0, .slice a1 len1 cap1, .slice a2 len2 cap2] w fun e w' => e = .returned (.bool true) ∧ Below w.heap.size w w' := by
  have hx := three_size len0 len1 len2 h0.2.1 h1.2.1 h2.2.1
  have hB := Below.refl w.heap.size w
  by_cases hbig : 1048576 < [(len0 : Int), (len1 : Int), (len2 : Int)].sum
  · go_enter Try.func6, Try.ntmps6
    go_wp2_with (first
      | (go_at_call 16; refine (alive_acc hB).mono ?_; clear hB; rintro e w1 ⟨rfl, hb1⟩; have hb2 := hb1.alloc hb1.size (.cells #[.int .i64 (len0 : Int), .int .i64 (len1 : Int), .int .i64 (len2 : Int)] 3))
      | (go_at_call 9; refine (beyond_yes _ 3 3 _ _ rfl (by omega) hx (three_cell _ _ _ _) hbig).mono ?_; rintro e w' ⟨rfl, rfl⟩)
      | (go_at_call 16; refine (alive_acc hb2).mono ?_; rintro e w3 ⟨rfl, hb3⟩))
    go_ret
    exact ⟨rfl, hb3⟩
  · have HB : [(len0 : Int), (len1 : Int), (len2 : Int)].sum ≤ 1048576 := Int.not_lt.1 hbig
    have hlen : len0 + len1 + len2 ≤ 1048576 := by simp at HB; omega
    clear hbig
    have hE0 := h0.elems (by omega)
    have hE1 := h1.elems (by omega)
    have hE2 := h2.elems (by omega)
    obtain ⟨n, hn0⟩ : ∃ n, n = min len0 (min len1 len2) := ⟨_, rfl⟩
    have hm0 : n ≤ len0 := by omega
    have hm1 : n ≤ len1 := by omega
    have hm2 : n ≤ len2 := by omega
    have hmin : ∀ (ts : Array TypeId) (t : TypeId) (W : World), (Builtin.min_ ts t #[.int .i64 (len0 : Int), .int .i64 (len1 : Int), .int .i64 (len2 : Int)]).run Try.prog W = .ok (.int .i64 (n : Int)) W := by
      intro ts t W
      have e : (if (len2 : Int) < (if (len1 : Int) < (len0 : Int) then (len1 : Int) else (len0 : Int)) then (len2 : Int) else (if (len1 : Int) < (len0 : Int) then (len1 : Int) else (len0 : Int))) = (n : Int) := by
        rw [hn0]; omega
      rw [← e]
      simp [Builtin.min_, Builtin.min2]
    clear hn0
    have hT0 := hE0.take n hm0
    have hT1 := hE1.take n hm1
    have K0 := hT0
    have K1 := hT1
    have K2 := hE2.take n hm2
    go_enter Try.func6, Try.ntmps6
    go_wp2_with (first
      | (go_at_call 16; refine (alive_acc hB).mono ?_; clear hB; rintro e w1 ⟨rfl, hb1⟩; have hb2 := hb1.alloc hb1.size (.cells #[.int .i64 (len0 : Int), .int .i64 (len1 : Int), .int .i64 (len2 : Int)] 3))
      | (go_at_call 9; refine (beyond_no _ 3 3 _ _ rfl (by omega) hx (three_cell _ _ _ _) HB).mono ?_; rintro e w' ⟨rfl, rfl⟩)
      | (go_at_call 10; refine (twin _ _ _ _ _ (w1.heap.size + 1) (by simp) (hT0.below hb2)).mono ?_; clear hT0; rintro e w3 ⟨rfl, hc3, k3⟩; have hb3 := hb2.trans (k3.mono (by have := hb1.size; omega)))
      | (go_at_call 10; refine (twin _ _ _ _ _ w3.heap.size rfl (hT1.below hb3)).mono ?_; clear hT1; rintro e w4 ⟨rfl, hc4, k4⟩; have hb4 := bstep hb3 k4; have hc34 := hc3.below k4 (Nat.le_refl _)))
    have hgx : w.heap.size ≤ w1.heap.size + 1 := by have := hb1.size; omega
    have hxy : w1.heap.size + 1 < w3.heap.size := World.block_lt_of_cell? w3 _ hc3.mark
    have hp0 := hc34.part l2
    have hp1 := hc4.part l2
    clear hc34 hc4 hc3 k4 k3
    generalize w1.heap.size + 1 = gx at hgx hxy hp0 ⊢
    generalize w3.heap.size = gy at hxy hp1 ⊢
    generalize l0.take n = L0 at hp0 K0
    generalize l1.take n = L1 at hp1 K1
    go_loopw [10] (fun i wr => ∃ k : Nat, k ≤ n ∧ i = .int .i64 k ∧ Below w.heap.size w wr ∧ Part wr gx n (mix L0 l2 k) ∧ Part wr gy n (mix L1 l2 k)) (fun i _ => n - (intOf i).toNat)
    case atStart => exact ⟨0, Nat.zero_le _, rfl, hb4, hp0, hp1⟩
    case round =>
      obtain ⟨k, hk, rfl, hb, px, py⟩ := hrel
      by_cases hlt : k < n
      · obtain ⟨hl, _, hby, hcs⟩ := hE2.below hb
        obtain ⟨b, o, rfl, hcell⟩ := hcs.resolve_left (by omega)
        have hc := hcell k (by omega)
        have hblt : b < w.heap.size := by
          have := hE2.2.2.2.resolve_left (by omega)
          obtain ⟨b', o', h', hc'⟩ := this
          cases h'
          exact World.block_lt_of_cell? w _ (hc' k (by omega))
        have cx := px.cells k hlt
        have fx := px.free k hlt
        have cy := py.cells k hlt
        have fy := py.free k hlt
        rw [mix_self] at cx cy
        have ne1 : ¬ gx = gy := by omega
        have ne2 : ¬ b = gx := by omega
        have ne3 : ¬ b = gy := by omega
        have ne1' : ¬ gy = gx := by omega
        have ne2' : ¬ gx = b := by omega
        have ne3' : ¬ gy = b := by omega
        have PX : Hid (Part wr gx n (mix L0 l2 k)) := px
        have PY : Hid (Part wr gy n (mix L1 l2 k)) := py
        have HE : Hid (mix L0 l2 (k + 1) k = bits .xor .u8 (L0.getD k 0) (l2.getD k 0) ∧ mix L1 l2 (k + 1) k = bits .xor .u8 (L1.getD k 0) (l2.getD k 0)) := ⟨by rw [mix_succ]; simp, by rw [mix_succ]; simp⟩
        clear px py hcell hby hcs hE2 h2
        generalize L0.getD k 0 = p at cx HE
        generalize L1.getD k 0 = q at cy HE
        generalize l2.getD k 0 = z at hc HE
        have hk0 : (0 : Int) ≤ (k : Int) := by omega
        have hkn : (k : Int) < (n : Int) := by omega
        have hk2 : (k : Int) < (len2 : Int) := by omega
        clear hE0 hE1 h0 h1 HB hx hmin hb1 hb2 hb3 K0 K1 K2
        go_wp2
        go_region
        go_wp2
        go_region
        go_wp2
        go_roundw
        case rel => exact ⟨k + 1, by omega, by go_num, ((hb.setCell hgx _).setCell (by show w.heap.size ≤ gy; omega) _).drew.drew, ((PX.out.step hlt HE.out.1).other gy k _ ne1').drew.drew, ((PY.out.other gx k _ ne1).step hlt HE.out.2).drew.drew⟩
        case measure => simp [intOf]; omega
      · have hkn : k = n := by omega
        subst hkn
        have hq : Quad w wr a0 a1 gx gy k L0 L1 (xorL L0 (l2.take k)) (xorL L1 (l2.take k)) := ⟨hb, K0.below hb, K1.below hb, px.elems K0 K2, py.elems K1 K2⟩
        have hfin := alike_eq L0 L1 (l2.take k) k K0.1 K1.1 K2.1 K0.byte K1.byte K2.byte
        generalize xorL L0 (l2.take k) = X at hq hfin
        generalize xorL L1 (l2.take k) = Y at hq hfin
        have T0 : Hid True := trivial
        have T1 : Hid True := trivial
        have T2 : Hid True := trivial
        have T3 : Hid True := trivial
        have i0 : (0 : Int) ≤ (k : Int) := by omega
        have i1 : (k : Int) ≤ (cap0 : Int) := by omega
        have i2 : (k : Int) ≤ (cap1 : Int) := by omega
        clear px py hE0 hE1 hE2 h0 h1 h2 HB hx hmin hb1 hb2 hb3 K0 K1 K2 hp0 hp1 hlt hb
        go_wp2
        go_region_held3 (fun w' => Quad w w' a0 a1 gx gy k L0 L1 X Y) (first | assumption | (refine Quad.drew ?_; assumption)) (first | (go_at_call 11; refine (quad0 T0 (by assumption) _).mono ?_; clear T0; rintro e w5 ⟨rfl, hq5⟩) | (go_at_call 11; refine (quadx T1 (by assumption) _).mono ?_; clear T1; rintro e w6 ⟨rfl, hq6⟩) | (go_at_call 11; refine (quad1 T2 (by assumption) _).mono ?_; clear T2; rintro e w7 ⟨rfl, hq7⟩) | (go_at_call 11; refine (quady T3 (by assumption) _).mono ?_; clear T3; rintro e w8 ⟨rfl, hq8⟩))
        go_wp2
        go_ret
        exact ⟨rfl, Quad.bel (by assumption)⟩
theorem view_cap {H : Type} {enc : TypeId × Value → H} {W : World} {a0 : Option Addr} {len cap : Nat} {d : DataW H} {p : List MemPlace}
    (hd : DataW.Trod enc Try.prog W 0 (fun _ => true) true 22 (.slice a0 len cap) d p) : len ≤ cap := by
  obtain ⟨fuel, hf⟩ := hd
  rcases open_ints Try.underlying22 Try.underlying5 cells5 hf with ⟨hcs, hx⟩ | ⟨a, len', cap', zs, hcs, _, hl, _⟩
  · simp [Value.cells] at hcs
    omega
  · simp [Value.cells] at hcs
    omega
end Go.Proofs.Ytbndgdahokldeaa.Crc
namespace Go.Proofs.Ytbndgdahokldeaa
open Go.ChangeShapes Go.WideShapes Go.ChangeAt Go.RowKit
set_option linter.unusedVariables false
set_option maxRecDepth 100000 in
theorem crcDiffers_lifted (os : Os) (started : os.Started) (H : Type) (enc : TypeId × Value → H) :
    ReturnsInHanded {} Try.checked os 6 .any (Rows.crcDiffersSpec.pre6 enc Try.prog Try.f6 Rows.crcDiffersRow.domain false) (Rows.crcDiffersSpec.post enc Try.prog Try.f6 false true false false) := by
  refine returnsInHanded_of_change_sized (C := Try.checked) Crc.own started (by kernel_rfl) Try.func6
    (ChangeSpec.witness6 (enc := enc) (C := Try.checked) false ⟨#[], #[.slice none 0 0, .slice none 0 0, .slice none 0 0], []⟩ 8 (by kernel_rfl) (by kernel_rfl) (by kernel_rfl) (by kernel_rfl)) ?_
  intro W base args ds gs before hval0 hW _ hsz0 _
  have hsz : (DataW.weightsEach Try.prog (Try.f6.params.toList ++ Rows.crcDiffersSpec.plain.varTypes Try.prog) (ds ++ gs)).all (· ≤ reachBytes) = true := hsz0
  clear hsz0
  have hval : ∀ (j : Nat) t v, Try.f6.params[j]? = some t → args[j]? = some v → Value.okWide Try.prog W .any base t v := hval0
  have hW' := hW
  obtain ⟨p, q, hA0, hV, rfl, hfz, hnd⟩ := hW
  have hA : DataW.TrodAll enc Try.prog W 0 (fun _ => true) true Try.f6.params.toList args.toList ds p := hA0
  rw [Try.params6] at hA hval hsz
  obtain ⟨v0, vs0, d0, ds0, p0, q0, hargs, rfl, rfl, h0, r0⟩ := trodAll_cons hA
  obtain ⟨v1, vs1, d1, ds1, p1, q1, rfl, rfl, rfl, h1, r1⟩ := trodAll_cons r0
  obtain ⟨v2, vs2, d2, ds2, p2, q2, rfl, rfl, rfl, h2, r2⟩ := trodAll_cons r1
  obtain ⟨rfl, rfl, rfl⟩ := trodAll_nil r2
  obtain rfl : args = #[v0, v1, v2] := by cases args; simp_all
  obtain ⟨rfl, rfl⟩ := trodVars_none hV
  obtain ⟨a0, len0, cap0, rfl⟩ := okWide_slice Try.underlying22 (hval 0 22 v0 rfl rfl)
  have lt0 : ∀ x ∈ p0, x.block < W.heap.size := by obtain ⟨m, hm⟩ := h0; exact DataW.trod_lt m _ _ _ hm
  obtain ⟨l0, c0⟩ := Crc.view h0 hsz (j := 0) rfl rfl
  obtain ⟨a1, len1, cap1, rfl⟩ := okWide_slice Try.underlying22 (hval 1 22 v1 rfl rfl)
  have lt1 : ∀ x ∈ p1, x.block < W.heap.size := by obtain ⟨m, hm⟩ := h1; exact DataW.trod_lt m _ _ _ hm
  obtain ⟨l1, c1⟩ := Crc.view h1 hsz (j := 1) rfl rfl
  obtain ⟨a2, len2, cap2, rfl⟩ := okWide_slice Try.underlying22 (hval 2 22 v2 rfl rfl)
  have lt2 : ∀ x ∈ p2, x.block < W.heap.size := by obtain ⟨m, hm⟩ := h2; exact DataW.trod_lt m _ _ _ hm
  obtain ⟨l2, c2⟩ := Crc.view h2 hsz (j := 2) rfl rfl
  clear hA0 hval0
  refine (Crc.walk6 a0 len0 cap0 l0 a1 len1 cap1 l1 a2 len2 cap2 l2 W c0 c1 c2 (Crc.view_cap h0) (Crc.view_cap h1)).mono fun e W' ⟨he, bel⟩ => ?_
  subst he
  exact ⟨_, rfl, _, _, _, [], _, [], hW', trodAll_mk1 (shut_bool Try.underlying4 _), (trodAll_cons_mk (Below.trod Crc.laidOut (by kernel_rfl) (of_decide_eq_true (by kernel_rfl)) h0 bel lt0) (trodAll_cons_mk (Below.trod Crc.laidOut (by kernel_rfl) (of_decide_eq_true (by kernel_rfl)) h1 bel lt1) (trodAll_cons_mk (Below.trod Crc.laidOut (by kernel_rfl) (of_decide_eq_true (by kernel_rfl)) h2 bel lt2) trodAll_mk0))), rfl, bel.frame _, fun h => by cases h⟩

/-- The statement. -/
theorem crcDiffers_holds : Rows.CrcDiffersSaid :=
  OpenClaim.holds_of_wide 6 Try.f6 rfl rfl rfl rfl rfl rfl rfl ⟨rfl, rfl, rfl, rfl, rfl⟩ rfl rfl rfl rfl rfl (by kernel_rfl) Try.func6 (by kernel_rfl)
    (of_decide_eq_true (by kernel_rfl)) (by unfold Func.isWrapper; first | (rw [if_pos (by decide +kernel)]; kernel_rfl) | (rw [if_neg (by decide +kernel)]; exact ⟨rfl, rfl⟩))
    (fun os started H enc _ => crcDiffers_lifted os started H enc)
#print axioms crcDiffers_holds
end Go.Proofs.Ytbndgdahokldeaa
