/-
  The walk of FramesTold.
-/
import Derived.Test.YtmbkdalmnfcbfabDoorToldM
namespace Go.Proofs.YtmbkdalmnfcbfabDoor.Bits
open Go.ChangeShapes Go.WideShapes Go.ChangeAt Go.RowKit Go.Shelf Go.Maps
theorem info45 : (Tryd.prog.info? 45).map (fun i => (i.zero, i.size, i.bytes)) = some (some (.agg #[.int .u8 0, .int .i64 0]), 2, 16) := info41
theorem news1' {W : World} {b : Nat} {u : Value} {t : TypeId} (h : W.heap[b]? = some (.cells #[u] t (0, 0))) : ∀ j v, [u][j]? = some v → W.cell? ((⟨b, 0, none⟩ : Addr).add j) = some v := fun j v hv => by
  rw [add_none, Nat.zero_add, cell_of_row W b j _ t (0, 0) h]; simpa using hv
theorem news2 {W : World} {b : Nat} {u u' : Value} {t : TypeId} (h : W.heap[b]? = some (.cells #[u, u'] t (0, 0))) : ∀ j v, [u, u'][j]? = some v → W.cell? ((⟨b, 0, none⟩ : Addr).add j) = some v := fun j v hv => by
  rw [add_none, Nat.zero_add, cell_of_row W b j _ t (0, 0) h]; simpa using hv
theorem one2 {u u' : Value} (h : u.oneCell' = true) (h' : u'.oneCell' = true) : ∀ x ∈ [u, u'], x.oneCell' = true := by
  intro x hx
  simp only [List.mem_cons, List.not_mem_nil, or_false] at hx
  rcases hx with rfl | rfl
  · exact h
  · exact h'
theorem one1 {u : Value} (h : u.oneCell' = true) : ∀ x ∈ [u], x.oneCell' = true := by
  intro x hx
  rw [List.mem_singleton] at hx
  rw [hx]; exact h
theorem Blk.set {w : World} {g : Nat} {l : List Int} (h : Blk w g l) (i : Nat) (z : Int) : Blk (w.setCell ⟨g, i, none⟩ (.int .u8 z)) g (l.set i z) := by
  show _ = _
  rw [heap_set_same h i (.int .u8 z)]
  simp [List.map_set]
theorem own_below {w w' : World} {base : Nat} {e : TypeId} {s : Nat} {v : Value} {n : Nat} {xs : List Value} (h : w.ownsRow base e s v n xs) (hb : Below w.heap.size w w') : w'.ownsRow base e s v n xs :=
  h.kept (row := none) ⟨hb.os, hb.tape, hb.output, hb.size, fun k hk _ => hb.block k hk⟩ (by cases hv : v.ownBlock with | none => exact .inl rfl | some g => exact .inr (by simp))
theorem own_set_other {w : World} {base : Nat} {e : TypeId} {s : Nat} {v : Value} {n : Nat} {xs : List Value} (h : w.ownsRow base e s v n xs) {g : Nat} (hne : v.ownBlock = none ∨ v.ownBlock ≠ some g) (i : Nat) (u : Value) : (w.setCell ⟨g, i, none⟩ u).ownsRow base e s v n xs :=
  h.kept (row := some g) ⟨rfl, rfl, rfl, by simp [World.setCell], fun k _ hk => heap_set_other _ (fun e => hk (by rw [e])) _ _⟩ hne
theorem Blk.own {w : World} {g : Nat} {l : List Int} (h : Blk w g l) (hl : l.length ≤ maxLen) : w.ownsRow 0 5 1 (.slice (some ⟨g, 0, none⟩) l.length l.length) l.length (l.map (Value.int .u8)) :=
  ⟨by simp, .inr ⟨g, l.length, (l.map (Value.int .u8)).toArray, rfl, Nat.zero_le _, h, Nat.le_refl _, hl, by simp, by simp [List.take_of_length_le]⟩⟩
theorem Vals.congr {w : World} {a : Option Addr} {len : Nat} {T T' : Nat → Nat} {Z Z' : Nat → Int} (h : Vals w a len T Z) (hT : ∀ i, i < len → T i = T' i) (hZ : ∀ i, i < len → Z i = Z' i) : Vals w a len T' Z' := by
  refine ⟨h.1, fun i hi => by rw [← hT i hi]; exact h.2.1 i hi, h.2.2.imp id ?_⟩
  rintro ⟨b, o, ha, hc⟩
  exact ⟨b, o, ha, fun i hi => by rw [← hT i hi, ← hZ i hi]; exact hc i hi⟩
theorem blk_cells {w : World} {g : Nat} {l : List Int} (h : Blk w g l) : ∀ j u, (l.map (Value.int .u8))[j]? = some u → w.cell? ((⟨g, 0, none⟩ : Addr).add j) = some u := fun j u hu => by
  rw [add_none, Nat.zero_add, cell_of_row w g j _ 5 (0, 0) h]; simpa using hu
theorem bytes_one (l : List Int) : ∀ u ∈ l.map (Value.int .u8), u.oneCell' = true := by
  intro u hu
  obtain ⟨z, _, rfl⟩ := List.mem_map.1 hu
  rfl
theorem byte_set {l : List Int} (h : Byte l) (i : Nat) : Byte (l.set i (bits .xor .u8 (l.getD i 0) 1)) := fun z hz => by
  rcases List.mem_or_eq_of_mem_set hz with h1 | h1
  · exact h z h1
  · have hb := byte_getD h i
    obtain ⟨A, hA⟩ := Int.eq_ofNat_of_zero_le hb.1
    rw [hA] at hb h1
    have hx : bits .xor .u8 (A : Int) 1 = ((A ^^^ 1 : Nat) : Int) := u8_xor_nat A 1 (by omega) (by omega)
    have hl : A ^^^ 1 < 2 ^ 8 := Nat.xor_lt_two_pow (by omega) (by omega)
    rw [h1, hx]; omega
theorem walk4_far (a b : Option Addr) (la lb ca cb : Nat) (w : World) (hW : Wid w) (hlen : 400 < la ∨ la ≠ lb) :
    Calls Tryd.prog 4 #[.slice a la ca, .slice b lb cb] w fun e w' => e = .returned (.bool true) ∧ Below w.heap.size w w' := by
  have p1 : Hid True := trivial
  by_cases h : 400 < la
  · have hl' : (400 : Int) < (la : Int) := by omega
    clear hlen
    go_enter Tryd.func4, Tryd.ntmps4
    go_wp2_with (go_at_call 7; first
      | (clear p1; refine (alive _ hW).mono ?_; rintro e w1 ⟨rfl, hk1⟩; have hW1 := hW.below hk1)
      | (refine (alive w1 hW1).mono ?_; rintro e w2 ⟨rfl, hk2⟩))
    go_ret
    exact ⟨rfl, bstep hk1 hk2⟩
  · have hl' : (la : Int) ≤ 400 := by omega
    have hne : ((lb : Int) != (la : Int)) = true := by simp; omega
    clear hlen
    go_enter Tryd.func4, Tryd.ntmps4
    go_wp2_with (go_at_call 7; first
      | (clear p1; refine (alive _ hW).mono ?_; rintro e w1 ⟨rfl, hk1⟩; have hW1 := hW.below hk1)
      | (refine (alive w1 hW1).mono ?_; rintro e w2 ⟨rfl, hk2⟩))
    go_ret
    exact ⟨rfl, bstep hk1 hk2⟩
set_option maxRecDepth 100000 in
set_option maxHeartbeats 1000000 in
theorem walk4_ok (a b : Option Addr) (len ca cb : Nat) (L : List Int) (O : List Bool) (w : World) (hW : Wid w) (hL : CameQ w a len L) (hO : CameO w b len O) (hlen : len ≤ 400) :
    Calls Tryd.prog 4 #[.slice a len ca, .slice b len cb] w fun e w' => e = .returned (.bool true) ∧ Below w.heap.size w w' := by
  obtain ⟨i0, hi, hz0, hz1, hz2⟩ := info_parts info43
  obtain ⟨i1, hj, hy0, hy1, hy2⟩ := info_parts info45
  obtain ⟨i2, hm, hx0, hx1, hx2⟩ := info_parts info5
  have hl' : (len : Int) ≤ 400 := by omega
  have hne : ((len : Int) != (len : Int)) = false := by simp
  have htl := tot_le (Kn O) (Kn_le O)
  have Htl : Hid (∀ j, tot (Kn O) j ≤ 64 * j) := htl
  clear htl
  go_enter Tryd.func4, Tryd.ntmps4
  go_wp2_with (go_at_call 7; refine (alive _ hW).mono ?_; rintro e w1 ⟨rfl, hk1⟩)
  have hL1 := hL.below hk1
  have hO1 := hO.below hk1
  go_loopw [5, 6, 7, 8] (fun v t n i wr => ∃ j : Nat, j ≤ len ∧ i = .int .i64 j ∧ n = .int .i64 (tot (Kn O) j : Int) ∧ wr.ownsRow w1.heap.size 45 2 v j (flat L O j) ∧ wr.ownsRow w1.heap.size 43 1 t j ((Tl O j).map (Value.int .u8)) ∧ Below w1.heap.size w1 wr) (fun _ _ _ i _ => len - (intOf i).toNat)
  case atStart => exact ⟨0, Nat.zero_le _, rfl, rfl, ⟨rfl, .inl ⟨rfl, rfl⟩⟩, ⟨rfl, .inl ⟨rfl, rfl⟩⟩, Below.refl _ _⟩
  case round =>
    obtain ⟨j, hjl, rfl, rfl, hownV, hownT, hb⟩ := hrel
    have htj := Htl.out j
    have Hsc : Hid (tot (Kn O) (j + 1) = tot (Kn O) j + Kn O j) := rfl
    by_cases hlt : j < len
    · have hlt' : (j : Int) < (len : Int) := by omega
      obtain ⟨b1, o1, rfl, hc1⟩ := (hL1.below hb).2.2.resolve_left (by omega)
      obtain ⟨b2, o2, rfl, hc2⟩ := (hO1.below hb).2.resolve_left (by omega)
      have c1 := hc1 j hlt
      have c2 := hc2 j hlt
      have hgeV := own_ge' hownV
      have hgeT := own_ge' hownT
      have hap := own_apart hownT hownV (by decide)
      clear hc1 hc2 hL1 hO1 hL hO
      have HZ : Hid (Zv L O j = if O.getD j false then L.getD j 0 else L.getD j 0 % 2) := rfl
      have HTn : Hid (Tn O j = if O.getD j false then 1 else 2) := rfl
      have HKn : Hid (Kn O j = if O.getD j false then 64 else 1) := rfl
      have HfV : Hid (flat L O (j + 1) = flat L O j ++ [.int .u8 (Tn O j : Int), .int .i64 (Zv L O j)]) := flat_succ L O j
      have HfT : Hid ((Tl O (j + 1)).map (Value.int .u8) = (Tl O j).map (Value.int .u8) ++ [Value.int .u8 (Tn O j : Int)]) := by unfold Hid; rw [Tl_succ, List.map_append]; rfl
      generalize L.getD j 0 = z at c1 HZ
      generalize tot (Kn O) j = nn at htj Hsc ⊢
      cases ho : O.getD j false
      · rw [ho] at c2
        have hz2' := and1 z
        have HZ' : Hid (Zv L O j = z % 2) := by unfold Hid; rw [HZ.out, ho]; rfl
        have HT' : Hid (Tn O j = 2) := by unfold Hid; rw [HTn.out, ho]; rfl
        have HK' : Hid (Kn O j = 1) := by unfold Hid; rw [HKn.out, ho]; rfl
        clear ho HZ HTn HKn
        have hbA := hb.alloc hb.size (.cells #[.int .u8 2, .int .i64 (z % 2)] 45)
        go_wp2_with (first
          | (at_builtin; refine wpList_append_own _ rfl (.tmp 55) (.tmp 62) 41 rfl w1.heap.size 45 i1 (.agg #[.int .u8 0, .int .i64 0]) 2 16 Tryd.underlying41 hj hy0 hy1 hy2 rfl (by decide) _ j _ (by rfl) (hownV.alloc _) ⟨wr.heap.size, 0, none⟩ 1 1 [.int .u8 2, .int .i64 (z % 2)] (by rfl) rfl (news2 (heap_alloc_new _ _)) (one2 rfl rfl) (by unfold maxLen; omega) (by omega) (Nat.le_trans hb.size (by simp)) ?_; intro v2 w2 hownV2 hgr2 _; have hb2 : Below w1.heap.size w1 w2 := hbA.grown hgr2 hbA.size (fun k e => hgeV k e); have hownT2 := (hownT.alloc (.cells #[.int .u8 2, .int .i64 (z % 2)] 45)).kept hgr2 hap; have hap2 := own_apart hownV2 hownT2 (by decide); have hbB := hb2.alloc hb2.size (.cells #[.int .u8 2] 43))
          | (at_builtin; refine wpList_append_own _ rfl (.tmp 64) (.tmp 65) 42 rfl w1.heap.size 43 i0 (.int .u8 0) 1 1 Tryd.underlying42 hi hz0 hz1 hz2 rfl (by decide) _ j _ (by rfl) (hownT2.alloc _) ⟨w2.heap.size, 0, none⟩ 1 1 [.int .u8 2] (by rfl) rfl (news1' (heap_alloc_new _ _)) (one1 rfl) (by unfold maxLen; omega) (by omega) (Nat.le_trans hb2.size (by simp)) ?_; intro v3 w3 hownT3 hgr3 _; have hb3 : Below w1.heap.size w1 w3 := hbB.grown hgr3 hbB.size (fun k e => hgeT k e); have hownV3 := (hownV2.alloc (.cells #[.int .u8 2] 43)).kept hgr3 hap2))
        go_roundw
        case rel => exact ⟨j + 1, by omega, by go_num, by rw [Hsc.out, HK'.out]; go_num, by rw [HfV.out, HT'.out, HZ'.out]; exact hownV3, by rw [HfT.out, HT'.out]; exact hownT3, hb3⟩
        case measure => simp [intOf]; omega
      · rw [ho] at c2
        have HZ' : Hid (Zv L O j = z) := by unfold Hid; rw [HZ.out, ho]; rfl
        have HT' : Hid (Tn O j = 1) := by unfold Hid; rw [HTn.out, ho]; rfl
        have HK' : Hid (Kn O j = 64) := by unfold Hid; rw [HKn.out, ho]; rfl
        clear ho HZ HTn HKn
        have hbA := hb.alloc hb.size (.cells #[.int .u8 1, .int .i64 z] 45)
        go_wp2_with (first
          | (at_builtin; refine wpList_append_own _ rfl (.tmp 42) (.tmp 48) 41 rfl w1.heap.size 45 i1 (.agg #[.int .u8 0, .int .i64 0]) 2 16 Tryd.underlying41 hj hy0 hy1 hy2 rfl (by decide) _ j _ (by rfl) (hownV.alloc _) ⟨wr.heap.size, 0, none⟩ 1 1 [.int .u8 1, .int .i64 z] (by rfl) rfl (news2 (heap_alloc_new _ _)) (one2 rfl rfl) (by unfold maxLen; omega) (by omega) (Nat.le_trans hb.size (by simp)) ?_; intro v2 w2 hownV2 hgr2 _; have hb2 : Below w1.heap.size w1 w2 := hbA.grown hgr2 hbA.size (fun k e => hgeV k e); have hownT2 := (hownT.alloc (.cells #[.int .u8 1, .int .i64 z] 45)).kept hgr2 hap; have hap2 := own_apart hownV2 hownT2 (by decide); have hbB := hb2.alloc hb2.size (.cells #[.int .u8 1] 43))
          | (at_builtin; refine wpList_append_own _ rfl (.tmp 50) (.tmp 51) 42 rfl w1.heap.size 43 i0 (.int .u8 0) 1 1 Tryd.underlying42 hi hz0 hz1 hz2 rfl (by decide) _ j _ (by rfl) (hownT2.alloc _) ⟨w2.heap.size, 0, none⟩ 1 1 [.int .u8 1] (by rfl) rfl (news1' (heap_alloc_new _ _)) (one1 rfl) (by unfold maxLen; omega) (by omega) (Nat.le_trans hb2.size (by simp)) ?_; intro v3 w3 hownT3 hgr3 _; have hb3 : Below w1.heap.size w1 w3 := hbB.grown hgr3 hbB.size (fun k e => hgeT k e); have hownV3 := (hownV2.alloc (.cells #[.int .u8 1] 43)).kept hgr3 hap2))
        go_roundw
        case rel => exact ⟨j + 1, by omega, by go_num, by rw [Hsc.out, HK'.out]; go_num, by rw [HfV.out, HT'.out, HZ'.out]; exact hownV3, by rw [HfT.out, HT'.out]; exact hownT3, hb3⟩
        case measure => simp [intOf]; omega
    · have hje : len = j := by omega
      subst hje
      clear hlt hjl Hsc
      have hlt' : ¬ (len : Int) < (len : Int) := by omega
      obtain ⟨av, capv, rfl, hV⟩ := own_vals hownV (by omega)
      obtain ⟨at2, capt, rfl, hT⟩ := own_formT hownT (by omega) (Tl_byte O len)
      have hw := hL.2.1
      have hKw : (fun i => wide (Tn O i)) = Kn O := funext (wide_Tn O)
      have htt : tot (KT (Tl O len)) len = tot (Kn O) len := tot_Tl O len len (Nat.le_refl _)
      have hKne : ∀ i, i < len → KT (Tl O len) i ≠ 0 := fun i hi => by rw [KT_Tl O len i hi]; have := Kn_pos O i; omega
      have hpay := payload av len capv (Tn O) (Zv L O) wr hV (fun i _ => by rw [wide_Tn]; exact ⟨Kn_pos O i, un_Zv L O i⟩) (by rw [hKw]; omega) (by omega)
      rw [hKw] at hpay
      have hPl := PB_length L O len
      have hPb := PB_byte L O len
      have hbz := fun k => behind_zero L O len k
      have hbo := behind_odd L O len (tot (Kn O) len) rfl
      have hXZ : ∀ i, i < len → XT (PB L O len) (Tl O len) i = Zv L O i := fun i hi => XT_PB L O len i hi (hw i hi)
      have hpay' : Calls Tryd.prog 13 #[.slice av len capv] wr fun e w' => ∃ g, e = .returned (.tuple #[.slice (some ⟨g, 0, none⟩) ((tot (Kn O) len + 7) / 8) ((tot (Kn O) len + 7) / 8), .int .i64 0]) ∧ Blk w' g (PB L O len) ∧ wr.heap.size ≤ g ∧ Below wr.heap.size wr w' := hpay
      clear hpay hKw
      generalize PB L O len = Pb at hpay' hPl hPb hbz hbo hXZ
      obtain ⟨nn, hnn⟩ : ∃ nn, tot (Kn O) len = nn := ⟨_, rfl⟩
      rw [hnn] at hpay' hPl hbz hbo htt htj ⊢
      have hv1 := fun g W hE hT => values_ok (some ⟨g, 0, none⟩) ((nn + 7) / 8) at2 len capt Pb (Tl O len) nn W hE hT hKne htt (hbz _)
      have hv2 := fun s cap W hT => values_long s ((nn + 7) / 8 + 1) cap at2 len capt (Tl O len) W hT hKne (by rw [htt]; omega)
      have hv3 := fun g W B' hE hT hv => values_behind (some ⟨g, 0, none⟩) ((nn + 7) / 8) at2 len capt B' (Tl O len) nn W hE hT hKne htt hv
      have hbt := fun W hT => bits14 at2 len capt (Tl O len) W hT
      rw [htt] at hbt
      obtain ⟨nb, hnb⟩ : ∃ nb, (nn + 7) / 8 = nb := ⟨_, rfl⟩
      have hnbI : ((nn : Int) + 7) / 8 = (nb : Int) := by omega
      have hnb2 : nb ≤ 3200 := by omega
      have Hnb : Hid ((nn + 7) / 8 = nb) := hnb
      rw [hnb] at hpay' hPl hbo hv1 hv2 hv3 hbt
      have Hbo : Hid (nn % 8 ≠ 0 → val (part (Pb.set (nb - 1) (bits .xor .u8 (Pb.getD (nb - 1) 0) 1)) nn (8 * nb - nn)) ≠ 0) := hbo
      have HPl : Hid (Pb.length = nb) := hPl
      have HXZ : Hid (∀ i, i < len → XT Pb (Tl O len) i = Zv L O i) := hXZ
      have p1 : Hid True := trivial
      have p2 : Hid True := trivial
      have p3 : Hid True := trivial
      clear hnb hbo hPl hXZ htt hKne hnn hbz hw hL hO hL1 hO1 Htl
      by_cases h8 : nn % 8 = 0
      · have h8' : (nn : Int) % 8 = 0 := by omega
        have h8b : ((nn : Int) % 8 == 0) = true := by simp [h8']
        go_wp2_with (first
          | (go_at_call 13; refine hpay'.mono ?_; rintro e w2 ⟨g, rfl, hB2, hg2, hk2⟩; have hE2 := hB2.elems' hPb (by have := HPl.out; omega); rw [HPl.out] at hE2; have hT2 := hT.below hk2; have hV2 := hV.below hk2; have hb2 := bstep hb hk2)
          | (go_at_call 14; first
            | (clear p1; refine (hv1 g w2 hE2 hT2).mono ?_; rintro e w3 ⟨g3, rfl, hR3, hg3, hk3⟩; have hB3 : Hid (Blk w3 g Pb) := row_kept hB2 hk3; have hT3 := hT2.below hk3; have hV3 := hV2.below hk3; have hb3 := bstep hb2 hk3; have hX3 := (hR3.vals (by omega) (fun i _ => byte_getD (Tl_byte O len) i)).congr (T' := Tn O) (Z' := Zv L O) (fun i hi => by rw [Tl_getD O len i hi, Int.toNat_natCast]) HXZ.out)
            | (refine (hv2 ao cap6 w6 (hT3.below hb36)).mono ?_; rintro e w7 ⟨rfl, hk7⟩; have hb37 := bstep hb36 hk7))
          | (at_builtin; clear p2; refine wpList_append_own _ rfl (.const (.slice none 0 0)) (.tmp 81) 22 rfl w3.heap.size 5 i2 (.int .u8 0) 1 1 Tryd.underlying22 hm hx0 hx1 hx2 rfl (by decide) _ 0 [] (by rfl) (World.ownsRow_nil _ _ _ _) ⟨g, 0, none⟩ nb nb (Pb.map (Value.int .u8)) (by rfl) (by have := HPl.out; simp; omega) (blk_cells hB3.out) (bytes_one Pb) (by unfold maxLen; omega) (by omega) (Nat.le_refl _) ?_; intro v5 w5 hown5 hgr5 _; have hb35 : Below w3.heap.size w3 w5 := (Below.refl _ _).grown hgr5 (Nat.le_refl _) (fun k e => by cases e); have hge5 := own_ge' hown5; have hbA5 := hb35.alloc hb35.size (.cells #[.int .u8 0] 5))
          | (at_builtin; refine wpList_append_own _ rfl (.tmp 82) (.tmp 83) 22 rfl w3.heap.size 5 i2 (.int .u8 0) 1 1 Tryd.underlying22 hm hx0 hx1 hx2 rfl (by decide) _ (0 + nb) _ (by rfl) (hown5.alloc _) ⟨w5.heap.size, 0, none⟩ 1 1 [.int .u8 0] (by rfl) rfl (news1' (heap_alloc_new _ _)) (one1 rfl) (by unfold maxLen; omega) (by omega) (Nat.le_trans hb35.size (by simp)) ?_; intro v6 w6 hown6 hgr6 _; have hb36 : Below w3.heap.size w3 w6 := hbA5.grown hgr6 hbA5.size (fun k e => hge5 k e); have hf6 := own_formT (l := Pb ++ [0]) (n := nb + 1) (by rw [List.map_append, ← Nat.zero_add nb]; exact hown6) (by omega) (byte_append hPb (byte_of (l := [0]) rfl)); obtain ⟨ao, cap6, rfl, _⟩ := hf6)
          | (go_at_call 15; refine (sameVals (some ⟨g3, 0, none⟩) av len len capv (Tn O) (Zv L O) w7 (hX3.below hb37) (hV3.below hb37)).mono ?_; rintro e w8 ⟨rfl, hk8⟩; have hb38 := bstep hb37 hk8)
          | (go_at_call 16; refine (hbt w8 (hT3.below hb38)).mono ?_; rintro e w9 ⟨rfl, hk9⟩; have hb39 := bstep hb38 hk9))
        go_ret
        exact ⟨rfl, bstep (bstep hk1 hb3) hb39⟩
      · have h8' : ¬ (nn : Int) % 8 = 0 := by omega
        have h8b : ((nn : Int) % 8 == 0) = false := by simp [h8']
        have hnb1 : 1 ≤ nb := by have := Hnb.out; omega
        have hnbI1 : (1 : Int) ≤ (nb : Int) := by omega
        go_wp2_with (first
          | (go_at_call 13; refine hpay'.mono ?_; rintro e w2 ⟨g, rfl, hB2, hg2, hk2⟩; have hE2 := hB2.elems' hPb (by have := HPl.out; omega); rw [HPl.out] at hE2; have hT2 := hT.below hk2; have hV2 := hV.below hk2; have hb2 := bstep hb hk2)
          | (go_at_call 14; first
            | (clear p1; refine (hv1 g w2 hE2 hT2).mono ?_; rintro e w3 ⟨g3, rfl, hR3, hg3, hk3⟩; have hB3 : Hid (Blk w3 g Pb) := row_kept hB2 hk3; have hT3 := hT2.below hk3; have hV3 := hV2.below hk3; have hb3 := bstep hb2 hk3; have hX3 := (hR3.vals (by omega) (fun i _ => byte_getD (Tl_byte O len) i)).congr (T' := Tn O) (Z' := Zv L O) (fun i hi => by rw [Tl_getD O len i hi, Int.toNat_natCast]) HXZ.out)
            | (clear p3; refine (hv2 ao cap6 w6 (hT3.below hb36)).mono ?_; rintro e w7 ⟨rfl, hk7⟩; have hb37 := bstep hb36 hk7))
          | (at_builtin; clear p2; refine wpList_append_own _ rfl (.const (.slice none 0 0)) (.tmp 81) 22 rfl w3.heap.size 5 i2 (.int .u8 0) 1 1 Tryd.underlying22 hm hx0 hx1 hx2 rfl (by decide) _ 0 [] (by rfl) (World.ownsRow_nil _ _ _ _) ⟨g, 0, none⟩ nb nb (Pb.map (Value.int .u8)) (by rfl) (by have := HPl.out; simp; omega) (blk_cells hB3.out) (bytes_one Pb) (by unfold maxLen; omega) (by omega) (Nat.le_refl _) ?_; intro v5 w5 hown5 hgr5 _; have hb35 : Below w3.heap.size w3 w5 := (Below.refl _ _).grown hgr5 (Nat.le_refl _) (fun k e => by cases e); have hge5 := own_ge' hown5; have hbA5 := hb35.alloc hb35.size (.cells #[.int .u8 0] 5))
          | (at_builtin; refine wpList_append_own _ rfl (.tmp 82) (.tmp 83) 22 rfl w3.heap.size 5 i2 (.int .u8 0) 1 1 Tryd.underlying22 hm hx0 hx1 hx2 rfl (by decide) _ (0 + nb) _ (by rfl) (hown5.alloc _) ⟨w5.heap.size, 0, none⟩ 1 1 [.int .u8 0] (by rfl) rfl (news1' (heap_alloc_new _ _)) (one1 rfl) (by unfold maxLen; omega) (by omega) (Nat.le_trans hb35.size (by simp)) ?_; intro v6 w6 hown6 hgr6 _; have hb36 : Below w3.heap.size w3 w6 := hbA5.grown hgr6 hbA5.size (fun k e => hge5 k e); have hf6 := own_formT (l := Pb ++ [0]) (n := nb + 1) (by rw [List.map_append, ← Nat.zero_add nb]; exact hown6) (by omega) (byte_append hPb (byte_of (l := [0]) rfl)); obtain ⟨ao, cap6, rfl, _⟩ := hf6)
          | (go_at_call 15; refine (sameVals (some ⟨g3, 0, none⟩) av len len capv (Tn O) (Zv L O) w7 (hX3.below hb37) (hV3.below hb37)).mono ?_; rintro e w8 ⟨rfl, hk8⟩; have hb38 := bstep hb37 hk8)
          | (go_at_call 16; refine (hbt w8 (hT3.below hb38)).mono ?_; rintro e w9 ⟨rfl, hk9⟩; have hb39 := bstep hb38 hk9; have hB9 : Hid (Blk w9 g Pb) := row_kept hB3.out hb39; have hc9 : w9.cell? ⟨g, nb - 1, none⟩ = some (.int .u8 (Pb.getD (nb - 1) 0)) := (by rw [cell_of_row w9 g _ _ 5 (0, 0) hB9.out]; have := HPl.out; simp [show nb - 1 < Pb.length by omega]); have hf9 : w9.frozen? ⟨g, nb - 1, none⟩ = false := frozen_of_row _ _ _ _ _ hB9.out))
        have hTs : Elems (w9.setCell ⟨g, nb - 1, none⟩ (.int .u8 (bits .xor .u8 (Pb.getD (nb - 1) 0) 1))) at2 len (Tl O len) := by
          have h1 := own_below hownT (bstep (bstep hk2 hk3) hb39)
          have h2 := own_set_other h1 (own_apart h1 (hB9.out.own (by have := HPl.out; unfold maxLen; omega)) (by decide)) (nb - 1) (.int .u8 (bits .xor .u8 (Pb.getD (nb - 1) 0) 1))
          obtain ⟨ao', cp', e', hE'⟩ := own_formT h2 (by omega) (Tl_byte O len)
          cases e'
          exact hE'
        have hEs : Elems (w9.setCell ⟨g, nb - 1, none⟩ (.int .u8 (bits .xor .u8 (Pb.getD (nb - 1) 0) 1))) (some ⟨g, 0, none⟩) nb (Pb.set (nb - 1) (bits .xor .u8 (Pb.getD (nb - 1) 0) 1)) := by
          have h1 := (hB9.out.set (nb - 1) (bits .xor .u8 (Pb.getD (nb - 1) 0) 1)).elems' (byte_set hPb (nb - 1)) (by have := HPl.out; simp; omega)
          rw [List.length_set, HPl.out] at h1
          exact h1
        have hbF := below_set (bstep (bstep hk1 hb3) hb39) (Nat.le_trans (Nat.le_trans hk1.size hb.size) hg2) (nb - 1) (.int .u8 (bits .xor .u8 (Pb.getD (nb - 1) 0) 1))
        refine (hv3 g _ _ hEs hTs (Hbo.out h8)).mono ?_
        rintro e w10 ⟨rfl, hk10⟩
        go_wp2
        go_ret
        exact ⟨rfl, bstep hbF hk10⟩
/-- The walk of FramesTold, whatever the lists. -/
theorem walk4 (a b : Option Addr) (la lb ca cb : Nat) (L : List Int) (O : List Bool) (w : World) (hW : Wid w) (hL : CameQ w a la L) (hO : CameO w b lb O) :
    Calls Tryd.prog 4 #[.slice a la ca, .slice b lb cb] w fun e w' => e = .returned (.bool true) ∧ Below w.heap.size w w' := by
  by_cases h : 400 < la ∨ la ≠ lb
  · exact walk4_far a b la lb ca cb w hW h
  · obtain rfl : la = lb := by omega
    exact walk4_ok a b la ca cb L O w hW hL hO (by omega)
end Go.Proofs.YtmbkdalmnfcbfabDoor.Bits
