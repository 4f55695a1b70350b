/-
  The statement BitsKept of this seat is proved: for every list of numbers, each put in 1 to 8 bits, the bytes that were answered behind each stay as they were whatever is put then, and all of them but the last one begin what is answered at the end; where there are more than 100 numbers the law asks nothing of them.
  Conditions: none beside those that the given row prints.
-/
import Derived.Test.YtcaappheoekijabKin
import Derived.Deep.QuietTactic
import Derived.BigQuiet
import Derived.Deep.RegionWith
import Derived.WalkKit
import Derived.ProofKit
import Derived.OpenShut
import Derived.ShutString
import Derived.ChangeOld
import Derived.Below
import Derived.SizedLaws
namespace Go.Proofs.Ytcaappheoekijab.Bits
open Go.ChangeShapes Go.WideShapes Go.ChangeAt Go.RowKit
set_option linter.unusedVariables false
theorem Elems.cut {w : World} {s : Option Addr} {n : Nat} {l : List Int} (h : Elems w s n l) (p : Nat) (hp : p ≤ n) : Elems w s p (l.take p) := by
  obtain ⟨h1, h2, h3, h4⟩ := h
  have hg : ∀ i, i < p → (l.take p).getD i 0 = l.getD i 0 := fun i hi => by simp [List.getD, hi]
  refine ⟨by simp; omega, by omega, fun i hi => by rw [hg i hi]; exact h3 i (by omega), ?_⟩
  rcases h4 with h4 | ⟨b, o, ha, hc⟩
  · exact .inl (by omega)
  · exact .inr ⟨b, o, ha, fun i hi => by rw [hg i hi]; exact hc i (by omega)⟩
theorem same_q (a b n ca cb : Nat) (l : List Int) (w : World) (hA : Elems w (some ⟨a, 0, none⟩) n l) (hB : Elems w (some ⟨b, 0, none⟩) n l) (q : Nat) :
    Calls Try.prog 12 #[.slice (some ⟨a, 0, none⟩) n ca, .slice (some ⟨b, 0, none⟩) n cb] (w.drewN q) fun e w' => e = .returned (.bool true) ∧ ∃ m, w' = w.drewN m :=
  Calls.quiet_of (Bits.same _ _ n ca cb l _ (hA.below (below_drewN (Below.refl _ _) q)) (hB.below (below_drewN (Below.refl _ _) q)))
theorem appA_b {w0 w w' : World} {a r : Nat} {v : Value} {L : List Bool} {va vt va' : Value} {G H n : Nat → Nat} {P : Nat → List Int} {ja jh g : Nat} {o : Obj} (S : St w0.heap.size w a r v L va vt G H n P ja jh) (hK : Kin w v g (n ja) (P ja))
    (ho : w'.ownsRow w0.heap.size 31 1 va' (ja + 1) (rowA G n ja ++ [.slice (some ⟨g, 0, none⟩) (n ja) (n ja)])) (hg : (w.alloc o).grownBy w' va.ownBlock) (hat : va'.ownBlock = va.ownBlock ∨ va'.ownBlock = some (w.alloc o).heap.size) (hb : Below w0.heap.size w0 w) :
    St w0.heap.size w' a r v L va' vt (upd G ja g) H n P (ja + 1) jh ∧ Below w0.heap.size w0 w' :=
  ⟨(S.below (below_alloc _ _)).appA (hK.below (below_alloc _ _)) ho hg hat, (bstep hb (below_alloc w o)).grown hg (by have := hb.size; rw [World.size_alloc]; omega) fun k e => (S.ra.lt k e).1⟩
theorem appH_b {w0 w w' : World} {a r : Nat} {v : Value} {L : List Bool} {va vt vt' : Value} {G H n : Nat → Nat} {P : Nat → List Int} {ja jh g : Nat} {o : Obj} (S : St w0.heap.size w a r v L va vt G H n P ja jh) (hK : Kin w v g (n jh) (P jh))
    (ho : w'.ownsRow w0.heap.size 31 1 vt' (jh + 1) (rowH H n jh ++ [.slice (some ⟨g, 0, none⟩) (n jh) (n jh + 1)])) (hg : (w.alloc o).grownBy w' vt.ownBlock) (hat : vt'.ownBlock = vt.ownBlock ∨ vt'.ownBlock = some (w.alloc o).heap.size) (hb : Below w0.heap.size w0 w) :
    St w0.heap.size w' a r v L va vt' G (upd H jh g) n P ja (jh + 1) ∧ Below w0.heap.size w0 w' :=
  ⟨(S.below (below_alloc _ _)).appH (hK.below (below_alloc _ _)) ho hg hat, (bstep hb (below_alloc w o)).grown hg (by have := hb.size; rw [World.size_alloc]; omega) fun k e => (S.rh.lt k e).1⟩
set_option maxHeartbeats 1000000 in
theorem walk4_in (a0 : Option Addr) (len0 cap0 : Nat) (l : List Int) (w : World) (h0 : Came w a0 len0 l) (hlen : len0 ≤ 100) :
    Calls Try.prog 4 #[.slice a0 len0 cap0] w fun e w' => e = .returned (.bool true) ∧ Below w.heap.size w w' := by
  obtain ⟨i0, hi, hz0, hz1, hz2⟩ := info_parts info31
  have hb0 := Below.refl w.heap.size w
  have hle : (len0 : Int) ≤ 100 := by omega
  obtain ⟨K, hK⟩ : ∃ K : Nat → Nat, K = fun i => (l.getD i 0).toNat % 8 + 1 := ⟨_, rfl⟩
  obtain ⟨N, hN⟩ : ∃ N : Nat → Nat, N = fun i => ((l.getD i 0).toNat / 2) % 2 ^ K i := ⟨_, rfl⟩
  obtain ⟨P, hP⟩ : ∃ P : Nat → List Int, P = fun i => pack (upTo K N (i + 1)) := ⟨_, rfl⟩
  obtain ⟨n, hn⟩ : ∃ n : Nat → Nat, n = fun i => (P i).length := ⟨_, rfl⟩
  have hK8 : ∀ i, K i ≤ 8 := fun i => by rw [hK]; show _ % 8 + 1 ≤ 8; omega
  have HK : Hid (∀ i, K i = (l.getD i 0).toNat % 8 + 1) := fun i => by rw [hK]
  have HN : Hid (∀ i, N i = ((l.getD i 0).toNat / 2) % 2 ^ K i) := fun i => by rw [hN]
  have HP : Hid (∀ i, P i = pack (upTo K N (i + 1))) := fun i => by rw [hP]
  have Hn : Hid (∀ i, n i = (P i).length) := fun i => by rw [hn]
  clear hK hN hP hn
  go_enter Try.func4, Try.ntmps4
  go_wp2_with (first
    | (go_at_call 8; refine (alive_a w w hb0).mono ?_; rintro e w1 ⟨rfl, hk1, hb1⟩)
    | (go_at_call 5; refine (new_a w w1 hb1).mono ?_; rintro e w2 ⟨a, r, rfl, hP2, hb2⟩))
  go_loopw [4, 5, 6] (fun va vt i wr => ∃ (j : Nat) (v : Value) (G H : Nat → Nat), j ≤ len0 ∧ i = .int .i64 j ∧ St w.heap.size wr a r v (upTo K N j) va vt G H n P j j ∧ Below w.heap.size w wr) (fun _ _ i _ => len0 - (intOf i).toNat)
  case atStart => exact ⟨0, _, fun _ => 0, fun _ => 0, Nat.zero_le _, rfl, ⟨hP2, World.ownsRow_nil _ _ _ _, World.ownsRow_nil _ _ _ _, fun g hg => by simp [Value.ownBlock] at hg, fun i hi => by omega, fun i hi => by omega⟩, hb2⟩
  case round =>
    obtain ⟨j, v, G, H, hj, rfl, S, hb⟩ := hrel
    by_cases hlt : j < len0
    · obtain ⟨b1, o1, rfl, hcl⟩ := h0.2.2.2.resolve_left (by omega)
      have hcw := hcl j hlt
      have hlb := h0.2.2.1 j hlt
      have hln := upTo_length K N hK8 j
      have hkj := hK8 j
      have hNj := HN.out j
      have hKj := HK.out j
      have hPj := HP.out j
      have hnj := Hn.out j
      obtain ⟨c, hc⟩ : ∃ c : Nat, l.getD j 0 = c := ⟨(l.getD j 0).toNat, by omega⟩
      rw [hc] at hcw hlb hNj hKj
      rw [Int.toNat_natCast] at hNj hKj
      have hblt := World.block_lt_of_cell? w _ hcw
      have hl1 := (hb.cell hblt).trans hcw
      have hc256 : c < 256 := by omega
      have hc8 : (c : Int) % 8 = ((c % 8 : Nat) : Int) := by omega
      have hc2 : (c : Int) / 2 = ((c / 2 : Nat) : Int) := by omega
      have hlt' : (j : Int) < (len0 : Int) := by omega
      have E1 : Hid (upTo K N (j + 1) = upTo K N j ++ bitsOf (c / 2 % 2 ^ K j) (K j)) := by show _ = _; rw [upTo, hNj]
      obtain ⟨k, hk⟩ : ∃ k, k = K j := ⟨_, rfl⟩
      rw [← hk] at E1 hKj hkj
      have Hk : Hid ((k : Int) = 1 + ((c % 8 : Nat) : Int)) := by show _ = _; omega
      obtain ⟨c2, hcc2⟩ : ∃ c2, c2 = c / 2 := ⟨_, rfl⟩
      obtain ⟨c8, hcc8⟩ : ∃ c8, c8 = c % 8 := ⟨_, rfl⟩
      rw [← hcc2] at E1 hc2
      rw [← hcc8] at Hk hc8
      have hc2b : c2 < 128 := by omega
      have hc8b : c8 < 8 := by omega
      have hk' : (1 : Int) + (c8 : Int) = (k : Int) := Hk.out.symm
      have HPj : Hid (pack (upTo K N (j + 1)) = P j) := hPj.symm
      have Hnj : Hid ((P j).length = n j) := hnj.symm
      have HLl : Hid ((upTo K N j).length ≤ 800) := by show _ ≤ _; omega
      have hk8 : (k : Int) ≤ 8 := by omega
      have q1 : Hid True := trivial
      clear hcl hNj hKj hPj hnj hc hk hcc2 hcc8 hln
      go_wp2_with (first
        | (go_at_call 7; refine (low c2 k wr (by omega)).mono ?_; rintro e w3 ⟨rfl, h3⟩; rw [h3]; clear h3 w3)
        | (go_at_call 6; refine (put_s w a r v (upTo K N j) _ _ G H n P j (c2 % 2 ^ k) k wr hb S (by omega) (Nat.mod_lt _ (Nat.two_pow_pos k)) (by have := HLl.out; omega) k rfl).mono ?_; rintro e w4 ⟨rfl, v4, S4, hb4⟩; rw [← E1.out] at S4)
        | (go_at_call 10; refine (bytes_s w a r v4 (upTo K N (j + 1)) w4 hb4 S4.pen (by rw [E1.out]; have := HLl.out; simp [bitsOf_length]; omega) (n j) (by rw [HPj.out]; exact Hnj.out)).mono ?_; rintro e w5 ⟨g5, rfl, K5, hk5, hb5⟩; rw [HPj.out] at K5; have S5 := S4.below hk5)
        | (at_builtin; first
          | (clear q1; refine wpList_append_own_at _ rfl _ _ 32 rfl w.heap.size 31 i0 (.slice none 0 0) 1 24 Try.underlying32 hi hz0 hz1 hz2 rfl (by decide) u4 j (rowA G n j) rfl (S5.below (below_alloc _ _)).ra ⟨w5.heap.size, 0, none⟩ 1 1 [.slice (some ⟨g5, 0, none⟩) (n j) (n j)] rfl rfl (cell_one_new _ _ _) (by simp [Value.oneCell']) (by unfold maxLen; omega) (by omega) (by have := hb5.size; rw [World.size_alloc]; omega) ?_; intro va6 w6 hown6 hgrow6 hnil6 hat6; obtain ⟨ga, ca, rfl⟩ := ownsRow_succ hown6; obtain ⟨S6, hb6⟩ := appA_b S5 K5 hown6 hgrow6 hat6 hb5; have K6 : Kin w6 v4 g5 (n j) (P j) := (by have := S6.ka j (Nat.lt_succ_self j); rwa [upd_same] at this); clear hnil6 hown6 hgrow6 hat6)
          | (refine wpList_append_own_at _ rfl _ _ 32 rfl w.heap.size 31 i0 (.slice none 0 0) 1 24 Try.underlying32 hi hz0 hz1 hz2 rfl (by decide) u5 j (rowH H n j) rfl (S7.below (below_alloc _ _)).rh ⟨w7.heap.size, 0, none⟩ 1 1 [.slice (some ⟨g7, 0, none⟩) (n j) (n j + 1)] rfl rfl (cell_one_new _ _ _) (by simp [Value.oneCell']) (by unfold maxLen; omega) (by omega) (by have := hb7.size; rw [World.size_alloc]; omega) ?_; intro vt8 w8 hown8 hgrow8 hnil8 hat8; obtain ⟨gt, ct, rfl⟩ := ownsRow_succ hown8; obtain ⟨S8, hb8⟩ := appH_b S7 K7 hown8 hgrow8 hat8 hb7; clear hnil8 hown8 hgrow8 hat8))
        | (go_at_call 11; refine (twin_s w g5 (n j) (n j) (P j) v4 w6 hb6 K6.el (fun k e => S6.pen.wr.row.own_lt e)).mono ?_; rintro e w7 ⟨g7, rfl, K7, hk7, hb7⟩; have S7 := S6.below hk7))
      go_roundw
      case rel => exact ⟨j + 1, v4, upd G j g5, upd H j g7, by omega, by go_num, S8, hb8⟩
      case measure => simp [intOf]; omega
    · have hjl : len0 = j := by omega
      subst hjl
      have hln := upTo_length K N hK8 len0
      have hbd : (upTo K N len0).length ≤ 8388608 := by omega
      obtain ⟨spa, ca, hva⟩ : ∃ sp cap, u4 = .slice sp len0 cap := by
        rcases S.ra.2 with ⟨h, h'⟩ | ⟨g, cap, cur, h, _⟩
        · exact ⟨_, _, by rw [h, h']⟩
        · exact ⟨_, _, h⟩
      obtain ⟨spt, ct, hvt⟩ : ∃ sp cap, u5 = .slice sp len0 cap := by
        rcases S.rh.2 with ⟨h, h'⟩ | ⟨g, cap, cur, h, _⟩
        · exact ⟨_, _, by rw [h, h']⟩
        · exact ⟨_, _, h⟩
      subst hva hvt
      obtain ⟨M, hM⟩ : ∃ M, (pack (upTo K N len0)).length = M := ⟨_, rfl⟩
      have HM : Hid ((pack (upTo K N len0)).length = M) := hM
      have HF : Hid (∀ i, i < len0 → ∃ p, n i = p + 1 ∧ p + 1 ≤ M ∧ (P i).take p = (pack (upTo K N len0)).take p ∧ (P i).length = p + 1) := fun i hi => by
        obtain ⟨rest, hr⟩ := upTo_prefix K N (i + 1) len0 hi
        have hk1 : (upTo K N (i + 1)).length = (upTo K N i).length + K i := by rw [upTo, List.length_append, bitsOf_length]
        have hk2 := HK.out i
        have hP1 := HP.out i
        have hpl := pack_length (upTo K N (i + 1))
        have hnl := Hn.out i
        rw [hP1, hpl] at hnl
        refine ⟨n i - 1, by omega, ?_, ?_, by rw [hP1, hpl]; omega⟩
        · rw [← hM, pack_length, hr, List.length_append]
          omega
        · rw [hP1, hr]
          exact (pack_prefix _ _ _ (by omega)).symm
      have hlenM : M ≤ 200 := by rw [← hM, pack_length]; omega
      clear hM hln
      go_wp2_with (go_at_call 10; refine (bytes_s w a r v (upTo K N len0) wr hb S.pen hbd M HM.out).mono ?_; rintro e w5 ⟨g5, rfl, K5, hk5, hb5⟩; have S5 := S.below hk5)
      clear S hb hk5
      generalize pack (upTo K N len0) = LA at K5 HF HM
      go_loopw [10] (fun i wr2 => ∃ (j : Nat), j ≤ len0 ∧ i = .int .i64 j ∧ St w.heap.size wr2 a r v (upTo K N len0) (.slice spa len0 ca) (.slice spt len0 ct) G H n P len0 len0 ∧ Kin wr2 v g5 M LA ∧ Below w.heap.size w wr2) (fun i _ => len0 - (intOf i).toNat)
      case atStart => exact ⟨0, Nat.zero_le _, rfl, S5, K5, hb5⟩
      case round =>
        clear S5 K5 hb5
        obtain ⟨j, hj, rfl, S5, K5, hb5⟩ := hrel
        by_cases hlt : j < len0
        · obtain ⟨p, hp1, hp2, hp3, hp4⟩ := HF.out j hlt
          have kA := (S5.ka j hlt).el
          have kH := (S5.kh j hlt).el
          rw [hp1] at kA kH
          obtain ⟨ga, rfl⟩ : ∃ ga, spa = some ⟨ga, 0, none⟩ := by
            rcases S5.ra.2 with ⟨h, h'⟩ | ⟨g, cap, cur, h, _⟩
            · omega
            · cases h; exact ⟨_, rfl⟩
          obtain ⟨gt, rfl⟩ : ∃ gt, spt = some ⟨gt, 0, none⟩ := by
            rcases S5.rh.2 with ⟨h, h'⟩ | ⟨g, cap, cur, h, _⟩
            · omega
            · cases h; exact ⟨_, rfl⟩
          have cA := own_cellv S5.ra j (.slice (some ⟨G j, 0, none⟩) (n j) (n j)) (by simp [rowA, hlt])
          have cH := own_cellv S5.rh j (.slice (some ⟨H j, 0, none⟩) (n j) (n j + 1)) (by simp [rowH, hlt])
          rw [hp1] at cA cH
          have kL := K5.el
          have kA' := kA.cut p (by omega)
          have kL' := kL.cut p (by omega)
          rw [← hp3] at kL'
          have hlt' : (j : Int) < (len0 : Int) := by omega
          have hj0 : (0 : Int) ≤ (j : Int) := by omega
          have hd1 : ((p : Int) + 1 == 0) = false := by simp; omega
          have hd2 : decide ((M : Int) < (p : Int) + 1) = false := by simp; omega
          have hpM : (p : Int) ≤ (M : Int) := by omega
          have hp0 : (0 : Int) ≤ (p : Int) := by omega
          have hpp : (p : Int) ≤ (p : Int) + 1 := by omega
          clear hp3 hp4
          go_wp2
          go_quiet (first
            | (go_at_call_of 12 (H j); exact same_q (G j) (H j) (p + 1) (p + 1) (p + 1 + 1) (P j) wr kA kH _)
            | (go_at_call_of 12 g5; exact same_q (G j) g5 p (p + 1) M ((P j).take p) wr kA' kL' _))
          go_wp2
          have hd : Below wr.heap.size wr (wr.drewN nq) := below_drewN (Below.refl _ _) nq
          exact ⟨⟨j + 1, by omega, by go_num, S5.below hd, K5.below hd, below_drewN hb5 nq⟩, by simp [intOf]; omega⟩
        · go_wp2
          go_ret
          exact ⟨rfl, hb5⟩
theorem walk4 (a0 : Option Addr) (len0 cap0 : Nat) (l : List Int) (w : World) (h0 : Came w a0 len0 l) :
    Calls Try.prog 4 #[.slice a0 len0 cap0] w fun e w' => e = .returned (.bool true) ∧ Below w.heap.size w w' := by
  by_cases hlen : len0 ≤ 100
  · exact walk4_in a0 len0 cap0 l w h0 hlen
  · have hb0 := Below.refl w.heap.size w
    have p1 : Hid True := trivial
    have hle : (100 : Int) < (len0 : Int) := by omega
    go_enter Try.func4, Try.ntmps4
    go_wp2_with (go_at_call 8; first
      | (clear p1; refine (alive_a w w hb0).mono ?_; rintro e w2 ⟨rfl, hk2, hb2⟩)
      | (refine (alive_a w w2 hb2).mono ?_; rintro e w3 ⟨rfl, hk3, hb3⟩))
    go_ret
    exact ⟨rfl, hb3⟩
end Go.Proofs.Ytcaappheoekijab.Bits
namespace Go.Proofs.Ytcaappheoekijab
open Go.ChangeShapes Go.WideShapes Go.ChangeAt Go.RowKit
set_option linter.unusedVariables false
set_option maxRecDepth 100000 in
theorem bitsKept_lifted (os : Os) (started : os.Started) (H : Type) (enc : TypeId × Value → H) :
    ReturnsInHanded {} Try.checked os 4 .any (Rows.bitsKeptSpec.pre6 enc Try.prog Try.f4 Rows.bitsKeptRow.domain false) (Rows.bitsKeptSpec.post enc Try.prog Try.f4 false true false false) := by
  refine returnsInHanded_of_change_sized (C := Try.checked) Bits.ownGo started (by kernel_rfl) Try.func4
    (ChangeSpec.witness6 (enc := enc) (C := Try.checked) false ⟨#[], #[.slice none 0 0], []⟩ 8 (by kernel_rfl) (by kernel_rfl) (by kernel_rfl) (by kernel_rfl)) ?_
  intro W base args ds gs before hval0 hW _ hsz0 _
  have hsz : (DataW.weightsEach Try.prog (Try.f4.params.toList ++ Rows.bitsKeptSpec.plain.varTypes Try.prog) (ds ++ gs)).all (· ≤ reachBytes) = true := hsz0
  clear hsz0
  have hval : ∀ (j : Nat) t v, Try.f4.params[j]? = some t → args[j]? = some v → Value.okWide Try.prog W .any base t v := hval0
  have hW' := hW
  obtain ⟨p, q, hA0, hV, rfl, hfz, hnd⟩ := hW
  have hA : DataW.TrodAll enc Try.prog W 0 (fun _ => true) true Try.f4.params.toList args.toList ds p := hA0
  rw [Try.params4] at hA hval hsz
  obtain ⟨v0, vs0, d0, ds0, p0, q0, hargs, rfl, rfl, h0, r0⟩ := trodAll_cons hA
  obtain ⟨rfl, rfl, rfl⟩ := trodAll_nil r0
  obtain rfl : args = #[v0] := by cases args; simp_all
  obtain ⟨rfl, rfl⟩ := trodVars_none hV
  obtain ⟨a0, len0, cap0, rfl⟩ := okWide_slice Try.underlying31 (hval 0 31 v0 rfl rfl)
  have lt0 : ∀ x ∈ p0, x.block < W.heap.size := by obtain ⟨m, hm⟩ := h0; exact DataW.trod_lt m _ _ _ hm
  obtain ⟨l0, c0⟩ := Bits.view h0 hsz (j := 0) rfl rfl
  clear hA0 hval0
  refine (Bits.walk4 a0 len0 cap0 l0 W c0).mono fun e W' ⟨he, bel⟩ => ?_
  subst he
  exact ⟨_, rfl, _, _, _, [], _, [], hW', trodAll_mk1 (shut_bool Try.underlying4 _), (trodAll_cons_mk (Below.trod Bits.laidOut (by kernel_rfl) (of_decide_eq_true (by kernel_rfl)) h0 bel lt0) trodAll_mk0), rfl, bel.frame _, fun h => by cases h⟩

/-- The statement. -/
theorem bitsKept_holds : Rows.BitsKeptSaid :=
  OpenClaim.holds_of_wide 4 Try.f4 rfl rfl rfl rfl rfl rfl rfl ⟨rfl, rfl, rfl, rfl, rfl⟩ rfl rfl rfl rfl rfl (by kernel_rfl) Try.func4 (by kernel_rfl)
    (of_decide_eq_true (by kernel_rfl)) (by unfold Func.isWrapper; first | (rw [if_pos (by decide +kernel)]; kernel_rfl) | (rw [if_neg (by decide +kernel)]; exact ⟨rfl, rfl⟩))
    (fun os started H enc _ => bitsKept_lifted os started H enc)
#print axioms bitsKept_holds
end Go.Proofs.Ytcaappheoekijab
