/-
  What is told of a circle: each flow needs the next one, none is there twice.
  Round the circle that is told: the walk of the law.
-/
import Derived.Test.YtjdlmhkfaodkgaaDoorG9
import Derived.Test.YtjdlmhkfaodkgaaDoorG10
import Derived.Test.YtjdlmhkfaodkgaaDoorG5
namespace Go.Proofs.YtjdlmhkfaodkgaaDoor.Lex
theorem find_place {p : Pg} {s : ByteArray} {z : Int × Hd} (h : findT (thingsL p) s = some z) (hz : 0 ≤ z.1) : ∃ k, ∃ hk : k < p.flows.length, z = ((k : Int), p.flows[k].hd) ∧ (p.flows[k].name.toList == s.toList) = true := by
  have h1 := List.mem_of_find?_eq_some h
  have h2 := List.find?_some h
  unfold thingsL at h1
  rcases List.mem_append.1 h1 with h1 | h1
  · obtain ⟨x, _, rfl⟩ := List.mem_map.1 h1
    have h3 : (0 : Int) ≤ -1 := hz
    omega
  · obtain ⟨k, hk, rfl⟩ := List.mem_map.1 h1
    have hk := List.mem_range.1 hk
    simp only [List.getElem?_eq_getElem hk, Option.map_some, Option.getD_some] at h2 ⊢
    exact ⟨k, hk, rfl, h2⟩
theorem need_name {p : Pg} {i j : Nat} (h : j ∈ rowsP p i) : ∃ hi : i < p.flows.length, ∃ hj : j < p.flows.length, ∃ r ∈ gat 32 p.flows[i].body 0 [], r.2 = 0 ∧ (r.1.toList == p.flows[j].name.toList) = true := by
  obtain ⟨hi, hj⟩ := (rowsP_mem p i j).1 h
  refine ⟨hi, rowsP_lt p i j h, ?_⟩
  have hz2 : (j : Int) ∈ nb p (gat 32 p.flows[i].body 0 []) := List.mem_mergeSort.1 hj
  obtain ⟨r, hr, e⟩ := List.mem_filterMap.1 hz2
  refine ⟨r, hr, ?_⟩
  unfold nb1 at e
  split at e
  · cases e
  · next h0 =>
    cases hf : findT (thingsL p) r.1 with
    | none => rw [hf] at e; cases e
    | some z =>
      rw [hf] at e
      simp only at e
      split at e
      · next hz =>
        injection e with e
        obtain ⟨k, hk, rfl, hn⟩ := find_place hf hz
        obtain rfl : k = j := by simp at e; omega
        refine ⟨by omega, ?_⟩
        simp only [beq_iff_eq] at hn ⊢
        exact hn.symm
      · cases e
theorem name_at {p : Pg} {z : Nat} (h : z < p.flows.length) : nameAt p (z : Int) = p.flows[z].name := by
  unfold nameAt
  rw [Int.toNat_natCast, List.getElem?_eq_getElem h]
  rfl
theorem findC_at {p : Pg} {i : Nat} (h : i < (findC p).length) : ∃ h1 : i < (circP p).length, ∃ h2 : (circP p)[i] < p.flows.length, (findC p)[i] = p.flows[(circP p)[i]].name := by
  have h1 : i < (circP p).length := by simpa [findC] using h
  have h2 := circP_lt _ (List.getElem_mem h1)
  refine ⟨h1, h2, ?_⟩
  rw [← name_at h2]
  simp [findC]
def CirOk (p : Pg) (l : List Nat) : Prop := l.Nodup ∧ ∀ i (h : i < l.length), l[(i + 1) % l.length]'(Nat.mod_lt _ (by omega)) ∈ rowsP p l[i]
theorem circP_spec (p : Pg) : CirOk p (circP p) := by
  unfold circP
  cases h : findI p with
  | none => exact ⟨by simp, fun i hi => by simp at hi⟩
  | some k =>
    obtain ⟨h1, h2⟩ := findI_at h
    have hc := circ_spec (rowsP_lt p) (whoP_lt p) h1 (rows_who p) h2
    exact ⟨hc.nodup, hc.step⟩
theorem findC_len (p : Pg) : (findC p).length = (circP p).length := by simp [findC]
/-- One needs the next one. -/
theorem round_next {p : Pg} (hz : nmErr p = 0) {i : Nat} (h : i < (findC p).length) : ∃ f g x y, ∃ hf : f < p.flows.length, findT (thingsL p) (findC p)[i] = some (((f : Nat) : Int), x) ∧ findT (thingsL p) ((findC p)[(i + 1) % (findC p).length]'(Nat.mod_lt _ (by omega))) = some (((g : Nat) : Int), y) ∧ chk p.flows[f].body = true ∧ ∃ r ∈ gat 32 p.flows[f].body 0 [], r.2 = 0 ∧ (r.1.toList == ((findC p)[(i + 1) % (findC p).length]'(Nat.mod_lt _ (by omega))).toList) = true := by
  obtain ⟨h1, h2⟩ := nmErr_zero hz
  obtain ⟨c1, c2, e1⟩ := findC_at h
  obtain ⟨d1, d2, e2⟩ := findC_at (p := p) (i := (i + 1) % (findC p).length) (Nat.mod_lt _ (by omega))
  have hs := (circP_spec p).2 i c1
  have e3 : (circP p)[(i + 1) % (circP p).length]'(Nat.mod_lt _ (by omega)) = (circP p)[(i + 1) % (findC p).length] := by
    congr 1
    rw [findC_len]
  rw [e3] at hs
  obtain ⟨_, _, hr⟩ := need_name hs
  refine ⟨(circP p)[i], (circP p)[(i + 1) % (findC p).length], (p.flows[(circP p)[i]]).hd, (p.flows[(circP p)[(i + 1) % (findC p).length]]).hd, c2, ?_, ?_, pgOk_chk h1 _ (List.getElem_mem c2), ?_⟩
  · rw [e1]; exact find_flow_ok h2 _ c2
  · rw [e2]; exact find_flow_ok h2 _ d2
  · rw [e2]; exact hr
theorem round_once {p : Pg} (hz : nmErr p = 0) {i k : Nat} (h : i < (findC p).length) (hk : k < i) : ((findC p)[k].toList == (findC p)[i].toList) = false := by
  obtain ⟨h1, h2⟩ := nmErr_zero hz
  obtain ⟨c1, c2, e1⟩ := findC_at h
  obtain ⟨d1, d2, e2⟩ := findC_at (p := p) (i := k) (by omega)
  rw [Bool.eq_false_iff]
  intro e
  rw [e1, e2] at e
  have f1 := find_flow_ok h2 _ c2
  have f2 := find_flow_ok h2 _ d2
  have e' : p.flows[(circP p)[k]].name.toList = p.flows[(circP p)[i]].name.toList := by simpa using e
  unfold findT at f1 f2
  rw [e'] at f2
  rw [f1] at f2
  injection f2 with f2
  injection f2 with f2 _
  have e4 : (circP p)[i] = (circP p)[k] := by omega
  have := (List.getElem_inj (circP_spec p).1).1 e4
  omega
theorem findC_few {p : Pg} (hz : nmErr p = 0) : (findC p).length ≤ 128 := by
  obtain ⟨h1, h2⟩ := nmErr_zero hz
  have h3 : p.flows.length ≤ 128 := by
    unfold pgOk roomOk at h1
    simp at h1
    omega
  rw [findC_len]
  exact Nat.le_trans (nodup_le _ _ (circP_spec p).1 circP_lt) h3
end Go.Proofs.YtjdlmhkfaodkgaaDoor.Lex
namespace Go.Proofs.YtjdlmhkfaodkgaaDoor.Lex
open Go.ChangeShapes Go.WideShapes Go.ChangeAt Go.RowKit Go.Joins
/-- The program, and the names that were told. -/
def RdA (w : World) (p : Pg) (A B C : Value) (v : Value) (l : List ByteArray) (W : World) : Prop := FV w p A B C W ∧ TxAt W v l
def RNx (p : Pg) (l : List ByteArray) : Prop := ∀ i (h : i < l.length) j (hj : j < l.length), j = (i + 1) % l.length → ∃ f g x y, ∃ hf : f < p.flows.length, findT (thingsL p) l[i] = some (((f : Nat) : Int), x) ∧ findT (thingsL p) l[j] = some (((g : Nat) : Int), y) ∧ chk p.flows[f].body = true ∧ ∃ r ∈ gat 32 p.flows[f].body 0 [], r.2 = 0 ∧ (r.1.toList == l[j].toList) = true
theorem rnx {p : Pg} (hz : nmErr p = 0) : RNx p (findC p) := fun i h j hj e => by
  subst e
  exact round_next hz h
def RON (l : List ByteArray) : Prop := ∀ i k (h : i < l.length) (hk : k < i), ((l[k]'(by omega)).toList == l[i].toList) = false
theorem ron {p : Pg} (hz : nmErr p = 0) : RON (findC p) := fun _ _ h hk => round_once hz h hk
theorem RdA.mk' {w W : World} {p : Pg} {A B C v : Value} {l : List ByteArray} (h : FV w p A B C W) (h2 : TxAt W v l) : RdA w p A B C v l W := ⟨h, h2⟩
theorem tx_cell {W : World} {g o c : Nat} {l : List ByteArray} (h : TxAt W (.slice (some ⟨g, o, none⟩) l.length c) l) {k : Nat} (hk : k < l.length) : W.cell? ⟨g, o + k, none⟩ = some (.string l[k]) := by
  obtain ⟨ao, cap, e, h⟩ := h
  injection e with e1 _ _
  obtain ⟨g', o', e2, hc⟩ := h.resolve_left (by omega)
  rw [e2] at e1
  injection e1 with e1
  injection e1 with e1 e3 _
  subst e1 e3
  exact hc k hk
theorem RdA.keep {w W W' : World} {p : Pg} {A B C v : Value} {l : List ByteArray} (h : RdA w p A B C v l W) (hb : Below W.heap.size W W') : RdA w p A B C v l W' := ⟨h.1.keep hb, h.2.keep hb⟩
set_option maxRecDepth 100000 in
set_option maxHeartbeats 4000000 in
theorem walk3 (p : Pg) (w : World) (a b c : Value) (hP : PgAt w p a b c) (hR : TabR w) (hJ : TabJ w) : Calls Tryd.prog 3 #[pgV p a b c] w fun e w' => e = .returned (.bool true) ∧ Below w.heap.size w w' := by
  obtain ⟨a0, a1, rfl, _⟩ := hP.ins
  obtain ⟨b0, b1, _, rfl, _⟩ := hP.flows
  obtain ⟨c0, c1, rfl, _⟩ := hP.outs
  have X0 := hid (FV.new hP hR hJ)
  clear hP hR hJ
  go_enter Tryd.func3, Tryd.ntmps3
  go_wp2_with (fail)
  refine (alive _ X0.out.R X0.out.J).mono ?_
  rintro e w1 ⟨rfl, hb1⟩
  have X1 := hid (X0.out.keep hb1)
  clear hb1
  obtain ⟨s0, s1, s2, s3⟩ := row4 X1.out.row
  go_wp2_with (fail)
  refine (great p _ _ _ _ X1.out.P).mono ?_
  rintro e w2 ⟨⟨gr, rfl, hg⟩, hb2⟩
  have X2 := hid (X1.out.keep hb2)
  clear hb2 X1 X0 s0 s1 s2 s3
  cases gr with
  | true =>
    clear hg
    go_wp2_with (fail)
    refine (alive _ X2.out.R X2.out.J).mono ?_
    rintro e w3 ⟨rfl, hb3⟩
    have X3 := hid (X2.out.keep hb3)
    clear hb3
    have HB := hid X3.out.below
    go_wp2_with (fail)
    go_ret
    exact ⟨rfl, HB.out⟩
  | false =>
    clear hg
    obtain ⟨s0, s1, s2, s3⟩ := row4 X2.out.row
    go_wp2_with (fail)
    refine ((callsIn_wide (n := 20)).1 (names_check p _ _ _ _ X2.out.P X2.out.R X2.out.J)).mono ?_
    rintro e w3 ⟨rfl, hb3⟩
    have X3 := hid (X2.out.keep hb3)
    clear hb3 X2 s0 s1 s2 s3
    by_cases hz : nmErr p = 0
    · have HZ := hid hz
      obtain ⟨h1, h2⟩ := nmErr_zero hz
      have HPC := hid (pgOk_chk h1)
      have HPN : Hid (∀ f ∈ p.flows, f.name.size ≤ 65536) := hid (fun f hf => pg_name h1 hf)
      have hpl : p.flows.length ≤ 1000 := by
        unfold pgOk roomOk at h1
        simp at h1
        omega
      have HCC : Hid (ckC p = if (findC p).length = 0 then 0 else 8) := hid (by unfold ckC; rw [if_pos hz])
      have HFW := hid (findC_few hz)
      rw [hz]
      clear hz h1 h2
      obtain ⟨s0, s1, s2, s3⟩ := row4 X3.out.row
      go_wp2_with (fail)
      refine (circles_find p _ _ _ _ X3.out.P HPC.out hpl HPN.out).mono ?_
      rintro e w4 ⟨u, rfl, hnl⟩
      have X4 := hid (RdA.mk' (X3.out.keep hnl.below) hnl.tx)
      obtain ⟨ua, uc, rfl⟩ := hnl.shape
      clear hnl X3 s0 s1 s2 s3
      obtain ⟨s0, s1, s2, s3⟩ := row4 X4.out.1.row
      have c12 := circles_check p _ _ _ _ X4.out.1.P X4.out.1.R X4.out.1.J
      rw [HCC.out] at c12
      have HNX := hid (rnx HZ.out)
      have HON := hid (ron HZ.out)
      generalize findC p = l at *
      by_cases hl0 : l.length = 0
      · rw [if_pos hl0] at c12
        have hl0' : ¬ (0 : Int) < (l.length : Int) := by omega
        have hl0'' : decide (0 < l.length) = false := by simp [hl0]
        go_wp2_with (fail)
        refine c12.mono ?_
        rintro e w5 ⟨rfl, hb5⟩
        have X5 := hid (X4.out.keep hb5)
        have HB := hid X5.out.1.below
        clear hb5 X4 c12 s0 s1 s2 s3
        go_wp2_with (fail)
        go_loopw [4] (fun i wr => i = .int .i64 0 ∧ Hid (RdA w p (.slice a0 p.ins.length a1) (.slice b0 p.flows.length b1) (.slice c0 p.outs.length c1) (.slice ua l.length uc) l wr)) (fun _ _ => 0)
        case atStart => exact ⟨rfl, X5⟩
        case round =>
          obtain ⟨rfl, XK⟩ := hrel
          go_wp2_with (fail)
          go_ret
          exact ⟨rfl, XK.out.1.below⟩
      · rw [if_neg hl0] at c12
        have hl0' : (0 : Int) < (l.length : Int) := by omega
        have hl0'' : decide (0 < l.length) = true := by simp; omega
        go_wp2_with (fail)
        refine c12.mono ?_
        rintro e w5 ⟨rfl, hb5⟩
        have X5 := hid (X4.out.keep hb5)
        clear hb5 X4 c12 s0 s1 s2 s3
        go_wp2_with (fail)
        go_loopw [4] (fun ii wr => ∃ i : Nat, i ≤ l.length ∧ ii = .int .i64 (i : Int) ∧ Hid (RdA w p (.slice a0 p.ins.length a1) (.slice b0 p.flows.length b1) (.slice c0 p.outs.length c1) (.slice ua l.length uc) l wr)) (fun ii _ => l.length - (intOf ii).toNat)
        case atStart => exact ⟨0, Nat.zero_le _, rfl, X5⟩
        case round =>
          obtain ⟨i, hi, rfl, XK⟩ := hrel
          clear X5
          have hfw := HFW.out
          by_cases hil : i < l.length
          · have hil' : (i : Int) < (l.length : Int) := by omega
            have hi0 : (0 : Int) ≤ (i : Int) := by omega
            have hmod := Nat.mod_lt (i + 1) (show 0 < l.length by omega)
            obtain ⟨f, gg, hx, hy, hf, e1, e2, e3, e4⟩ := HNX.out i hil _ hmod rfl
            have HO := hid (fun k hk => HON.out i k hil hk)
            obtain ⟨tua, tuc, heq, htx⟩ := id XK.out.2
            injection heq with e5 _ e6
            subst e5 e6
            obtain ⟨g, o, rfl, htc⟩ := htx.resolve_left (by omega)
            have z1 := htc i hil
            have z2 := htc ((i + 1) % l.length) hmod
            have hw1 : IntKind.i64.wrap ((i : Int) + 1) = (i : Int) + 1 := by rw [IntKind.wrap_i64]; omega
            have hrem : Int.tmod ((i : Int) + 1) (l.length : Int) = (((i + 1) % l.length : Nat) : Int) := by
              rw [Int.tmod_eq_emod_of_nonneg (by omega)]
              rfl
            have hrem' : ((i : Int) + 1) % (l.length : Int) = (((i + 1) % l.length : Nat) : Int) := rfl
            have hne : ¬ (l.length : Int) = 0 := by omega
            have H1 := hid e1
            have H2 := hid e2
            have HCK := hid e3
            have HR := hid e4
            have HZ1 : Hid (∀ V, TxAt V (.slice (some ⟨g, o, none⟩) l.length uc) l → V.cell? ⟨g, o + i, none⟩ = some (.string l[i])) := hid (fun V h => tx_cell h hil)
            have HZ2 : Hid (∀ V, TxAt V (.slice (some ⟨g, o, none⟩) l.length uc) l → V.cell? ⟨g, o + (i + 1) % l.length, none⟩ = some (.string (l[(i + 1) % l.length]'hmod))) := hid (fun V h => tx_cell h hmod)
            have HKC : Hid (∀ V, TxAt V (.slice (some ⟨g, o, none⟩) l.length uc) l → ∀ k (h : k < l.length), V.cell? ⟨g, o + k, none⟩ = some (.string l[k])) := hid (fun V h k hk => tx_cell h hk)
            clear e1 e2 e3 e4 htc htx
            generalize hjn : (i + 1) % l.length = jn at *
            have HJN := hid hjn
            clear hjn
            have hj0 : (0 : Int) ≤ (jn : Int) := by omega
            have hjl : (jn : Int) < (l.length : Int) := by omega
            generalize l[jn] = sb at *
            generalize hsa : l[i] = sa at *
            have HSA := hid hsa
            clear hsa
            obtain ⟨s0, s1, s2, s3⟩ := row4 XK.out.1.row
            have XD := hid (XK.out.keep (Below.refl _ _).drew)
            go_wp2_with (fail)
            refine wp_region_held_drew (S := fun W => W.cell? ⟨w.heap.size, 0, none⟩ = some (.int .i64 p.st) ∧ W.cell? ⟨w.heap.size, 1, none⟩ = some ((.slice a0 p.ins.length a1)) ∧ W.cell? ⟨w.heap.size, 2, none⟩ = some ((.slice b0 p.flows.length b1)) ∧ W.cell? ⟨w.heap.size, 3, none⟩ = some ((.slice c0 p.outs.length c1)) ∧ W.cell? ⟨g, o + i, none⟩ = some (.string sa) ∧ W.cell? ⟨g, o + jn, none⟩ = some (.string sb)) (by kernel_rfl) ?_ (fun hHeld => ?_)
            · exact ⟨s0, s1, s2, s3, z1, z2⟩
            refine wpAnyH_take (i := 0) (oi := { dst := some 33, op := Go.Op.load 26 (Go.Operand.tmp 1), type := 26, pos := _, after := #[], guard := none }) (v := ?_) rfl (by kernel_rfl) (by kernel_rfl) (by kernel_rfl) (fun _ _ _ h => h) (Or.inl ⟨by rfl, ?_⟩) (by assumption) ?_
            rotate_left
            · intro w hSw; (try dsimp only at hSw); go_simp <;> first | with_reducible rfl | (rw [if_neg (by first | omega | (simp only [ByteArray.size_append] at *; omega))])
            simp only [Act.put, List.setIfInBounds_toArray, List.set_cons_zero, List.set_cons_succ]
            refine wpAnyH_take (i := 1) (oi := { dst := some 34, op := Go.Op.move (Go.Operand.tmp 3), type := 24, pos := _, after := #[], guard := none }) (v := ?_) rfl (by kernel_rfl) (by kernel_rfl) (by kernel_rfl) (fun _ _ _ h => h) (Or.inl ⟨by rfl, ?_⟩) (by assumption) ?_
            rotate_left
            · intro w hSw; (try dsimp only at hSw); go_simp <;> first | with_reducible rfl | (rw [if_neg (by first | omega | (simp only [ByteArray.size_append] at *; omega))])
            simp only [Act.put, List.setIfInBounds_toArray, List.set_cons_zero, List.set_cons_succ]
            refine wpAnyH_take (i := 2) (oi := { dst := some 35, op := Go.Op.move (Go.Operand.tmp 4), type := 3, pos := _, after := #[], guard := none }) (v := ?_) rfl (by kernel_rfl) (by kernel_rfl) (by kernel_rfl) (fun _ _ _ h => h) (Or.inl ⟨by rfl, ?_⟩) (by assumption) ?_
            rotate_left
            · intro w hSw; (try dsimp only at hSw); go_simp <;> first | with_reducible rfl | (rw [if_neg (by first | omega | (simp only [ByteArray.size_append] at *; omega))])
            simp only [Act.put, List.setIfInBounds_toArray, List.set_cons_zero, List.set_cons_succ]
            refine wpAnyH_take (i := 3) (oi := { dst := some 36, op := Go.Op.indexAddr 24 (Go.Operand.tmp 34) (Go.Operand.tmp 35), type := 0, pos := _, after := #[{ on := 1, ground := Go.Ground.data }, { on := 2, ground := Go.Ground.data }], guard := none }) (v := ?_) rfl (by kernel_rfl) (by kernel_rfl) (by kernel_rfl) (fun _ _ _ h => h) (Or.inl ⟨by rfl, ?_⟩) (by assumption) ?_
            rotate_left
            · intro w hSw; (try dsimp only at hSw); go_simp <;> first | with_reducible rfl | (rw [if_neg (by first | omega | (simp only [ByteArray.size_append] at *; omega))])
            simp only [Act.put, List.setIfInBounds_toArray, List.set_cons_zero, List.set_cons_succ]
            refine wpAnyH_take (i := 4) (oi := { dst := some 37, op := Go.Op.load 9 (Go.Operand.tmp 36), type := 9, pos := _, after := #[{ on := 3, ground := Go.Ground.data }], guard := none }) (v := ?_) rfl (by kernel_rfl) (by kernel_rfl) (by kernel_rfl) (fun _ _ _ h => h) (Or.inl ⟨by rfl, ?_⟩) (by assumption) ?_
            rotate_left
            · intro w hSw; (try dsimp only at hSw); go_simp <;> first | with_reducible rfl | (rw [if_neg (by first | omega | (simp only [ByteArray.size_append] at *; omega))])
            simp only [Act.put, List.setIfInBounds_toArray, List.set_cons_zero, List.set_cons_succ]
            refine wpAnyH_take (i := 5) (oi := { dst := some 38, op := Go.Op.move (Go.Operand.tmp 3), type := 24, pos := _, after := #[], guard := none }) (v := ?_) rfl (by kernel_rfl) (by kernel_rfl) (by kernel_rfl) (fun _ _ _ h => h) (Or.inl ⟨by rfl, ?_⟩) (by assumption) ?_
            rotate_left
            · intro w hSw; (try dsimp only at hSw); go_simp <;> first | with_reducible rfl | (rw [if_neg (by first | omega | (simp only [ByteArray.size_append] at *; omega))])
            simp only [Act.put, List.setIfInBounds_toArray, List.set_cons_zero, List.set_cons_succ]
            refine wpAnyH_take (i := 6) (oi := { dst := some 39, op := Go.Op.move (Go.Operand.tmp 4), type := 3, pos := _, after := #[], guard := none }) (v := ?_) rfl (by kernel_rfl) (by kernel_rfl) (by kernel_rfl) (fun _ _ _ h => h) (Or.inl ⟨by rfl, ?_⟩) (by assumption) ?_
            rotate_left
            · intro w hSw; (try dsimp only at hSw); go_simp <;> first | with_reducible rfl | (rw [if_neg (by first | omega | (simp only [ByteArray.size_append] at *; omega))])
            simp only [Act.put, List.setIfInBounds_toArray, List.set_cons_zero, List.set_cons_succ]
            refine wpAnyH_take (i := 7) (oi := { dst := some 40, op := Go.Op.binOp Go.BinOp.add 3 (Go.Operand.tmp 39) (Go.Operand.const (Go.Value.int Go.IntKind.i64 1)) 3, type := 3, pos := _, after := #[{ on := 6, ground := Go.Ground.data }], guard := none }) (v := ?_) rfl (by kernel_rfl) (by kernel_rfl) (by kernel_rfl) (fun _ _ _ h => h) (Or.inl ⟨by rfl, ?_⟩) (by assumption) ?_
            rotate_left
            · intro w hSw; (try dsimp only at hSw); go_simp <;> first | with_reducible rfl | (rw [if_neg (by first | omega | (simp only [ByteArray.size_append] at *; omega))])
            simp only [Act.put, List.setIfInBounds_toArray, List.set_cons_zero, List.set_cons_succ]
            refine wpAnyH_take (i := 8) (oi := { dst := some 41, op := Go.Op.move (Go.Operand.tmp 3), type := 24, pos := _, after := #[], guard := none }) (v := ?_) rfl (by kernel_rfl) (by kernel_rfl) (by kernel_rfl) (fun _ _ _ h => h) (Or.inl ⟨by rfl, ?_⟩) (by assumption) ?_
            rotate_left
            · intro w hSw; (try dsimp only at hSw); go_simp <;> first | with_reducible rfl | (rw [if_neg (by first | omega | (simp only [ByteArray.size_append] at *; omega))])
            simp only [Act.put, List.setIfInBounds_toArray, List.set_cons_zero, List.set_cons_succ]
            refine wpAnyH_take (i := 9) (oi := { dst := some 42, op := Go.Op.call { callee := Go.Callee.builtin Go.Builtin.len, args := #[Go.Operand.tmp 41], argTypes := #[24] }, type := 3, pos := _, after := #[{ on := 8, ground := Go.Ground.data }], guard := none }) (v := ?_) rfl (by kernel_rfl) (by kernel_rfl) (by kernel_rfl) (fun _ _ _ h => h) (Or.inl ⟨by rfl, ?_⟩) (by assumption) ?_
            rotate_left
            · intro w hSw; (try dsimp only at hSw); go_simp <;> first | with_reducible rfl | (rw [if_neg (by first | omega | (simp only [ByteArray.size_append] at *; omega))])
            simp only [Act.put, List.setIfInBounds_toArray, List.set_cons_zero, List.set_cons_succ]
            refine wpAnyH_take (i := 10) (oi := { dst := some 43, op := Go.Op.binOp Go.BinOp.rem 3 (Go.Operand.tmp 40) (Go.Operand.tmp 42) 3, type := 3, pos := _, after := #[{ on := 7, ground := Go.Ground.data }, { on := 9, ground := Go.Ground.data }], guard := none }) (v := ?_) rfl (by kernel_rfl) (by kernel_rfl) (by kernel_rfl) (fun _ _ _ h => h) (Or.inl ⟨by rfl, ?_⟩) (by assumption) ?_
            rotate_left
            · intro w hSw; (try dsimp only at hSw); go_simp <;> first | with_reducible rfl | (rw [if_neg (by first | omega | (simp only [ByteArray.size_append] at *; omega))])
            simp only [Act.put, List.setIfInBounds_toArray, List.set_cons_zero, List.set_cons_succ]
            refine wpAnyH_take (i := 11) (oi := { dst := some 44, op := Go.Op.indexAddr 24 (Go.Operand.tmp 38) (Go.Operand.tmp 43), type := 0, pos := _, after := #[{ on := 5, ground := Go.Ground.data }, { on := 10, ground := Go.Ground.data }], guard := none }) (v := ?_) rfl (by kernel_rfl) (by kernel_rfl) (by kernel_rfl) (fun _ _ _ h => h) (Or.inl ⟨by rfl, ?_⟩) (by assumption) ?_
            rotate_left
            · intro w hSw; (try dsimp only at hSw); go_simp <;> first | with_reducible rfl | (rw [if_neg (by first | omega | (simp only [ByteArray.size_append] at *; omega))])
            simp only [Act.put, List.setIfInBounds_toArray, List.set_cons_zero, List.set_cons_succ]
            refine wpAnyH_take (i := 12) (oi := { dst := some 45, op := Go.Op.load 9 (Go.Operand.tmp 44), type := 9, pos := _, after := #[{ on := 11, ground := Go.Ground.data }], guard := none }) (v := ?_) rfl (by kernel_rfl) (by kernel_rfl) (by kernel_rfl) (fun _ _ _ h => h) (Or.inl ⟨by rfl, ?_⟩) (by assumption) ?_
            rotate_left
            · intro w hSw; (try dsimp only at hSw); go_simp <;> first | with_reducible rfl | (rw [if_neg (by first | omega | (simp only [ByteArray.size_append] at *; omega))])
            simp only [Act.put, List.setIfInBounds_toArray, List.set_cons_zero, List.set_cons_succ]
            refine wpAnyH_ready (rs := [13]) (by kernel_rfl) (by simp) ?_
            refine AllReadyH.cons (o := { dst := some 46, op := Go.Op.call { callee := Go.Callee.value (Go.Operand.func 13), args := #[Go.Operand.tmp 33, Go.Operand.tmp 37, Go.Operand.tmp 45], argTypes := #[26, 9, 9] }, type := 4, pos := _, after := #[{ on := 0, ground := Go.Ground.data }, { on := 4, ground := Go.Ground.data }, { on := 12, ground := Go.Ground.data }], guard := none }) rfl (fun K hK => ?_) AllReadyH.nil
            go_simp
            refine (needs_c p _ _ _ _ XD.out.1.P f gg hf hx hy sa sb H1.out H2.out HCK.out HR.out).mono ?_
            rintro e w5 ⟨rfl, hb5⟩
            have X5 := hid (XD.out.keep hb5)
            clear hb5
            obtain ⟨t0, t1, t2, t3⟩ := row4 X5.out.1.row
            have y1 := HZ1.out _ X5.out.2
            have y2 := HZ2.out _ X5.out.2
            go_wp2_with fail
            refine hK.out _ _ ?_ (fun hHeld1 => ?_)
            · exact ⟨t0, t1, t2, t3, y1, y2⟩
            clear hK K
            refine wpAnyH_take (i := 14) (oi := { dst := some 47, op := Go.Op.unOp Go.UnOp.not 4 (Go.Operand.tmp 46), type := 4, pos := _, after := #[{ on := 13, ground := Go.Ground.data }], guard := none }) (v := ?_) rfl (by kernel_rfl) (by kernel_rfl) (by kernel_rfl) (fun _ _ _ h => h) (Or.inl ⟨by rfl, ?_⟩) (by assumption) ?_
            rotate_left
            · intro w hSw; (try dsimp only at hSw); go_simp <;> first | with_reducible rfl | (rw [if_neg (by first | omega | (simp only [ByteArray.size_append] at *; omega))])
            simp only [Act.put, List.setIfInBounds_toArray, List.set_cons_zero, List.set_cons_succ]
            refine wpAnyH_done (by kernel_rfl) ?_ _
            clear s0 s1 s2 s3 t0 t1 t2 t3 y1 y2 z1 z2 hHeld hHeld1 XD XK
            have HIL := hid hil
            clear hrem hrem' hw1 hne
            go_wp2_with (fail)
            go_loopw [5] (fun kk wr => ∃ k : Nat, k ≤ i ∧ kk = .int .i64 (k : Int) ∧ Hid (RdA w p (.slice a0 p.ins.length a1) (.slice b0 p.flows.length b1) (.slice c0 p.outs.length c1) (.slice (some ⟨g, o, none⟩) l.length uc) l wr)) (fun kk _ => i - (intOf kk).toNat)
            case atStart => exact ⟨0, Nat.zero_le _, rfl, X5⟩
            case round =>
              obtain ⟨k, hk, rfl, XK⟩ := hrel
              by_cases hkl : k < i
              · have hkl' : (k : Int) < (i : Int) := by omega
                have hk0 : (0 : Int) ≤ (k : Int) := by omega
                have hkl2 : (k : Int) < (l.length : Int) := by omega
                have z1 := HKC.out _ XK.out.2 k (by omega)
                have z2 := HZ1.out _ XK.out.2
                have hno := HO.out k hkl
                generalize l[k] = sk at *
                go_wp2_with (fail)
                refine wp_region_held_drew (S := fun W => W.cell? ⟨g, o + k, none⟩ = some (.string sk) ∧ W.cell? ⟨g, o + i, none⟩ = some (.string sa)) (by kernel_rfl) ?_ (fun hHeld => ?_)
                · exact ⟨z1, z2⟩
                refine wpAnyH_take (i := 0) (oi := { dst := some 53, op := Go.Op.move (Go.Operand.tmp 3), type := 24, pos := _, after := #[], guard := none }) (v := ?_) rfl (by kernel_rfl) (by kernel_rfl) (by kernel_rfl) (fun _ _ _ h => h) (Or.inl ⟨by rfl, ?_⟩) (by assumption) ?_
                rotate_left
                · intro w hSw; (try dsimp only at hSw); go_simp <;> first | with_reducible rfl | (rw [if_neg (by first | omega | (simp only [ByteArray.size_append] at *; omega))])
                simp only [Act.put, List.setIfInBounds_toArray, List.set_cons_zero, List.set_cons_succ]
                refine wpAnyH_take (i := 1) (oi := { dst := some 54, op := Go.Op.move (Go.Operand.tmp 5), type := 3, pos := _, after := #[], guard := none }) (v := ?_) rfl (by kernel_rfl) (by kernel_rfl) (by kernel_rfl) (fun _ _ _ h => h) (Or.inl ⟨by rfl, ?_⟩) (by assumption) ?_
                rotate_left
                · intro w hSw; (try dsimp only at hSw); go_simp <;> first | with_reducible rfl | (rw [if_neg (by first | omega | (simp only [ByteArray.size_append] at *; omega))])
                simp only [Act.put, List.setIfInBounds_toArray, List.set_cons_zero, List.set_cons_succ]
                refine wpAnyH_take (i := 2) (oi := { dst := some 55, op := Go.Op.indexAddr 24 (Go.Operand.tmp 53) (Go.Operand.tmp 54), type := 0, pos := _, after := #[{ on := 0, ground := Go.Ground.data }, { on := 1, ground := Go.Ground.data }], guard := none }) (v := ?_) rfl (by kernel_rfl) (by kernel_rfl) (by kernel_rfl) (fun _ _ _ h => h) (Or.inl ⟨by rfl, ?_⟩) (by assumption) ?_
                rotate_left
                · intro w hSw; (try dsimp only at hSw); go_simp <;> first | with_reducible rfl | (rw [if_neg (by first | omega | (simp only [ByteArray.size_append] at *; omega))])
                simp only [Act.put, List.setIfInBounds_toArray, List.set_cons_zero, List.set_cons_succ]
                refine wpAnyH_take (i := 3) (oi := { dst := some 56, op := Go.Op.load 9 (Go.Operand.tmp 55), type := 9, pos := _, after := #[{ on := 2, ground := Go.Ground.data }], guard := none }) (v := ?_) rfl (by kernel_rfl) (by kernel_rfl) (by kernel_rfl) (fun _ _ _ h => h) (Or.inl ⟨by rfl, ?_⟩) (by assumption) ?_
                rotate_left
                · intro w hSw; (try dsimp only at hSw); go_simp <;> first | with_reducible rfl | (rw [if_neg (by first | omega | (simp only [ByteArray.size_append] at *; omega))])
                simp only [Act.put, List.setIfInBounds_toArray, List.set_cons_zero, List.set_cons_succ]
                refine wpAnyH_take (i := 4) (oi := { dst := some 57, op := Go.Op.move (Go.Operand.tmp 3), type := 24, pos := _, after := #[], guard := none }) (v := ?_) rfl (by kernel_rfl) (by kernel_rfl) (by kernel_rfl) (fun _ _ _ h => h) (Or.inl ⟨by rfl, ?_⟩) (by assumption) ?_
                rotate_left
                · intro w hSw; (try dsimp only at hSw); go_simp <;> first | with_reducible rfl | (rw [if_neg (by first | omega | (simp only [ByteArray.size_append] at *; omega))])
                simp only [Act.put, List.setIfInBounds_toArray, List.set_cons_zero, List.set_cons_succ]
                refine wpAnyH_take (i := 5) (oi := { dst := some 58, op := Go.Op.move (Go.Operand.tmp 4), type := 3, pos := _, after := #[], guard := none }) (v := ?_) rfl (by kernel_rfl) (by kernel_rfl) (by kernel_rfl) (fun _ _ _ h => h) (Or.inl ⟨by rfl, ?_⟩) (by assumption) ?_
                rotate_left
                · intro w hSw; (try dsimp only at hSw); go_simp <;> first | with_reducible rfl | (rw [if_neg (by first | omega | (simp only [ByteArray.size_append] at *; omega))])
                simp only [Act.put, List.setIfInBounds_toArray, List.set_cons_zero, List.set_cons_succ]
                refine wpAnyH_take (i := 6) (oi := { dst := some 59, op := Go.Op.indexAddr 24 (Go.Operand.tmp 57) (Go.Operand.tmp 58), type := 0, pos := _, after := #[{ on := 4, ground := Go.Ground.data }, { on := 5, ground := Go.Ground.data }], guard := none }) (v := ?_) rfl (by kernel_rfl) (by kernel_rfl) (by kernel_rfl) (fun _ _ _ h => h) (Or.inl ⟨by rfl, ?_⟩) (by assumption) ?_
                rotate_left
                · intro w hSw; (try dsimp only at hSw); go_simp <;> first | with_reducible rfl | (rw [if_neg (by first | omega | (simp only [ByteArray.size_append] at *; omega))])
                simp only [Act.put, List.setIfInBounds_toArray, List.set_cons_zero, List.set_cons_succ]
                refine wpAnyH_take (i := 7) (oi := { dst := some 60, op := Go.Op.load 9 (Go.Operand.tmp 59), type := 9, pos := _, after := #[{ on := 6, ground := Go.Ground.data }], guard := none }) (v := ?_) rfl (by kernel_rfl) (by kernel_rfl) (by kernel_rfl) (fun _ _ _ h => h) (Or.inl ⟨by rfl, ?_⟩) (by assumption) ?_
                rotate_left
                · intro w hSw; (try dsimp only at hSw); go_simp <;> first | with_reducible rfl | (rw [if_neg (by first | omega | (simp only [ByteArray.size_append] at *; omega))])
                simp only [Act.put, List.setIfInBounds_toArray, List.set_cons_zero, List.set_cons_succ]
                refine wpAnyH_take (i := 8) (oi := { dst := some 61, op := Go.Op.binOp Go.BinOp.eql 9 (Go.Operand.tmp 56) (Go.Operand.tmp 60) 9, type := 4, pos := _, after := #[{ on := 3, ground := Go.Ground.data }, { on := 7, ground := Go.Ground.data }], guard := none }) (v := ?_) rfl (by kernel_rfl) (by kernel_rfl) (by kernel_rfl) (fun _ _ _ h => h) (Or.inl ⟨by rfl, ?_⟩) (by assumption) ?_
                rotate_left
                · intro w hSw; (try dsimp only at hSw); go_simp <;> first | with_reducible rfl | (rw [if_neg (by first | omega | (simp only [ByteArray.size_append] at *; omega))])
                simp only [Act.put, List.setIfInBounds_toArray, List.set_cons_zero, List.set_cons_succ]
                refine wpAnyH_done (by kernel_rfl) ?_ _
                have XE := hid (XK.out.keep (Below.refl _ _).drew)
                clear z1 z2 hHeld
                go_wp2_with (fail)
                go_roundw
                case rel => exact ⟨k + 1, by omega, by go_num, XE⟩
                case measure => simp [intOf]; omega
              · have hkl' : ¬ (k : Int) < (i : Int) := by omega
                go_wp2_with (fail)
                go_roundw
                case rel => exact ⟨i + 1, by omega, by go_num, XK⟩
                case measure => simp [intOf]; omega
          · have hil' : ¬ (i : Int) < (l.length : Int) := by omega
            go_wp2_with (fail)
            go_ret
            exact ⟨rfl, XK.out.1.below⟩
    · have hz' : (nmErr p == 0) = false := by simp [hz]
      generalize nmErr p = z at *
      go_wp2_with (fail)
      refine (alive _ X3.out.R X3.out.J).mono ?_
      rintro e w4 ⟨rfl, hb4⟩
      have X4 := hid (X3.out.keep hb4)
      clear hb4
      have HB := hid X4.out.below
      go_wp2_with (fail)
      go_ret
      exact ⟨rfl, HB.out⟩
end Go.Proofs.YtjdlmhkfaodkgaaDoor.Lex
