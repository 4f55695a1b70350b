/-
  The document's own: may instructions be?
  Is a list as it was? Pl.
  A list in memory of its own, and one value more behind it: In.
  Is a list as it was? In.
  CodeChecks: the whole walk.
-/
import Derived.Test.YtdenddknbmiboaaDoorG16
import Derived.Test.YtdenddknbmiboaaDoorG17
import Derived.Test.YtdenddknbmiboaaDoorG13
namespace Go.Proofs.YtdenddknbmiboaaDoor.Lex
set_option linter.unusedVariables false
open Go.ChangeShapes Go.WideShapes Go.ChangeAt Go.RowKit Go.Joins
theorem tyC_one (q : List Nat) : ∀ u ∈ tyC q, u.oneCell' = true := fun u hu => by
  obtain ⟨t, _, rfl⟩ := List.mem_map.1 hu
  rfl
theorem pil_form {W : World} {B : Nat} {v : Value} {q : List Nat} (h : Pil W B v q) : (v = .slice none 0 0 ∧ q = []) ∨ ∃ g c, v = .slice (some ⟨g, 0, none⟩) q.length c ∧ q.length ≤ c := by
  rcases h.2 with ⟨h1, h2⟩ | ⟨g, c, cur, h1, _, _, h2, _⟩
  · exact .inl ⟨h1, List.eq_nil_of_length_eq_zero h2⟩
  · exact .inr ⟨g, c, h1, h2⟩
theorem pil_news {W : World} {B g m c : Nat} {q : List Nat} (h : Pil W B (.slice (some ⟨g, 0, none⟩) m c) q) (hl : q.length = m) : ∀ j u, (tyC q)[j]? = some u → W.cell? ((⟨g, 0, none⟩ : Addr).add j) = some u := fun j u hu => by
  subst hl
  have hj : j < q.length := by
    have := (List.getElem?_eq_some_iff.1 hu).1
    rwa [tyC_len] at this
  have h4 := World.ownsRow.cellAt h j (by omega)
  rw [add_off', Nat.zero_add, h4]
  exact hu
theorem pil_put {W : World} {B m T : Nat} {v : Value} {q : List Nat} (h : W.ownsRow B 27 1 v (0 + m + 1) ([] ++ tyC q ++ [.int .u8 (T : Int)])) (hl : q.length = m) : Pil W B v (q ++ [T]) := by
  subst hl
  unfold Pil
  rw [List.length_append, List.length_singleton]
  have e : tyC (q ++ [T]) = [] ++ tyC q ++ [.int .u8 (T : Int)] := by unfold tyC; rw [List.map_append]; rfl
  rw [e, ← Nat.zero_add q.length]
  exact h
theorem own_one {W : World} {B T : Nat} {v : Value} (h : W.ownsRow B 27 1 v (0 + 1) ([] ++ [.int .u8 (T : Int)])) : Pil W B v ([] ++ [T]) := h
set_option maxRecDepth 100000 in
set_option maxHeartbeats 64000000 in
theorem rcheck_ (ps : List Plc) (l : List Cin) (pv lv : Value) (w : World) (hP : PlR w pv ps) (hL : InR w lv l) : Calls Tryd.prog 10 #[pv, lv] w (CkP w (ckF ps l)) := by
  have RT := @results_two Tryd.f10 4 5 rfl
  have cp := rplaces ps pv w hP
  have HP := hid hP
  obtain ⟨pa, pc, rfl, ⟨hpc, hpm⟩, _⟩ := hP
  obtain ⟨la, lc, rfl, ⟨hlc, hlm⟩, hl0⟩ := hL
  have HC := hid hl0
  clear hl0
  obtain ⟨i0, hi, hz0, hz1, hz2⟩ := info_parts infoT
  cases hb : ps.all mayP with
  | false =>
    have HR : Hid (ckF ps l = 0) := hid (by unfold ckF; rw [if_pos (.inr hb)])
    rw [hb] at cp
    clear hb
    generalize ckF ps l = R at *
    go_enter Tryd.func10, Tryd.ntmps10
    go_wp2_with (go_at_call 20; refine cp.mono ?_; rintro e w1 ⟨rfl, hb1⟩; have HB1 := hid hb1; clear hb1 cp)
    (try simp only [Exit.inBlock, Exit.then])
    refine bodyPost_ret (RT _ _ _) rfl ?_
    exact ⟨by rw [HR.out]; rfl, HB1.out⟩
  | true =>
    have HG := hid hb
    rw [hb] at cp
    clear hb
    by_cases c8 : 800 < l.length
    · have HR : Hid (ckF ps l = 0) := hid (by unfold ckF; rw [if_pos (.inl c8)])
      have c8' : (l.length : Int) > 800 := by omega
      generalize ckF ps l = R at *
      go_enter Tryd.func10, Tryd.ntmps10
      go_wp2_with (go_at_call 20; refine cp.mono ?_; rintro e w1 ⟨rfl, hb1⟩; have HB1 := hid hb1; clear hb1 cp)
      (try simp only [Exit.inBlock, Exit.then])
      refine bodyPost_ret (RT _ _ _) rfl ?_
      exact ⟨by rw [HR.out]; rfl, HB1.out⟩
    have c8' : ¬ (l.length : Int) > 800 := by omega
    have c8d : decide ((800 : Int) < (l.length : Int)) = false := decide_eq_false c8'
    have HV : Hid (ckF ps l = match runF ps [] l with | some [t] => t | _ => 0) := hid (by unfold ckF; rw [if_neg (by rw [HG.out]; simp; omega)]; generalize runF ps [] l = z; rcases z with _ | (_ | ⟨a, _ | ⟨b, c⟩⟩) <;> rfl)
    generalize ckF ps l = R at *
    go_enter Tryd.func10, Tryd.ntmps10
    go_wp2_with (go_at_call 20; refine cp.mono ?_; rintro e w1 ⟨rfl, hb1⟩; have HB1 := hid hb1; clear hb1 cp)
    have S0 : Hid (Pil w1 w.heap.size (.slice none 0 0) []) := hid ⟨rfl, .inl ⟨rfl, rfl⟩⟩
    go_loopw [6, 7] (fun qv i wr => ∃ (k : Nat) (q : List Nat), k ≤ l.length ∧ i = .int .i64 (k : Int) ∧ Hid (runF ps [] (l.take k) = some q) ∧ Hid (Pil wr w.heap.size qv q) ∧ Hid (Below w.heap.size w wr)) (fun _ i _ => l.length - (intOf i).toNat)
    case atStart => exact ⟨0, [], Nat.zero_le _, rfl, hid rfl, S0, HB1⟩
    case round =>
      clear S0 HB1
      obtain ⟨k, q, hk, rfl, HRN, HQ, HBR⟩ := hrel
      rename_i qv _
      have HTYS : Hid (∀ t ∈ q, t = 1 ∨ t = 2) := hid (runF_ty HG.out (q := []) (fun t ht => by cases ht) HRN.out)
      by_cases hkl : k < l.length
      · have hkl' : (k : Int) < (l.length : Int) := by omega
        have hkp : (0 : Int) ≤ (k : Int) := by omega
        obtain ⟨gg, o, rfl, hcc⟩ := HC.out.resolve_left (by intro e; rw [e] at hkl; simp at hkl)
        obtain ⟨hop2, hcc⟩ := hcc k hkl
        have y0 := cell_kept ((hcc 0 (by omega)).trans rfl) HBR.out
        have y1 := cell_kept ((hcc 1 (by omega)).trans rfl) HBR.out
        have y2 := cell_kept ((hcc 2 (by omega)).trans rfl) HBR.out
        rw [Nat.add_zero] at y0
        clear hcc
        have hql : q.length ≤ 100000 := by have := runF_le HRN.out; simp at this; omega
        have HT : Hid (runF ps [] (l.take (k + 1)) = stepF ps l[k] q) := hid (by
          rw [List.take_succ_eq_append_getElem hkl, runF_append, HRN.out]
          show (stepF ps l[k] q).bind (fun q => runF ps q []) = _
          cases stepF ps l[k] q <;> rfl)
        have HN : Hid (stepF ps l[k] q = none → R = 0) := hid (fun h => by
          rw [HV.out]
          have e : l = l.take k ++ l[k] :: l.drop (k + 1) := by rw [List.getElem_cons_drop, List.take_append_drop]
          have e2 : runF ps [] l = none := by
            rw [e, runF_append, HRN.out]
            show (stepF ps l[k] q).bind (fun q => runF ps q _) = none
            rw [h]
            rfl
          rw [e2])
        generalize l[k] = y at *
        have hal := (Below.refl wr.heap.size wr).alloc (Nat.le_refl _) (.cells #[.int .u8 (y.op : Int), .int .i64 y.n, .int .i64 y.ago] 38)
        have hr1 : (wr.alloc (.cells #[.int .u8 (y.op : Int), .int .i64 y.n, .int .i64 y.ago] 38)).heap[wr.heap.size]? = some (.cells #[.int .u8 (y.op : Int), .int .i64 y.n, .int .i64 y.ago] 38 (0, 0)) := heap_alloc_new _ _
        have z0 := (cell_of_row _ _ 0 _ 38 (0, 0) hr1).trans rfl
        have z1 := (cell_of_row _ _ 1 _ 38 (0, 0) hr1).trans rfl
        have z2 := (cell_of_row _ _ 2 _ 38 (0, 0) hr1).trans rfl
        clear hr1
        have cm := rmany y.op (wr.alloc (.cells #[.int .u8 (y.op : Int), .int .i64 y.n, .int .i64 y.ago] 38))
        by_cases hop : 4 ≤ y.op ∧ y.op ≤ 18
        · obtain ⟨tk, hte⟩ : ∃ tk, tk = tkF y.op := ⟨_, rfl⟩
          have HTE := hid hte
          have htk : 1 ≤ tk ∧ tk ≤ 3 := by rw [hte]; unfold tkF; split <;> (try split) <;> omega
          obtain ⟨htk1, htk3⟩ := htk
          clear hte
          rw [show manyF y.op = (tk : Int) by unfold manyF; rw [if_pos hop, HTE.out]] at cm
          have hk0 : ¬ (tk : Int) < 0 := by omega
          by_cases c1 : q.length < tk
          · obtain ⟨qa, qc, rfl⟩ := own_form_Pl HQ.out
            have HST : Hid (stepF ps y q = none) := hid (by unfold stepF; rw [if_pos hop, if_pos (by left; rw [← HTE.out]; exact c1)])
            have HR := hid (HN.out HST.out)
            have hc1 : ¬ (tk : Int) ≤ (q.length : Int) := by omega
            have hc2 : decide ((tk : Int) ≤ (q.length : Int)) = false := decide_eq_false hc1
            clear c1
            go_wp2_with (first
              | (go_at_call 21
                 refine cm.mono ?_
                 rintro e w2 ⟨rfl, hb2⟩
                 have x0 := cell_kept z0 hb2
                 have x1 := cell_kept z1 hb2
                 have x2 := cell_kept z2 hb2
                 have HB2 := hid (HBR.out.trans ((hal.trans (hb2.mono hal.size)).mono HBR.out.size))
                 have HP2 := hid (HP.out.keep HB2.out)
                 have HQ2 := hid (own_same HQ.out (fun b e => (hal.trans (hb2.mono hal.size)).block b (HQ.out.lt b e).2))
                 clear hb2 hal cm z0 z1 z2))
            (try simp only [Exit.inBlock, Exit.then])
            refine bodyPost_ret (RT _ _ _) rfl ?_
            exact ⟨by rw [HR.out]; rfl, HB2.out⟩
          obtain ⟨m, hm⟩ : ∃ m, q.length = m + tk := ⟨q.length - tk, by omega⟩
          obtain ⟨g, qc, rfl, hqc, _, _, _⟩ := HQ.out.some (by omega)
          have hc1 : (tk : Int) ≤ (q.length : Int) := by omega
          by_cases c2 : y.n = 0
          · have n0 : (y.n == 0) = true := by rw [beq_iff_eq]; exact c2
            have hsub : (q.length : Int) - (tk : Int) = (m : Int) := by omega
            have hm0 : ¬ (m : Int) < 0 := by omega
            have hw : IntKind.i64.wrap (m : Int) = (m : Int) := by rw [IntKind.wrap_i64]; omega
            have hmt : ((m : Int)).toNat = m := by omega
            have hs2 : q.length - m = tk := by omega
            have hmq : (m : Int) ≤ (q.length : Int) := by omega
            have hmh : m ≤ 100000 := by omega
            have hmN : m ≤ q.length := by omega
            have hmc : (m : Int) ≤ (qc : Int) := by omega
            have hqcc : (q.length : Int) ≤ (qc : Int) := by omega
            have hne : ¬ qc = m := by omega
            have hne' : ¬ m = qc := by omega
            have HDL : Hid ((q.drop m).length = tk) := hid (by rw [List.length_drop]; omega)
            have HDT : Hid (∀ t ∈ q.drop m, t = 1 ∨ t = 2) := hid (fun t ht => HTYS.out t (List.mem_of_mem_drop ht))
            obtain ⟨T, hTV⟩ : ∃ T, lvF y.op (q.drop m) = T := ⟨_, rfl⟩
            have HTV := hid hTV
            have HC2 := hid c2
            have HM := hid hm
            clear hTV c2 c1 hm
            by_cases c3 : y.ago = 0
            · have a0 : (y.ago == 0) = true := by rw [beq_iff_eq]; exact c3
              have HC3 := hid c3
              clear c3
              have HSU : Hid (stepF ps y q = if T = 0 then none else some (q.take m ++ [T])) := hid (by unfold stepF; rw [if_pos hop, if_neg (by intro h; have h0 := HM.out; have h1 := HTE.out; have h2 := HC2.out; have h3 := HC3.out; unfold agF at h; split at h <;> omega), show q.length - tkF y.op = m by have := HTE.out; have := HM.out; omega, HTV.out])
              go_wp2_with (first
                | (go_at_call 21
                   refine cm.mono ?_
                   rintro e w2 ⟨rfl, hb2⟩
                   have x0 := cell_kept z0 hb2
                   have x1 := cell_kept z1 hb2
                   have x2 := cell_kept z2 hb2
                   have HB2 := hid (HBR.out.trans ((hal.trans (hb2.mono hal.size)).mono HBR.out.size))
                   have HP2 := hid (HP.out.keep HB2.out)
                   have HQ2 := hid (own_same HQ.out (fun b e => (hal.trans (hb2.mono hal.size)).block b (HQ.out.lt b e).2))
                   clear hb2 hal cm z0 z1 z2))
              have c23 : ∀ V, Below w2.heap.size w2 V → Calls Tryd.prog 23 #[.int .u8 (y.op : Int), .slice (some ⟨g, m, none⟩) tk (qc - m)] V fun e w' => e = .returned (.int .u8 (T : Int)) ∧ Below V.heap.size V w' := fun V hb => by
                have hr := rone y.op (q.drop m) g m (qc - m) V hop (by rw [HDL.out, HTE.out]) HDT.out (by rw [HDL.out]; omega) (by
                  have hp := own_same HQ2.out (fun b e => hb.block b (HQ2.out.lt b e).2)
                  obtain ⟨g', c', he, _, _, _, hty⟩ := Pil.some hp (by omega)
                  injection he with e1
                  injection e1 with e1
                  injection e1 with e1
                  subst e1
                  have := hty.drop m
                  rwa [Nat.zero_add] at this)
                rw [HDL.out, HTV.out] at hr
                exact hr
              refine wp_region_held_drew (S := fun V => V.cell? ⟨wr.heap.size, 0, none⟩ = some (.int .u8 (y.op : Int))) (by kernel_rfl) ?_ (fun hHeld => ?_)
              · exact x0
              refine wpAnyH_take (i := 0) (oi := { dst := some 66, op := Go.Op.fieldAddr 38 (Go.Operand.tmp 8) 0, type := 0, pos := _, after := #[], guard := none }) (v := ?_) rfl (by kernel_rfl) (by kernel_rfl) (by kernel_rfl) (fun _ _ _ h => h) (Or.inl ⟨by rfl, ?_⟩) (by assumption) ?_
              rotate_left
              · intro w hSw; (try dsimp only at hSw); go_simp <;> first | with_reducible rfl | (rw [if_neg (by first | omega | (simp only [ByteArray.size_append] at *; omega))])
              simp only [Act.put, List.setIfInBounds_toArray, List.set_cons_zero, List.set_cons_succ]
              refine wpAnyH_take (i := 1) (oi := { dst := some 67, op := Go.Op.load 36 (Go.Operand.tmp 66), type := 36, pos := _, after := #[{ on := 0, ground := Go.Ground.data }], guard := none }) (v := ?_) rfl (by kernel_rfl) (by kernel_rfl) (by kernel_rfl) (fun _ _ _ h => h) (Or.inl ⟨by rfl, ?_⟩) (by assumption) ?_
              rotate_left
              · intro w hSw; (try dsimp only at hSw); go_simp <;> first | with_reducible rfl | (rw [if_neg (by first | omega | (simp only [ByteArray.size_append] at *; omega))])
              simp only [Act.put, List.setIfInBounds_toArray, List.set_cons_zero, List.set_cons_succ]
              refine wpAnyH_take (i := 2) (oi := { dst := some 68, op := Go.Op.move (Go.Operand.tmp 6), type := 60, pos := _, after := #[], guard := none }) (v := ?_) rfl (by kernel_rfl) (by kernel_rfl) (by kernel_rfl) (fun _ _ _ h => h) (Or.inl ⟨by rfl, ?_⟩) (by assumption) ?_
              rotate_left
              · intro w hSw; (try dsimp only at hSw); go_simp <;> first | with_reducible rfl | (rw [if_neg (by first | omega | (simp only [ByteArray.size_append] at *; omega))])
              simp only [Act.put, List.setIfInBounds_toArray, List.set_cons_zero, List.set_cons_succ]
              refine wpAnyH_take (i := 3) (oi := { dst := some 69, op := Go.Op.move (Go.Operand.tmp 6), type := 60, pos := _, after := #[], guard := none }) (v := ?_) rfl (by kernel_rfl) (by kernel_rfl) (by kernel_rfl) (fun _ _ _ h => h) (Or.inl ⟨by rfl, ?_⟩) (by assumption) ?_
              rotate_left
              · intro w hSw; (try dsimp only at hSw); go_simp <;> first | with_reducible rfl | (rw [if_neg (by first | omega | (simp only [ByteArray.size_append] at *; omega))])
              simp only [Act.put, List.setIfInBounds_toArray, List.set_cons_zero, List.set_cons_succ]
              refine wpAnyH_take (i := 4) (oi := { dst := some 70, op := Go.Op.call { callee := Go.Callee.builtin Go.Builtin.len, args := #[Go.Operand.tmp 69], argTypes := #[60] }, type := 3, pos := _, after := #[{ on := 3, ground := Go.Ground.data }], guard := none }) (v := ?_) rfl (by kernel_rfl) (by kernel_rfl) (by kernel_rfl) (fun _ _ _ h => h) (Or.inl ⟨by rfl, ?_⟩) (by assumption) ?_
              rotate_left
              · intro w hSw; (try dsimp only at hSw); go_simp <;> first | with_reducible rfl | (rw [if_neg (by first | omega | (simp only [ByteArray.size_append] at *; omega))])
              simp only [Act.put, List.setIfInBounds_toArray, List.set_cons_zero, List.set_cons_succ]
              refine wpAnyH_take (i := 5) (oi := { dst := some 71, op := Go.Op.move (Go.Operand.tmp 9), type := 3, pos := _, after := #[], guard := none }) (v := ?_) rfl (by kernel_rfl) (by kernel_rfl) (by kernel_rfl) (fun _ _ _ h => h) (Or.inl ⟨by rfl, ?_⟩) (by assumption) ?_
              rotate_left
              · intro w hSw; (try dsimp only at hSw); go_simp <;> first | with_reducible rfl | (rw [if_neg (by first | omega | (simp only [ByteArray.size_append] at *; omega))])
              simp only [Act.put, List.setIfInBounds_toArray, List.set_cons_zero, List.set_cons_succ]
              refine wpAnyH_take (i := 6) (oi := { dst := some 72, op := Go.Op.binOp Go.BinOp.sub 3 (Go.Operand.tmp 70) (Go.Operand.tmp 71) 3, type := 3, pos := _, after := #[{ on := 4, ground := Go.Ground.data }, { on := 5, ground := Go.Ground.data }], guard := none }) (v := ?_) rfl (by kernel_rfl) (by kernel_rfl) (by kernel_rfl) (fun _ _ _ h => h) (Or.inl ⟨by rfl, ?_⟩) (by assumption) ?_
              rotate_left
              · intro w hSw; (try dsimp only at hSw); go_simp <;> first | with_reducible rfl | (rw [if_neg (by first | omega | (simp only [ByteArray.size_append] at *; omega))])
              simp only [Act.put, List.setIfInBounds_toArray, List.set_cons_zero, List.set_cons_succ]
              refine wpAnyH_take (i := 7) (oi := { dst := some 73, op := Go.Op.slice 60 (Go.Operand.tmp 68) (some (Go.Operand.tmp 72)) none none, type := 60, pos := _, after := #[{ on := 2, ground := Go.Ground.data }, { on := 6, ground := Go.Ground.data }], guard := none }) (v := ?_) rfl (by kernel_rfl) (by kernel_rfl) (by kernel_rfl) (fun _ _ _ h => h) (Or.inl ⟨by rfl, ?_⟩) (by assumption) ?_
              rotate_left
              · intro w hSw; (try dsimp only at hSw); go_simp <;> first | with_reducible rfl | (rw [if_neg (by first | omega | (simp only [ByteArray.size_append] at *; omega))])
              simp only [Act.put, List.setIfInBounds_toArray, List.set_cons_zero, List.set_cons_succ]
              refine wpAnyH_ready (rs := [8]) (by kernel_rfl) (by simp) ?_
              refine AllReadyH.cons (o := { dst := some 74, op := Go.Op.call { callee := Go.Callee.value (Go.Operand.func 23), args := #[Go.Operand.tmp 67, Go.Operand.tmp 73], argTypes := #[36, 60] }, type := 27, pos := _, after := #[{ on := 1, ground := Go.Ground.data }, { on := 7, ground := Go.Ground.data }], guard := none }) rfl (fun K hK => ?_) AllReadyH.nil
              go_simp
              refine (c23 _ (Below.refl _ _).drew).mono ?_
              rintro e w4 ⟨rfl, hb4⟩
              have hk4 := (Below.refl w2.heap.size w2).drew.trans hb4
              go_wp2_with fail
              refine hK.out _ _ ?_ (fun hHeld1 => ?_)
              · exact cell_kept x0 hk4
              clear hK K
              refine wpAnyH_take (i := 9) (oi := { dst := some 10, op := Go.Op.assign (Go.Operand.tmp 74), type := 27, pos := _, after := #[{ on := 8, ground := Go.Ground.data }, { on := 8, ground := Go.Ground.chain }, { on := 0, ground := Go.Ground.phase }, { on := 1, ground := Go.Ground.phase }, { on := 2, ground := Go.Ground.phase }, { on := 3, ground := Go.Ground.phase }, { on := 4, ground := Go.Ground.phase }, { on := 5, ground := Go.Ground.phase }, { on := 6, ground := Go.Ground.phase }, { on := 7, ground := Go.Ground.phase }, { on := 8, ground := Go.Ground.phase }], guard := none }) (v := ?_) rfl (by kernel_rfl) (by kernel_rfl) (by kernel_rfl) (fun _ _ _ h => h) (Or.inl ⟨by rfl, ?_⟩) (by assumption) ?_
              rotate_left
              · intro w hSw; (try dsimp only at hSw); go_simp <;> first | with_reducible rfl | (rw [if_neg (by first | omega | (simp only [ByteArray.size_append] at *; omega))])
              simp only [Act.put, List.setIfInBounds_toArray, List.set_cons_zero, List.set_cons_succ]
              refine wpAnyH_done (by kernel_rfl) ?_ _
              clear c23
              have HB4 := hid (HB2.out.trans (((Below.refl w2.heap.size w2).drew.trans hb4).mono HB2.out.size))
              have HQ4 := hid (own_same HQ2.out (fun b e => hk4.block b (HQ2.out.lt b e).2))
              clear hHeld hHeld1 hb4 hk4 x0 x1 x2
              by_cases hT0 : T = 0
              · have HR := hid (HN.out (by rw [HSU.out, if_pos hT0]))
                have t0 : ((T : Int) == 0) = true := by rw [beq_iff_eq]; omega
                clear hT0
                go_wp2_with (fail)
                (try simp only [Exit.inBlock, Exit.then])
                refine bodyPost_ret (RT _ _ _) rfl ?_
                exact ⟨by rw [HR.out]; rfl, HB4.out⟩
              · have t0 : ((T : Int) == 0) = false := by rw [beq_eq_false_iff_ne]; omega
                have HST : Hid (stepF ps y q = some (q.take m ++ [T])) := hid (by rw [HSU.out, if_neg hT0])
                clear hT0
                have HB3 := HB4
                have HTL : Hid ((q.take m).length = m) := hid (by rw [List.length_take]; omega)
                have HTK := hid (Pil.take HQ4.out m (by omega))
                have HX1 := hid trivial
                go_wp2_with (first
                  | (have hm := HX1
                     clear hm HX1
                     at_builtin
                     refine wpList_append_own_at _ rfl _ _ 60 rfl w.heap.size 27 i0 (.int .u8 0) 1 1 Tryd.underlying60 hi hz0 hz1 hz2 rfl (by decide) (.slice none 0 0) 0 [] rfl (own_none _ _ _ _) ⟨g, 0, none⟩ m qc (tyC (q.take m)) rfl (by rw [tyC_len, Nat.mul_one, HTL.out]) (pil_news (q := (q.take m)) (HTK.out : Pil _ w.heap.size (.slice (some ⟨g, 0, none⟩) m qc) (q.take m)) HTL.out) (tyC_one _) (by unfold maxLen; omega) (by omega) HB3.out.size ?_
                     intro v5 w5 hown5 hgr5 _ _
                     have HO5 := hid hown5
                     have HB5 := hid (HB3.out.grown hgr5 HB3.out.size (fun j hj => by cases hj))
                     have HX2 := hid trivial
                     clear hown5 hgr5)
                  | (have hm := HX2
                     clear hm HX2
                     at_builtin
                     have hal5 := (Below.refl w5.heap.size w5).alloc (Nat.le_refl _) (.cells #[.int .u8 (T : Int)] 27)
                     refine wpList_append_own_at _ rfl _ _ 60 rfl w.heap.size 27 i0 (.int .u8 0) 1 1 Tryd.underlying60 hi hz0 hz1 hz2 rfl (by decide) v5 _ _ rfl (own_same HO5.out (fun b e => hal5.block b (HO5.out.lt b e).2)) ⟨w5.heap.size, 0, none⟩ 1 1 [.int .u8 (T : Int)] rfl rfl (next_cells w5 [.int .u8 (T : Int)] 27) (by simp [Value.oneCell']) (by unfold maxLen; omega) (by omega) (Nat.le_trans HB5.out.size hal5.size) ?_
                     intro v6 w6 hown6 hgr6 _ _
                     have HO6 := hid hown6
                     have HB6 := hid ((HB5.out.trans (hal5.mono HB5.out.size)).grown hgr6 (Nat.le_trans HB5.out.size hal5.size) (fun j hj => (HO5.out.lt j hj).1))
                     clear hown6 hgr6 hal5))
                go_roundw
                case rel => exact ⟨k + 1, q.take m ++ [T], by omega, by go_num, hid (by rw [HT.out, HST.out]), hid (pil_put HO6.out HTL.out), HB6⟩
                case measure => simp [intOf]; omega
            · have a0 : (y.ago == 0) = false := by rw [beq_eq_false_iff_ne]; exact c3
              by_cases c4 : y.op = 18
              · have b18 : ((y.op : Int) == 18) = true := by rw [beq_iff_eq]; omega
                by_cases c5 : y.ago > 0
                · by_cases c6 : y.ago ≤ 32
                  · have HC4 := hid c4
                    have HC3 := hid c3
                    clear c4 c3
                    have HSU : Hid (stepF ps y q = if T = 0 then none else some (q.take m ++ [T])) := hid (by unfold stepF; rw [if_pos hop, if_neg (by intro h; have h0 := HM.out; have h1 := HTE.out; have h2 := HC2.out; have h4 := HC4.out; unfold agF at h; split at h <;> omega), show q.length - tkF y.op = m by have := HTE.out; have := HM.out; omega, HTV.out])
                    go_wp2_with (first
                      | (go_at_call 21
                         refine cm.mono ?_
                         rintro e w2 ⟨rfl, hb2⟩
                         have x0 := cell_kept z0 hb2
                         have x1 := cell_kept z1 hb2
                         have x2 := cell_kept z2 hb2
                         have HB2 := hid (HBR.out.trans ((hal.trans (hb2.mono hal.size)).mono HBR.out.size))
                         have HP2 := hid (HP.out.keep HB2.out)
                         have HQ2 := hid (own_same HQ.out (fun b e => (hal.trans (hb2.mono hal.size)).block b (HQ.out.lt b e).2))
                         clear hb2 hal cm z0 z1 z2))
                    have c23 : ∀ V, Below w2.heap.size w2 V → Calls Tryd.prog 23 #[.int .u8 (y.op : Int), .slice (some ⟨g, m, none⟩) tk (qc - m)] V fun e w' => e = .returned (.int .u8 (T : Int)) ∧ Below V.heap.size V w' := fun V hb => by
                      have hr := rone y.op (q.drop m) g m (qc - m) V hop (by rw [HDL.out, HTE.out]) HDT.out (by rw [HDL.out]; omega) (by
                        have hp := own_same HQ2.out (fun b e => hb.block b (HQ2.out.lt b e).2)
                        obtain ⟨g', c', he, _, _, _, hty⟩ := Pil.some hp (by omega)
                        injection he with e1
                        injection e1 with e1
                        injection e1 with e1
                        subst e1
                        have := hty.drop m
                        rwa [Nat.zero_add] at this)
                      rw [HDL.out, HTV.out] at hr
                      exact hr
                    refine wp_region_held_drew (S := fun V => V.cell? ⟨wr.heap.size, 0, none⟩ = some (.int .u8 (y.op : Int))) (by kernel_rfl) ?_ (fun hHeld => ?_)
                    · exact x0
                    refine wpAnyH_take (i := 0) (oi := { dst := some 66, op := Go.Op.fieldAddr 38 (Go.Operand.tmp 8) 0, type := 0, pos := _, after := #[], guard := none }) (v := ?_) rfl (by kernel_rfl) (by kernel_rfl) (by kernel_rfl) (fun _ _ _ h => h) (Or.inl ⟨by rfl, ?_⟩) (by assumption) ?_
                    rotate_left
                    · intro w hSw; (try dsimp only at hSw); go_simp <;> first | with_reducible rfl | (rw [if_neg (by first | omega | (simp only [ByteArray.size_append] at *; omega))])
                    simp only [Act.put, List.setIfInBounds_toArray, List.set_cons_zero, List.set_cons_succ]
                    refine wpAnyH_take (i := 1) (oi := { dst := some 67, op := Go.Op.load 36 (Go.Operand.tmp 66), type := 36, pos := _, after := #[{ on := 0, ground := Go.Ground.data }], guard := none }) (v := ?_) rfl (by kernel_rfl) (by kernel_rfl) (by kernel_rfl) (fun _ _ _ h => h) (Or.inl ⟨by rfl, ?_⟩) (by assumption) ?_
                    rotate_left
                    · intro w hSw; (try dsimp only at hSw); go_simp <;> first | with_reducible rfl | (rw [if_neg (by first | omega | (simp only [ByteArray.size_append] at *; omega))])
                    simp only [Act.put, List.setIfInBounds_toArray, List.set_cons_zero, List.set_cons_succ]
                    refine wpAnyH_take (i := 2) (oi := { dst := some 68, op := Go.Op.move (Go.Operand.tmp 6), type := 60, pos := _, after := #[], guard := none }) (v := ?_) rfl (by kernel_rfl) (by kernel_rfl) (by kernel_rfl) (fun _ _ _ h => h) (Or.inl ⟨by rfl, ?_⟩) (by assumption) ?_
                    rotate_left
                    · intro w hSw; (try dsimp only at hSw); go_simp <;> first | with_reducible rfl | (rw [if_neg (by first | omega | (simp only [ByteArray.size_append] at *; omega))])
                    simp only [Act.put, List.setIfInBounds_toArray, List.set_cons_zero, List.set_cons_succ]
                    refine wpAnyH_take (i := 3) (oi := { dst := some 69, op := Go.Op.move (Go.Operand.tmp 6), type := 60, pos := _, after := #[], guard := none }) (v := ?_) rfl (by kernel_rfl) (by kernel_rfl) (by kernel_rfl) (fun _ _ _ h => h) (Or.inl ⟨by rfl, ?_⟩) (by assumption) ?_
                    rotate_left
                    · intro w hSw; (try dsimp only at hSw); go_simp <;> first | with_reducible rfl | (rw [if_neg (by first | omega | (simp only [ByteArray.size_append] at *; omega))])
                    simp only [Act.put, List.setIfInBounds_toArray, List.set_cons_zero, List.set_cons_succ]
                    refine wpAnyH_take (i := 4) (oi := { dst := some 70, op := Go.Op.call { callee := Go.Callee.builtin Go.Builtin.len, args := #[Go.Operand.tmp 69], argTypes := #[60] }, type := 3, pos := _, after := #[{ on := 3, ground := Go.Ground.data }], guard := none }) (v := ?_) rfl (by kernel_rfl) (by kernel_rfl) (by kernel_rfl) (fun _ _ _ h => h) (Or.inl ⟨by rfl, ?_⟩) (by assumption) ?_
                    rotate_left
                    · intro w hSw; (try dsimp only at hSw); go_simp <;> first | with_reducible rfl | (rw [if_neg (by first | omega | (simp only [ByteArray.size_append] at *; omega))])
                    simp only [Act.put, List.setIfInBounds_toArray, List.set_cons_zero, List.set_cons_succ]
                    refine wpAnyH_take (i := 5) (oi := { dst := some 71, op := Go.Op.move (Go.Operand.tmp 9), type := 3, pos := _, after := #[], guard := none }) (v := ?_) rfl (by kernel_rfl) (by kernel_rfl) (by kernel_rfl) (fun _ _ _ h => h) (Or.inl ⟨by rfl, ?_⟩) (by assumption) ?_
                    rotate_left
                    · intro w hSw; (try dsimp only at hSw); go_simp <;> first | with_reducible rfl | (rw [if_neg (by first | omega | (simp only [ByteArray.size_append] at *; omega))])
                    simp only [Act.put, List.setIfInBounds_toArray, List.set_cons_zero, List.set_cons_succ]
                    refine wpAnyH_take (i := 6) (oi := { dst := some 72, op := Go.Op.binOp Go.BinOp.sub 3 (Go.Operand.tmp 70) (Go.Operand.tmp 71) 3, type := 3, pos := _, after := #[{ on := 4, ground := Go.Ground.data }, { on := 5, ground := Go.Ground.data }], guard := none }) (v := ?_) rfl (by kernel_rfl) (by kernel_rfl) (by kernel_rfl) (fun _ _ _ h => h) (Or.inl ⟨by rfl, ?_⟩) (by assumption) ?_
                    rotate_left
                    · intro w hSw; (try dsimp only at hSw); go_simp <;> first | with_reducible rfl | (rw [if_neg (by first | omega | (simp only [ByteArray.size_append] at *; omega))])
                    simp only [Act.put, List.setIfInBounds_toArray, List.set_cons_zero, List.set_cons_succ]
                    refine wpAnyH_take (i := 7) (oi := { dst := some 73, op := Go.Op.slice 60 (Go.Operand.tmp 68) (some (Go.Operand.tmp 72)) none none, type := 60, pos := _, after := #[{ on := 2, ground := Go.Ground.data }, { on := 6, ground := Go.Ground.data }], guard := none }) (v := ?_) rfl (by kernel_rfl) (by kernel_rfl) (by kernel_rfl) (fun _ _ _ h => h) (Or.inl ⟨by rfl, ?_⟩) (by assumption) ?_
                    rotate_left
                    · intro w hSw; (try dsimp only at hSw); go_simp <;> first | with_reducible rfl | (rw [if_neg (by first | omega | (simp only [ByteArray.size_append] at *; omega))])
                    simp only [Act.put, List.setIfInBounds_toArray, List.set_cons_zero, List.set_cons_succ]
                    refine wpAnyH_ready (rs := [8]) (by kernel_rfl) (by simp) ?_
                    refine AllReadyH.cons (o := { dst := some 74, op := Go.Op.call { callee := Go.Callee.value (Go.Operand.func 23), args := #[Go.Operand.tmp 67, Go.Operand.tmp 73], argTypes := #[36, 60] }, type := 27, pos := _, after := #[{ on := 1, ground := Go.Ground.data }, { on := 7, ground := Go.Ground.data }], guard := none }) rfl (fun K hK => ?_) AllReadyH.nil
                    go_simp
                    refine (c23 _ (Below.refl _ _).drew).mono ?_
                    rintro e w4 ⟨rfl, hb4⟩
                    have hk4 := (Below.refl w2.heap.size w2).drew.trans hb4
                    go_wp2_with fail
                    refine hK.out _ _ ?_ (fun hHeld1 => ?_)
                    · exact cell_kept x0 hk4
                    clear hK K
                    refine wpAnyH_take (i := 9) (oi := { dst := some 10, op := Go.Op.assign (Go.Operand.tmp 74), type := 27, pos := _, after := #[{ on := 8, ground := Go.Ground.data }, { on := 8, ground := Go.Ground.chain }, { on := 0, ground := Go.Ground.phase }, { on := 1, ground := Go.Ground.phase }, { on := 2, ground := Go.Ground.phase }, { on := 3, ground := Go.Ground.phase }, { on := 4, ground := Go.Ground.phase }, { on := 5, ground := Go.Ground.phase }, { on := 6, ground := Go.Ground.phase }, { on := 7, ground := Go.Ground.phase }, { on := 8, ground := Go.Ground.phase }], guard := none }) (v := ?_) rfl (by kernel_rfl) (by kernel_rfl) (by kernel_rfl) (fun _ _ _ h => h) (Or.inl ⟨by rfl, ?_⟩) (by assumption) ?_
                    rotate_left
                    · intro w hSw; (try dsimp only at hSw); go_simp <;> first | with_reducible rfl | (rw [if_neg (by first | omega | (simp only [ByteArray.size_append] at *; omega))])
                    simp only [Act.put, List.setIfInBounds_toArray, List.set_cons_zero, List.set_cons_succ]
                    refine wpAnyH_done (by kernel_rfl) ?_ _
                    clear c23
                    have HB4 := hid (HB2.out.trans (((Below.refl w2.heap.size w2).drew.trans hb4).mono HB2.out.size))
                    have HQ4 := hid (own_same HQ2.out (fun b e => hk4.block b (HQ2.out.lt b e).2))
                    clear hHeld hHeld1 hb4 hk4 x0 x1 x2
                    by_cases hT0 : T = 0
                    · have HR := hid (HN.out (by rw [HSU.out, if_pos hT0]))
                      have t0 : ((T : Int) == 0) = true := by rw [beq_iff_eq]; omega
                      clear hT0
                      go_wp2_with (fail)
                      (try simp only [Exit.inBlock, Exit.then])
                      refine bodyPost_ret (RT _ _ _) rfl ?_
                      exact ⟨by rw [HR.out]; rfl, HB4.out⟩
                    · have t0 : ((T : Int) == 0) = false := by rw [beq_eq_false_iff_ne]; omega
                      have HST : Hid (stepF ps y q = some (q.take m ++ [T])) := hid (by rw [HSU.out, if_neg hT0])
                      clear hT0
                      have HB3 := HB4
                      have HTL : Hid ((q.take m).length = m) := hid (by rw [List.length_take]; omega)
                      have HTK := hid (Pil.take HQ4.out m (by omega))
                      have HX1 := hid trivial
                      go_wp2_with (first
                        | (have hm := HX1
                           clear hm HX1
                           at_builtin
                           refine wpList_append_own_at _ rfl _ _ 60 rfl w.heap.size 27 i0 (.int .u8 0) 1 1 Tryd.underlying60 hi hz0 hz1 hz2 rfl (by decide) (.slice none 0 0) 0 [] rfl (own_none _ _ _ _) ⟨g, 0, none⟩ m qc (tyC (q.take m)) rfl (by rw [tyC_len, Nat.mul_one, HTL.out]) (pil_news (q := (q.take m)) (HTK.out : Pil _ w.heap.size (.slice (some ⟨g, 0, none⟩) m qc) (q.take m)) HTL.out) (tyC_one _) (by unfold maxLen; omega) (by omega) HB3.out.size ?_
                           intro v5 w5 hown5 hgr5 _ _
                           have HO5 := hid hown5
                           have HB5 := hid (HB3.out.grown hgr5 HB3.out.size (fun j hj => by cases hj))
                           have HX2 := hid trivial
                           clear hown5 hgr5)
                        | (have hm := HX2
                           clear hm HX2
                           at_builtin
                           have hal5 := (Below.refl w5.heap.size w5).alloc (Nat.le_refl _) (.cells #[.int .u8 (T : Int)] 27)
                           refine wpList_append_own_at _ rfl _ _ 60 rfl w.heap.size 27 i0 (.int .u8 0) 1 1 Tryd.underlying60 hi hz0 hz1 hz2 rfl (by decide) v5 _ _ rfl (own_same HO5.out (fun b e => hal5.block b (HO5.out.lt b e).2)) ⟨w5.heap.size, 0, none⟩ 1 1 [.int .u8 (T : Int)] rfl rfl (next_cells w5 [.int .u8 (T : Int)] 27) (by simp [Value.oneCell']) (by unfold maxLen; omega) (by omega) (Nat.le_trans HB5.out.size hal5.size) ?_
                           intro v6 w6 hown6 hgr6 _ _
                           have HO6 := hid hown6
                           have HB6 := hid ((HB5.out.trans (hal5.mono HB5.out.size)).grown hgr6 (Nat.le_trans HB5.out.size hal5.size) (fun j hj => (HO5.out.lt j hj).1))
                           clear hown6 hgr6 hal5))
                      go_roundw
                      case rel => exact ⟨k + 1, q.take m ++ [T], by omega, by go_num, hid (by rw [HT.out, HST.out]), hid (pil_put HO6.out HTL.out), HB6⟩
                      case measure => simp [intOf]; omega
                  · have h6 : decide (y.ago ≤ 32) = false := decide_eq_false c6
                    have HST : Hid (stepF ps y q = none) := hid (by unfold stepF; rw [if_pos hop, if_pos (by right; right; right; unfold agF; rw [if_pos c4]; omega)])
                    have HR := hid (HN.out HST.out)
                    clear c4 c3
                    go_wp2_with (first
                      | (go_at_call 21
                         refine cm.mono ?_
                         rintro e w2 ⟨rfl, hb2⟩
                         have x0 := cell_kept z0 hb2
                         have x1 := cell_kept z1 hb2
                         have x2 := cell_kept z2 hb2
                         have HB2 := hid (HBR.out.trans ((hal.trans (hb2.mono hal.size)).mono HBR.out.size))
                         have HP2 := hid (HP.out.keep HB2.out)
                         have HQ2 := hid (own_same HQ.out (fun b e => (hal.trans (hb2.mono hal.size)).block b (HQ.out.lt b e).2))
                         clear hb2 hal cm z0 z1 z2))
                    (try simp only [Exit.inBlock, Exit.then])
                    refine bodyPost_ret (RT _ _ _) rfl ?_
                    exact ⟨by rw [HR.out]; rfl, HB2.out⟩
                · have h5 : decide ((0 : Int) < y.ago) = false := decide_eq_false c5
                  have HST : Hid (stepF ps y q = none) := hid (by unfold stepF; rw [if_pos hop, if_pos (by right; right; left; omega)])
                  have HR := hid (HN.out HST.out)
                  clear c4 c3
                  go_wp2_with (first
                    | (go_at_call 21
                       refine cm.mono ?_
                       rintro e w2 ⟨rfl, hb2⟩
                       have x0 := cell_kept z0 hb2
                       have x1 := cell_kept z1 hb2
                       have x2 := cell_kept z2 hb2
                       have HB2 := hid (HBR.out.trans ((hal.trans (hb2.mono hal.size)).mono HBR.out.size))
                       have HP2 := hid (HP.out.keep HB2.out)
                       have HQ2 := hid (own_same HQ.out (fun b e => (hal.trans (hb2.mono hal.size)).block b (HQ.out.lt b e).2))
                       clear hb2 hal cm z0 z1 z2))
                  (try simp only [Exit.inBlock, Exit.then])
                  refine bodyPost_ret (RT _ _ _) rfl ?_
                  exact ⟨by rw [HR.out]; rfl, HB2.out⟩
              · have b18 : ((y.op : Int) == 18) = false := by rw [beq_eq_false_iff_ne]; omega
                have HST : Hid (stepF ps y q = none) := hid (by unfold stepF; rw [if_pos hop, if_pos (by right; right; unfold agF; rw [if_neg c4]; omega)])
                have HR := hid (HN.out HST.out)
                clear c4 c3
                go_wp2_with (first
                  | (go_at_call 21
                     refine cm.mono ?_
                     rintro e w2 ⟨rfl, hb2⟩
                     have x0 := cell_kept z0 hb2
                     have x1 := cell_kept z1 hb2
                     have x2 := cell_kept z2 hb2
                     have HB2 := hid (HBR.out.trans ((hal.trans (hb2.mono hal.size)).mono HBR.out.size))
                     have HP2 := hid (HP.out.keep HB2.out)
                     have HQ2 := hid (own_same HQ.out (fun b e => (hal.trans (hb2.mono hal.size)).block b (HQ.out.lt b e).2))
                     clear hb2 hal cm z0 z1 z2))
                (try simp only [Exit.inBlock, Exit.then])
                refine bodyPost_ret (RT _ _ _) rfl ?_
                exact ⟨by rw [HR.out]; rfl, HB2.out⟩
          · have n0 : (y.n == 0) = false := by rw [beq_eq_false_iff_ne]; exact c2
            have HST : Hid (stepF ps y q = none) := hid (by unfold stepF; rw [if_pos hop, if_pos (by right; left; exact c2)])
            have HR := hid (HN.out HST.out)
            clear c2
            go_wp2_with (first
              | (go_at_call 21
                 refine cm.mono ?_
                 rintro e w2 ⟨rfl, hb2⟩
                 have x0 := cell_kept z0 hb2
                 have x1 := cell_kept z1 hb2
                 have x2 := cell_kept z2 hb2
                 have HB2 := hid (HBR.out.trans ((hal.trans (hb2.mono hal.size)).mono HBR.out.size))
                 have HP2 := hid (HP.out.keep HB2.out)
                 have HQ2 := hid (own_same HQ.out (fun b e => (hal.trans (hb2.mono hal.size)).block b (HQ.out.lt b e).2))
                 clear hb2 hal cm z0 z1 z2))
            (try simp only [Exit.inBlock, Exit.then])
            refine bodyPost_ret (RT _ _ _) rfl ?_
            exact ⟨by rw [HR.out]; rfl, HB2.out⟩
        · obtain ⟨T, hTA⟩ : ∃ T, atF ps y = T := ⟨_, rfl⟩
          have HTA := hid hTA
          clear hTA
          rw [show manyF y.op = -1 by unfold manyF; rw [if_neg hop]] at cm
          have HST : Hid (stepF ps y q = if T = 0 then none else some (q ++ [T])) := hid (by unfold stepF; rw [if_neg hop, HTA.out])
          by_cases hT0 : T = 0
          · have HR := hid (HN.out (by rw [HST.out, if_pos hT0]))
            have t0 : ((T : Int) == 0) = true := by rw [beq_iff_eq]; omega
            clear hT0
            go_wp2_with (first
              | (go_at_call 21
                 refine cm.mono ?_
                 rintro e w2 ⟨rfl, hb2⟩
                 have x0 := cell_kept z0 hb2
                 have x1 := cell_kept z1 hb2
                 have x2 := cell_kept z2 hb2
                 have HB2 := hid (HBR.out.trans ((hal.trans (hb2.mono hal.size)).mono HBR.out.size))
                 have HP2 := hid (HP.out.keep HB2.out)
                 have HQ2 := hid (own_same HQ.out (fun b e => (hal.trans (hb2.mono hal.size)).block b (HQ.out.lt b e).2))
                 clear hb2 hal cm z0 z1 z2)
              | (go_at_call 22
                 have cu := rpush ps y _ _ HP2.out
                 rw [HTA.out] at cu
                 refine cu.mono ?_
                 rintro e w3 ⟨rfl, hb3⟩
                 have HB3 := hid (HB2.out.trans (hb3.mono HB2.out.size))
                 have HQ3 := hid (own_same HQ2.out (fun b e => hb3.block b (HQ2.out.lt b e).2))
                 skip
                 have HX1 := hid trivial
                 clear hb3 cu x0 x1 x2))
            (try simp only [Exit.inBlock, Exit.then])
            refine bodyPost_ret (RT _ _ _) rfl ?_
            exact ⟨by rw [HR.out]; rfl, HB3.out⟩
          · have t0 : ((T : Int) == 0) = false := by rw [beq_eq_false_iff_ne]; omega
            have HST : Hid (stepF ps y q = some (q ++ [T])) := hid (by rw [HST.out, if_neg hT0])
            clear hT0
            rcases pil_form HQ.out with ⟨rfl, rfl⟩ | ⟨g, qc, rfl, hqc⟩
            · go_wp2_with (first
                | (go_at_call 21
                   refine cm.mono ?_
                   rintro e w2 ⟨rfl, hb2⟩
                   have x0 := cell_kept z0 hb2
                   have x1 := cell_kept z1 hb2
                   have x2 := cell_kept z2 hb2
                   have HB2 := hid (HBR.out.trans ((hal.trans (hb2.mono hal.size)).mono HBR.out.size))
                   have HP2 := hid (HP.out.keep HB2.out)
                   have HQ2 := hid (own_same HQ.out (fun b e => (hal.trans (hb2.mono hal.size)).block b (HQ.out.lt b e).2))
                   clear hb2 hal cm z0 z1 z2)
                | (go_at_call 22
                   have cu := rpush ps y _ _ HP2.out
                   rw [HTA.out] at cu
                   refine cu.mono ?_
                   rintro e w3 ⟨rfl, hb3⟩
                   have HB3 := hid (HB2.out.trans (hb3.mono HB2.out.size))
                   have HQ3 := hid (own_same HQ2.out (fun b e => hb3.block b (HQ2.out.lt b e).2))
                   skip
                   have HX1 := hid trivial
                   clear hb3 cu x0 x1 x2)
                | (have hm := HX1
                   clear hm HX1
                   at_builtin
                   have hal5 := (Below.refl w3.heap.size w3).alloc (Nat.le_refl _) (.cells #[.int .u8 (T : Int)] 27)
                   refine wpList_append_own_at _ rfl _ _ 60 rfl w.heap.size 27 i0 (.int .u8 0) 1 1 Tryd.underlying60 hi hz0 hz1 hz2 rfl (by decide) (.slice none 0 0) 0 [] rfl (own_none _ _ _ _) ⟨w3.heap.size, 0, none⟩ 1 1 [.int .u8 (T : Int)] rfl rfl (next_cells w3 [.int .u8 (T : Int)] 27) (by simp [Value.oneCell']) (by unfold maxLen; omega) (by omega) (Nat.le_trans HB3.out.size hal5.size) ?_
                   intro v6 w6 hown6 hgr6 _ _
                   have HO6 := hid hown6
                   have HB6 := hid ((HB3.out.trans (hal5.mono HB3.out.size)).grown hgr6 (Nat.le_trans HB3.out.size hal5.size) (fun j hj => by cases hj))
                   clear hown6 hgr6 hal5))
              go_roundw
              case rel => exact ⟨k + 1, [] ++ [T], by omega, by go_num, hid (by rw [HT.out, HST.out]), hid (own_one HO6.out), HB6⟩
              case measure => simp [intOf]; omega
            · have hqq : (q.length : Int) ≤ (qc : Int) := by omega
              have hq1 : (0 : Int) ≤ (q.length : Int) := by omega
              go_wp2_with (first
                | (go_at_call 21
                   refine cm.mono ?_
                   rintro e w2 ⟨rfl, hb2⟩
                   have x0 := cell_kept z0 hb2
                   have x1 := cell_kept z1 hb2
                   have x2 := cell_kept z2 hb2
                   have HB2 := hid (HBR.out.trans ((hal.trans (hb2.mono hal.size)).mono HBR.out.size))
                   have HP2 := hid (HP.out.keep HB2.out)
                   have HQ2 := hid (own_same HQ.out (fun b e => (hal.trans (hb2.mono hal.size)).block b (HQ.out.lt b e).2))
                   clear hb2 hal cm z0 z1 z2)
                | (go_at_call 22
                   have cu := rpush ps y _ _ HP2.out
                   rw [HTA.out] at cu
                   refine cu.mono ?_
                   rintro e w3 ⟨rfl, hb3⟩
                   have HB3 := hid (HB2.out.trans (hb3.mono HB2.out.size))
                   have HQ3 := hid (own_same HQ2.out (fun b e => hb3.block b (HQ2.out.lt b e).2))
                   have HTK := HQ3
                   have HX1 := hid trivial
                   clear hb3 cu x0 x1 x2)
                | (have hm := HX1
                   clear hm HX1
                   at_builtin
                   refine wpList_append_own_at _ rfl _ _ 60 rfl w.heap.size 27 i0 (.int .u8 0) 1 1 Tryd.underlying60 hi hz0 hz1 hz2 rfl (by decide) (.slice none 0 0) 0 [] rfl (own_none _ _ _ _) ⟨g, 0, none⟩ q.length qc (tyC q) rfl (by rw [tyC_len, Nat.mul_one]) (pil_news (q := q) (HTK.out : Pil _ w.heap.size (.slice (some ⟨g, 0, none⟩) q.length qc) q) rfl) (tyC_one _) (by unfold maxLen; omega) (by omega) HB3.out.size ?_
                   intro v5 w5 hown5 hgr5 _ _
                   have HO5 := hid hown5
                   have HB5 := hid (HB3.out.grown hgr5 HB3.out.size (fun j hj => by cases hj))
                   have HX2 := hid trivial
                   clear hown5 hgr5)
                | (have hm := HX2
                   clear hm HX2
                   at_builtin
                   have hal5 := (Below.refl w5.heap.size w5).alloc (Nat.le_refl _) (.cells #[.int .u8 (T : Int)] 27)
                   refine wpList_append_own_at _ rfl _ _ 60 rfl w.heap.size 27 i0 (.int .u8 0) 1 1 Tryd.underlying60 hi hz0 hz1 hz2 rfl (by decide) v5 _ _ rfl (own_same HO5.out (fun b e => hal5.block b (HO5.out.lt b e).2)) ⟨w5.heap.size, 0, none⟩ 1 1 [.int .u8 (T : Int)] rfl rfl (next_cells w5 [.int .u8 (T : Int)] 27) (by simp [Value.oneCell']) (by unfold maxLen; omega) (by omega) (Nat.le_trans HB5.out.size hal5.size) ?_
                   intro v6 w6 hown6 hgr6 _ _
                   have HO6 := hid hown6
                   have HB6 := hid ((HB5.out.trans (hal5.mono HB5.out.size)).grown hgr6 (Nat.le_trans HB5.out.size hal5.size) (fun j hj => (HO5.out.lt j hj).1))
                   clear hown6 hgr6 hal5))
              go_roundw
              case rel => exact ⟨k + 1, q ++ [T], by omega, by go_num, hid (by rw [HT.out, HST.out]), hid (pil_put HO6.out rfl), HB6⟩
              case measure => simp [intOf]; omega
      · have hkl' : ¬ (k : Int) < (l.length : Int) := by omega
        have HRL : Hid (runF ps [] l = some q) := hid (by rw [← HRN.out, List.take_of_length_le (by omega)])
        by_cases h1 : q.length = 1
        · obtain ⟨t, rfl⟩ : ∃ t, q = [t] := by
            match q, h1 with
            | [t], _ => exact ⟨t, rfl⟩
          have HRT : Hid (R = t) := hid (by rw [HV.out, HRL.out])
          have HTY : Hid (t ≠ 0) := hid (by
            have := HTYS.out t (by simp)
            omega)
          obtain ⟨gq, cq, rfl, hqc, _, _, hty⟩ := HQ.out.some (by simp)
          have v0 := hty.at0 (by simp)
          simp only [List.getElem_cons_zero] at v0
          simp only [List.length_singleton] at hqc
          have HF : Hid (CkP w R (.returned (.tuple #[.int .u8 (t : Int), .bool true])) wr) := hid ⟨by rw [HRT.out, show (t == 0) = false from beq_eq_false_iff_ne.2 HTY.out]; rfl, HBR.out⟩
          clear h1 hty
          go_wp2_with (fail)
          (try simp only [Exit.inBlock, Exit.then])
          refine bodyPost_ret (RT _ _ _) rfl ?_
          exact HF.out
        · obtain ⟨qa, qc, rfl⟩ := own_form_Pl HQ.out
          have HR0 : Hid (R = 0) := hid (by
            rw [HV.out, HRL.out]
            match q, h1 with
            | [], _ => rfl
            | a :: b :: _, _ => rfl)
          have hne : ((q.length : Int) != 1) = true := by rw [bne_iff_ne]; omega
          have HF : Hid (CkP w R (.returned (.tuple #[.int .u8 0, .bool false])) wr) := hid ⟨by rw [HR0.out]; rfl, HBR.out⟩
          clear h1
          go_wp2_with (fail)
          (try simp only [Exit.inBlock, Exit.then])
          refine bodyPost_ret (RT _ _ _) rfl ?_
          exact HF.out
end Go.Proofs.YtdenddknbmiboaaDoor.Lex
namespace Go.Proofs.YtdenddknbmiboaaDoor.Lex
set_option linter.unusedVariables false
open Go.ChangeShapes Go.WideShapes Go.ChangeAt Go.RowKit Go.Joins
set_option maxRecDepth 100000 in
set_option maxHeartbeats 4000000 in
theorem left_Pl (W : World) (g cap : Nat) (v : Value) (r : List Plc) (hT : PlR W (.slice (some ⟨g, 0, none⟩) r.length cap) r) (hS : ∀ j, j < 6 → W.cell? ⟨g, r.length * 6 + j, none⟩ = ([.string ⟨#[115, 112, 97, 114, 101]⟩, .int .u8 0, .int .i64 0, .bool false, .int .i64 0, .int .i64 0] : List Value)[j]?) (hcap : r.length + 1 ≤ cap ∧ cap ≤ 9223372036854775807) (h : PlR W v r) (hr : r.length ≤ 1048576) : Calls Tryd.prog 11 #[.slice (some ⟨g, 0, none⟩) r.length cap, v] W fun e w' => e = .returned (.bool true) ∧ Below W.heap.size W w' := by
  have HS := hid hS
  clear hS
  obtain ⟨_, _, e0, _, ht⟩ := hT
  cases e0
  have HT := hid ht
  clear ht
  obtain ⟨ao, c, rfl, ⟨hle, hcc⟩, hcs⟩ := h
  have HC := hid hcs
  obtain ⟨hcap, hcap2⟩ := hcap
  have hc1 : decide ((cap : Int) ≤ (r.length : Int)) = false := decide_eq_false (by omega)
  clear hcs
  go_enter Tryd.func11, Tryd.ntmps11
  go_wp2_with (fail)
  go_loopw [5] (fun s5 wr => ∃ k : Nat, k ≤ r.length ∧ s5 = .int .i64 (k : Int) ∧ Hid (Below W.heap.size W wr)) (fun s5 _ => r.length - (intOf s5).toNat)
  case atStart => exact ⟨0, by omega, rfl, hid (Below.refl _ _)⟩
  case round =>
    obtain ⟨k, hk, rfl, HB⟩ := hrel
    by_cases hlt : k < r.length
    · have hlt' : (k : Int) < (r.length : Int) := by omega
      have hk0 : (0 : Int) ≤ (k : Int) := by omega
      obtain ⟨b, o, rfl, hc⟩ := HC.out.resolve_left (by intro e; rw [e] at hlt; simp at hlt)
      obtain ⟨g', o', e', ht⟩ := HT.out.resolve_left (by intro e; rw [e] at hlt; simp at hlt)
      cases e'
      have ht := ht k hlt
      have hc := hc k hlt
      have tv0 := cell_kept ((ht 0 (by omega)).trans rfl) HB.out
      have lv0 := cell_kept ((hc 0 (by omega)).trans rfl) HB.out
      have tv1 := cell_kept ((ht 1 (by omega)).trans rfl) HB.out
      have lv1 := cell_kept ((hc 1 (by omega)).trans rfl) HB.out
      have tv2 := cell_kept ((ht 2 (by omega)).trans rfl) HB.out
      have lv2 := cell_kept ((hc 2 (by omega)).trans rfl) HB.out
      have tv3 := cell_kept ((ht 3 (by omega)).trans rfl) HB.out
      have lv3 := cell_kept ((hc 3 (by omega)).trans rfl) HB.out
      have tv4 := cell_kept ((ht 4 (by omega)).trans rfl) HB.out
      have lv4 := cell_kept ((hc 4 (by omega)).trans rfl) HB.out
      have tv5 := cell_kept ((ht 5 (by omega)).trans rfl) HB.out
      have lv5 := cell_kept ((hc 5 (by omega)).trans rfl) HB.out
      simp only [Nat.zero_add, Nat.add_zero] at tv0 tv1 tv2 tv3 tv4 tv5 lv0
      clear ht hc
      generalize r[k] = x at *
      go_wp2_with (fail)
      refine wp_region_held_drew (S := fun V => V.cell? ⟨g, k * 6, none⟩ = some (.string x.name) ∧ V.cell? ⟨g, k * 6 + 1, none⟩ = some (.int .u8 (x.ty : Int)) ∧ V.cell? ⟨g, k * 6 + 2, none⟩ = some (.int .i64 x.keep) ∧ V.cell? ⟨g, k * 6 + 3, none⟩ = some (.bool x.far) ∧ V.cell? ⟨g, k * 6 + 4, none⟩ = some (.int .i64 x.frm) ∧ V.cell? ⟨g, k * 6 + 5, none⟩ = some (.int .i64 x.df) ∧ V.cell? ⟨b, o + k * 6, none⟩ = some (.string x.name) ∧ V.cell? ⟨b, o + k * 6 + 1, none⟩ = some (.int .u8 (x.ty : Int)) ∧ V.cell? ⟨b, o + k * 6 + 2, none⟩ = some (.int .i64 x.keep) ∧ V.cell? ⟨b, o + k * 6 + 3, none⟩ = some (.bool x.far) ∧ V.cell? ⟨b, o + k * 6 + 4, none⟩ = some (.int .i64 x.frm) ∧ V.cell? ⟨b, o + k * 6 + 5, none⟩ = some (.int .i64 x.df)) (by kernel_rfl) ?_ (fun hHeld => ?_)
      · exact ⟨tv0, tv1, tv2, tv3, tv4, tv5, lv0, lv1, lv2, lv3, lv4, lv5⟩
      refine wpAnyH_take (i := 0) (oi := { dst := some 25, op := Go.Op.move (Go.Operand.tmp 0), type := 22, pos := _, after := #[], guard := none }) (v := ?_) rfl (by kernel_rfl) (by kernel_rfl) (by kernel_rfl) (fun _ _ _ h => h) (Or.inl ⟨by rfl, ?_⟩) (by assumption) ?_
      rotate_left
      · intro w hSw; (try dsimp only at hSw); go_simp <;> first | with_reducible rfl | (rw [if_neg (by first | omega | (simp only [ByteArray.size_append] at *; omega))])
      simp only [Act.put, List.setIfInBounds_toArray, List.set_cons_zero, List.set_cons_succ]
      refine wpAnyH_take (i := 1) (oi := { dst := some 26, op := Go.Op.move (Go.Operand.tmp 5), type := 3, pos := _, after := #[], guard := none }) (v := ?_) rfl (by kernel_rfl) (by kernel_rfl) (by kernel_rfl) (fun _ _ _ h => h) (Or.inl ⟨by rfl, ?_⟩) (by assumption) ?_
      rotate_left
      · intro w hSw; (try dsimp only at hSw); go_simp <;> first | with_reducible rfl | (rw [if_neg (by first | omega | (simp only [ByteArray.size_append] at *; omega))])
      simp only [Act.put, List.setIfInBounds_toArray, List.set_cons_zero, List.set_cons_succ]
      refine wpAnyH_take (i := 2) (oi := { dst := some 27, op := Go.Op.indexAddr 22 (Go.Operand.tmp 25) (Go.Operand.tmp 26), type := 0, pos := _, after := #[{ on := 0, ground := Go.Ground.data }, { on := 1, ground := Go.Ground.data }], guard := none }) (v := ?_) rfl (by kernel_rfl) (by kernel_rfl) (by kernel_rfl) (fun _ _ _ h => h) (Or.inl ⟨by rfl, ?_⟩) (by assumption) ?_
      rotate_left
      · intro w hSw; (try dsimp only at hSw); go_simp <;> first | with_reducible rfl | (rw [if_neg (by first | omega | (simp only [ByteArray.size_append] at *; omega))])
      simp only [Act.put, List.setIfInBounds_toArray, List.set_cons_zero, List.set_cons_succ]
      refine wpAnyH_take (i := 3) (oi := { dst := some 28, op := Go.Op.load 55 (Go.Operand.tmp 27), type := 55, pos := _, after := #[{ on := 2, ground := Go.Ground.data }], guard := none }) (v := ?_) rfl (by kernel_rfl) (by kernel_rfl) (by kernel_rfl) (fun _ _ _ h => h) (Or.inl ⟨by rfl, ?_⟩) (by assumption) ?_
      rotate_left
      · intro w hSw; (try dsimp only at hSw); go_simp <;> first | with_reducible rfl | (rw [if_neg (by first | omega | (simp only [ByteArray.size_append] at *; omega))])
      simp only [Act.put, List.setIfInBounds_toArray, List.set_cons_zero, List.set_cons_succ]
      refine wpAnyH_take (i := 4) (oi := { dst := some 29, op := Go.Op.move (Go.Operand.tmp 1), type := 22, pos := _, after := #[], guard := none }) (v := ?_) rfl (by kernel_rfl) (by kernel_rfl) (by kernel_rfl) (fun _ _ _ h => h) (Or.inl ⟨by rfl, ?_⟩) (by assumption) ?_
      rotate_left
      · intro w hSw; (try dsimp only at hSw); go_simp <;> first | with_reducible rfl | (rw [if_neg (by first | omega | (simp only [ByteArray.size_append] at *; omega))])
      simp only [Act.put, List.setIfInBounds_toArray, List.set_cons_zero, List.set_cons_succ]
      refine wpAnyH_take (i := 5) (oi := { dst := some 30, op := Go.Op.move (Go.Operand.tmp 5), type := 3, pos := _, after := #[], guard := none }) (v := ?_) rfl (by kernel_rfl) (by kernel_rfl) (by kernel_rfl) (fun _ _ _ h => h) (Or.inl ⟨by rfl, ?_⟩) (by assumption) ?_
      rotate_left
      · intro w hSw; (try dsimp only at hSw); go_simp <;> first | with_reducible rfl | (rw [if_neg (by first | omega | (simp only [ByteArray.size_append] at *; omega))])
      simp only [Act.put, List.setIfInBounds_toArray, List.set_cons_zero, List.set_cons_succ]
      refine wpAnyH_take (i := 6) (oi := { dst := some 31, op := Go.Op.indexAddr 22 (Go.Operand.tmp 29) (Go.Operand.tmp 30), type := 0, pos := _, after := #[{ on := 4, ground := Go.Ground.data }, { on := 5, ground := Go.Ground.data }], guard := none }) (v := ?_) rfl (by kernel_rfl) (by kernel_rfl) (by kernel_rfl) (fun _ _ _ h => h) (Or.inl ⟨by rfl, ?_⟩) (by assumption) ?_
      rotate_left
      · intro w hSw; (try dsimp only at hSw); go_simp <;> first | with_reducible rfl | (rw [if_neg (by first | omega | (simp only [ByteArray.size_append] at *; omega))])
      simp only [Act.put, List.setIfInBounds_toArray, List.set_cons_zero, List.set_cons_succ]
      refine wpAnyH_take (i := 7) (oi := { dst := some 32, op := Go.Op.load 55 (Go.Operand.tmp 31), type := 55, pos := _, after := #[{ on := 6, ground := Go.Ground.data }], guard := none }) (v := ?_) rfl (by kernel_rfl) (by kernel_rfl) (by kernel_rfl) (fun _ _ _ h => h) (Or.inl ⟨by rfl, ?_⟩) (by assumption) ?_
      rotate_left
      · intro w hSw; (try dsimp only at hSw); go_simp <;> first | with_reducible rfl | (rw [if_neg (by first | omega | (simp only [ByteArray.size_append] at *; omega))])
      simp only [Act.put, List.setIfInBounds_toArray, List.set_cons_zero, List.set_cons_succ]
      refine wpAnyH_take (i := 8) (oi := { dst := some 33, op := Go.Op.binOp Go.BinOp.neq 55 (Go.Operand.tmp 28) (Go.Operand.tmp 32) 55, type := 4, pos := _, after := #[{ on := 3, ground := Go.Ground.data }, { on := 7, ground := Go.Ground.data }], guard := none }) (v := ?_) rfl (by kernel_rfl) (by kernel_rfl) (by kernel_rfl) (fun _ _ _ h => h) (Or.inl ⟨by rfl, ?_⟩) (by assumption) ?_
      rotate_left
      · intro w hSw; (try dsimp only at hSw); go_simp <;> first | with_reducible rfl | (rw [if_neg (by first | omega | (simp only [ByteArray.size_append] at *; omega))])
      simp only [Act.put, List.setIfInBounds_toArray, List.set_cons_zero, List.set_cons_succ]
      refine wpAnyH_done (by kernel_rfl) ?_ _
      go_wp2_with (fail)
      go_roundw
      case rel => exact ⟨k + 1, by omega, by go_num, hid HB.out.drew⟩
      case measure => simp [intOf]; omega
    · have hlt' : ¬ (k : Int) < (r.length : Int) := by omega
      have hn1 : (r.length : Int) + 1 ≤ (cap : Int) := by omega
      have hn2 : (0 : Int) ≤ (r.length : Int) + 1 := by omega
      have hn3 : (r.length : Int) < (r.length : Int) + 1 := by omega
      have hn4 : (0 : Int) ≤ (r.length : Int) := by omega
      have hn5 : ((r.length : Int) + 1).toNat = r.length + 1 := by omega
      have s0 := cell_kept ((HS.out 0 (by omega)).trans rfl) HB.out
      have s1 := cell_kept ((HS.out 1 (by omega)).trans rfl) HB.out
      have s2 := cell_kept ((HS.out 2 (by omega)).trans rfl) HB.out
      have s3 := cell_kept ((HS.out 3 (by omega)).trans rfl) HB.out
      have s4 := cell_kept ((HS.out 4 (by omega)).trans rfl) HB.out
      have s5 := cell_kept ((HS.out 5 (by omega)).trans rfl) HB.out
      rw [Nat.add_zero] at s0
      go_wp2_with (fail)
      go_ret
      exact ⟨rfl, HB.out.trans (((Below.refl wr.heap.size wr).alloc (Nat.le_refl _) _).mono HB.out.size)⟩
end Go.Proofs.YtdenddknbmiboaaDoor.Lex
namespace Go.Proofs.YtdenddknbmiboaaDoor.Lex
set_option linter.unusedVariables false
open Go.ChangeShapes Go.WideShapes Go.ChangeAt Go.RowKit Go.Joins
theorem own_form_In {w : World} {lo t c n : Nat} {v : Value} {xs : List Value} (h : w.ownsRow lo t c v n xs) : ∃ a c, v = .slice a n c := by
  rcases h.2 with ⟨h1, h2⟩ | ⟨g, c, cur, h1, _⟩
  · exact ⟨none, 0, by rw [h1, h2]⟩
  · exact ⟨_, _, h1⟩
theorem inz_In : (Tryd.prog.info? 38).map (fun i => (i.zero, i.size, i.bytes)) = some (some (.agg #[.int .u8 0, .int .i64 0, .int .i64 0]), 3, 24) := by kernel_rfl
theorem mkc_In (n : Nat) (hn : n ≤ 1048576) (w : World) : (Instr.makeSlice 23 (.int .i64 0) (.int .i64 ((n : Int) + 1))).run Tryd.prog w = .ok (.slice (some ⟨w.heap.size, 0, none⟩) 0 (n + 1)) (w.alloc (.cells (madeCells #[.int .u8 0, .int .i64 0, .int .i64 0] ((n + 1) * 3)) 38)) := by
  obtain ⟨i0, hi, hz0, hz1, hz2⟩ := info_parts inz_In
  have := run_make (P := Tryd.prog) w 23 38 i0 _ Tryd.underlying23 hi hz0 .i64 .i64 0 ((n : Int) + 1) (by omega) (by omega) (by rw [hz2]; omega) (by omega)
  rw [hz1, show ((n : Int) + 1).toNat = n + 1 by omega] at this
  simpa [Value.cells] using this
/-- A twin: the list's cells, and a spare element behind them. -/
def TwIn (w : World) (base g cap : Nat) (r : List Cin) : Prop := w.ownsRow base 38 3 (.slice (some ⟨g, 0, none⟩) (r.length + 1) cap) (r.length + 1) (inssC r ++ [.int .u8 0, .int .i64 (-77), .int .i64 0])
theorem tw_cap_In {w : World} {base g cap : Nat} {r : List Cin} (h : TwIn w base g cap r) : r.length + 1 ≤ cap ∧ g < w.heap.size ∧ base ≤ g ∧ cap ≤ 9223372036854775807 := by
  obtain ⟨_, ⟨h1, _⟩ | ⟨g', cap', cur, h1, hg, hr, h2, h3, _⟩⟩ := h
  · cases h1
  · cases h1
    simp only [maxLen] at h3
    exact ⟨h2, (Array.getElem?_eq_some_iff.1 hr).1, hg, h3⟩
theorem tw_cell_In {w : World} {base g cap : Nat} {r : List Cin} (h : TwIn w base g cap r) (j : Nat) (hj : j < r.length * 3) : w.cell? ⟨g, j, none⟩ = (inssC r)[j]? := by
  have h4 := World.ownsRow.cellAt h j (by omega)
  rw [h4, List.getElem?_append_left (by rw [inssC_len]; exact hj)]
theorem tw_spare_In {w : World} {base g cap : Nat} {r : List Cin} (h : TwIn w base g cap r) (j : Nat) (hj : j < 3) : w.cell? ⟨g, r.length * 3 + j, none⟩ = ([.int .u8 0, .int .i64 (-77), .int .i64 0] : List Value)[j]? := by
  have h4 := World.ownsRow.cellAt h (r.length * 3 + j) (by omega)
  rw [h4, List.getElem?_append_right (by rw [inssC_len]; omega), inssC_len, Nat.add_sub_cancel_left]
theorem tw_row_In {W : World} {B g cap : Nat} {r : List Cin} (h : TwIn W B g cap r) (hr : r.length ≤ 1048576) (ho : ∀ x ∈ r, x.op < 256) : InR W (.slice (some ⟨g, 0, none⟩) r.length cap) r :=
  ⟨_, cap, rfl, ⟨by have := tw_cap_In h; omega, by omega⟩, .inr ⟨g, 0, rfl, fun k hk => ⟨ho _ (List.getElem_mem hk), fun j hj => by
    rw [Nat.zero_add, ← inssC_at r k hk j hj]
    exact tw_cell_In h (k * 3 + j) (by omega)⟩⟩⟩
/-- While it grows. -/
structure TgIn (W wr : World) (v : Value) (r : List Cin) : Prop where
  row : wr.ownsRow W.heap.size 38 3 v r.length (inssC r)
  below : Below W.heap.size W wr
set_option maxRecDepth 100000 in
set_option maxHeartbeats 4000000 in
theorem twin_In (W : World) (v : Value) (r : List Cin) (h : InR W v r) (hr : r.length ≤ 1048576) : Calls Tryd.prog 8 #[v] W fun e w' => ∃ g cap, e = .returned (.slice (some ⟨g, 0, none⟩) r.length cap) ∧ TwIn w' W.heap.size g cap r ∧ Below W.heap.size W w' := by
  obtain ⟨i0, hi, hz0, hz1, hz2⟩ := info_parts inz_In
  obtain ⟨ao, c, rfl, ⟨hle, hcc⟩, hcs⟩ := h
  have HC := hid hcs
  clear hcs
  have mk := mkc_In r.length (by omega)
  have R0 : Hid (TgIn W (W.alloc (.cells (madeCells #[.int .u8 0, .int .i64 0, .int .i64 0] ((r.length + 1) * 3)) 38)) (.slice (some ⟨W.heap.size, 0, none⟩) 0 (r.length + 1)) []) := hid
    ⟨⟨rfl, .inr ⟨W.heap.size, r.length + 1, _, rfl, Nat.le_refl _, heap_alloc_new W _, Nat.zero_le _, by unfold maxLen; omega, by rw [size_madeCells], by simp [inssC]⟩⟩, (Below.refl _ _).alloc (Nat.le_refl _) _⟩
  go_enter Tryd.func8, Tryd.ntmps8
  go_wp2_with (fail)
  generalize (W.alloc (.cells (madeCells #[.int .u8 0, .int .i64 0, .int .i64 0] ((r.length + 1) * 3)) 38)) = W1 at *
  clear mk
  go_loopw [3, 4] (fun s3 s4 wr => ∃ k : Nat, k ≤ r.length ∧ s4 = .int .i64 (k : Int) ∧ Hid (TgIn W wr s3 (r.take k))) (fun _ s4 _ => r.length - (intOf s4).toNat)
  case atStart => exact ⟨0, by omega, rfl, R0⟩
  case round =>
    clear R0
    obtain ⟨k, hk, rfl, HK⟩ := hrel
    have htl : (r.take k).length = k := by rw [List.length_take]; omega
    obtain ⟨sa, sc, hs⟩ := own_form_In HK.out.row
    rw [htl] at hs
    subst hs
    have HRW : Hid (wr.ownsRow W.heap.size 38 3 (.slice sa k sc) k (inssC (r.take k))) := hid (by have := HK.out.row; rw [htl] at this; exact this)
    have HBL := hid HK.out.below
    clear htl
    by_cases hlt : k < r.length
    · have hlt' : (k : Int) < (r.length : Int) := by omega
      have hk0 : (0 : Int) ≤ (k : Int) := by omega
      obtain ⟨b, o, rfl, hc⟩ := HC.out.resolve_left (by intro e; rw [e] at hlt; simp at hlt)
      obtain ⟨hop, hc⟩ := hc k hlt
      have y0 := cell_kept ((hc 0 (by omega)).trans rfl) HK.out.below
      have y1 := cell_kept ((hc 1 (by omega)).trans rfl) HK.out.below
      have y2 := cell_kept ((hc 2 (by omega)).trans rfl) HK.out.below
      rw [Nat.add_zero] at y0
      have HTK : Hid (inssC (r.take (k + 1)) = inssC (r.take k) ++ insC r[k]) := hid (by rw [List.take_succ_eq_append_getElem hlt]; unfold inssC; rw [List.map_append, List.flatten_append]; simp)
      clear hc
      generalize r[k] = x at *
      go_wp2_with (first
        | (at_builtin
           have hal := (Below.refl wr.heap.size wr).alloc (Nat.le_refl _) (.cells ([.int .u8 (x.op : Int), .int .i64 x.n, .int .i64 x.ago] : List Value).toArray 38)
           refine wpList_append_own_at _ rfl _ _ 23 rfl W.heap.size 38 i0 (.agg #[.int .u8 0, .int .i64 0, .int .i64 0]) 3 24 Tryd.underlying23 hi hz0 hz1 hz2 rfl (by decide) (.slice sa k sc) _ _ rfl (own_same HRW.out (fun b e => hal.block b (HRW.out.lt b e).2)) ⟨wr.heap.size, 0, none⟩ 1 1 ([.int .u8 (x.op : Int), .int .i64 x.n, .int .i64 x.ago] : List Value) rfl rfl (next_cells wr ([.int .u8 (x.op : Int), .int .i64 x.n, .int .i64 x.ago] : List Value) 38) (by simp [Value.oneCell']) (by unfold maxLen; omega) (by omega) (Nat.le_trans HBL.out.size hal.size) ?_
           intro v2 w2 hown2 hgr2 _ _
           have HO2 := hid hown2
           have HG2 := hid ((HBL.out.trans (hal.mono HBL.out.size)).grown hgr2 (Nat.le_trans HBL.out.size hal.size) (fun j hj => (HRW.out.lt j hj).1))
           clear hown2 hgr2 hal))
      go_roundw
      case rel =>
        refine ⟨k + 1, by omega, by go_num, hid ⟨?_, HG2.out⟩⟩
        rw [HTK.out, show (r.take (k + 1)).length = k + 1 by rw [List.length_take]; omega]
        exact HO2.out
      case measure => simp [intOf]; omega
    · have hlt' : ¬ (k : Int) < (r.length : Int) := by omega
      obtain rfl : k = r.length := by omega
      rw [List.take_length] at HRW
      clear HK
      go_wp2_with (first
        | (at_builtin
           have hal := (Below.refl wr.heap.size wr).alloc (Nat.le_refl _) (.cells ([.int .u8 0, .int .i64 (-77), .int .i64 0] : List Value).toArray 38)
           refine wpList_append_own_at _ rfl _ _ 23 rfl W.heap.size 38 i0 (.agg #[.int .u8 0, .int .i64 0, .int .i64 0]) 3 24 Tryd.underlying23 hi hz0 hz1 hz2 rfl (by decide) (.slice sa r.length sc) _ _ rfl (own_same HRW.out (fun b e => hal.block b (HRW.out.lt b e).2)) ⟨wr.heap.size, 0, none⟩ 1 1 ([.int .u8 0, .int .i64 (-77), .int .i64 0] : List Value) rfl rfl (next_cells wr ([.int .u8 0, .int .i64 (-77), .int .i64 0] : List Value) 38) (by simp [Value.oneCell']) (by unfold maxLen; omega) (by omega) (Nat.le_trans HBL.out.size hal.size) ?_
           intro v2 w2 hown2 hgr2 _ _
           have HO2 := hid hown2
           have HG2 := hid ((HBL.out.trans (hal.mono HBL.out.size)).grown hgr2 (Nat.le_trans HBL.out.size hal.size) (fun j hj => (HRW.out.lt j hj).1))
           clear hgr2 hal
           obtain ⟨g, cap, rfl⟩ : ∃ g cap, v2 = .slice (some ⟨g, 0, none⟩) (r.length + 1) cap := (by rcases hown2.2 with ⟨_, h2⟩ | ⟨g, cap, cur, h1, _⟩; omega; exact ⟨g, cap, h1⟩)
           have hcap : r.length + 1 ≤ cap := (by obtain ⟨_, ⟨h1, _⟩ | ⟨g', cap', cur, h1, _, _, h2, _⟩⟩ := hown2 <;> cases h1; exact h2)))
      go_ret
      exact ⟨g, cap, rfl, HO2.out, HG2.out⟩
end Go.Proofs.YtdenddknbmiboaaDoor.Lex
namespace Go.Proofs.YtdenddknbmiboaaDoor.Lex
set_option linter.unusedVariables false
open Go.ChangeShapes Go.WideShapes Go.ChangeAt Go.RowKit Go.Joins
set_option maxRecDepth 100000 in
set_option maxHeartbeats 4000000 in
theorem left_In (W : World) (g cap : Nat) (v : Value) (r : List Cin) (hT : InR W (.slice (some ⟨g, 0, none⟩) r.length cap) r) (hS : ∀ j, j < 3 → W.cell? ⟨g, r.length * 3 + j, none⟩ = ([.int .u8 0, .int .i64 (-77), .int .i64 0] : List Value)[j]?) (hcap : r.length + 1 ≤ cap ∧ cap ≤ 9223372036854775807) (h : InR W v r) (hr : r.length ≤ 1048576) : Calls Tryd.prog 12 #[.slice (some ⟨g, 0, none⟩) r.length cap, v] W fun e w' => e = .returned (.bool true) ∧ Below W.heap.size W w' := by
  have HS := hid hS
  clear hS
  obtain ⟨_, _, e0, _, ht⟩ := hT
  cases e0
  have HT := hid ht
  clear ht
  obtain ⟨ao, c, rfl, ⟨hle, hcc⟩, hcs⟩ := h
  have HC := hid hcs
  obtain ⟨hcap, hcap2⟩ := hcap
  have hc1 : decide ((cap : Int) ≤ (r.length : Int)) = false := decide_eq_false (by omega)
  clear hcs
  go_enter Tryd.func12, Tryd.ntmps12
  go_wp2_with (fail)
  go_loopw [5] (fun s5 wr => ∃ k : Nat, k ≤ r.length ∧ s5 = .int .i64 (k : Int) ∧ Hid (Below W.heap.size W wr)) (fun s5 _ => r.length - (intOf s5).toNat)
  case atStart => exact ⟨0, by omega, rfl, hid (Below.refl _ _)⟩
  case round =>
    obtain ⟨k, hk, rfl, HB⟩ := hrel
    by_cases hlt : k < r.length
    · have hlt' : (k : Int) < (r.length : Int) := by omega
      have hk0 : (0 : Int) ≤ (k : Int) := by omega
      obtain ⟨b, o, rfl, hc⟩ := HC.out.resolve_left (by intro e; rw [e] at hlt; simp at hlt)
      obtain ⟨g', o', e', ht⟩ := HT.out.resolve_left (by intro e; rw [e] at hlt; simp at hlt)
      cases e'
      have ht := (ht k hlt).2
      have hc := (hc k hlt).2
      have tv0 := cell_kept ((ht 0 (by omega)).trans rfl) HB.out
      have lv0 := cell_kept ((hc 0 (by omega)).trans rfl) HB.out
      have tv1 := cell_kept ((ht 1 (by omega)).trans rfl) HB.out
      have lv1 := cell_kept ((hc 1 (by omega)).trans rfl) HB.out
      have tv2 := cell_kept ((ht 2 (by omega)).trans rfl) HB.out
      have lv2 := cell_kept ((hc 2 (by omega)).trans rfl) HB.out
      simp only [Nat.zero_add, Nat.add_zero] at tv0 tv1 tv2 lv0
      clear ht hc
      generalize r[k] = x at *
      go_wp2_with (fail)
      refine wp_region_held_drew (S := fun V => V.cell? ⟨g, k * 3, none⟩ = some (.int .u8 (x.op : Int)) ∧ V.cell? ⟨g, k * 3 + 1, none⟩ = some (.int .i64 x.n) ∧ V.cell? ⟨g, k * 3 + 2, none⟩ = some (.int .i64 x.ago) ∧ V.cell? ⟨b, o + k * 3, none⟩ = some (.int .u8 (x.op : Int)) ∧ V.cell? ⟨b, o + k * 3 + 1, none⟩ = some (.int .i64 x.n) ∧ V.cell? ⟨b, o + k * 3 + 2, none⟩ = some (.int .i64 x.ago)) (by kernel_rfl) ?_ (fun hHeld => ?_)
      · exact ⟨tv0, tv1, tv2, lv0, lv1, lv2⟩
      refine wpAnyH_take (i := 0) (oi := { dst := some 25, op := Go.Op.move (Go.Operand.tmp 0), type := 23, pos := _, after := #[], guard := none }) (v := ?_) rfl (by kernel_rfl) (by kernel_rfl) (by kernel_rfl) (fun _ _ _ h => h) (Or.inl ⟨by rfl, ?_⟩) (by assumption) ?_
      rotate_left
      · intro w hSw; (try dsimp only at hSw); go_simp <;> first | with_reducible rfl | (rw [if_neg (by first | omega | (simp only [ByteArray.size_append] at *; omega))])
      simp only [Act.put, List.setIfInBounds_toArray, List.set_cons_zero, List.set_cons_succ]
      refine wpAnyH_take (i := 1) (oi := { dst := some 26, op := Go.Op.move (Go.Operand.tmp 5), type := 3, pos := _, after := #[], guard := none }) (v := ?_) rfl (by kernel_rfl) (by kernel_rfl) (by kernel_rfl) (fun _ _ _ h => h) (Or.inl ⟨by rfl, ?_⟩) (by assumption) ?_
      rotate_left
      · intro w hSw; (try dsimp only at hSw); go_simp <;> first | with_reducible rfl | (rw [if_neg (by first | omega | (simp only [ByteArray.size_append] at *; omega))])
      simp only [Act.put, List.setIfInBounds_toArray, List.set_cons_zero, List.set_cons_succ]
      refine wpAnyH_take (i := 2) (oi := { dst := some 27, op := Go.Op.indexAddr 23 (Go.Operand.tmp 25) (Go.Operand.tmp 26), type := 0, pos := _, after := #[{ on := 0, ground := Go.Ground.data }, { on := 1, ground := Go.Ground.data }], guard := none }) (v := ?_) rfl (by kernel_rfl) (by kernel_rfl) (by kernel_rfl) (fun _ _ _ h => h) (Or.inl ⟨by rfl, ?_⟩) (by assumption) ?_
      rotate_left
      · intro w hSw; (try dsimp only at hSw); go_simp <;> first | with_reducible rfl | (rw [if_neg (by first | omega | (simp only [ByteArray.size_append] at *; omega))])
      simp only [Act.put, List.setIfInBounds_toArray, List.set_cons_zero, List.set_cons_succ]
      refine wpAnyH_take (i := 3) (oi := { dst := some 28, op := Go.Op.load 38 (Go.Operand.tmp 27), type := 38, pos := _, after := #[{ on := 2, ground := Go.Ground.data }], guard := none }) (v := ?_) rfl (by kernel_rfl) (by kernel_rfl) (by kernel_rfl) (fun _ _ _ h => h) (Or.inl ⟨by rfl, ?_⟩) (by assumption) ?_
      rotate_left
      · intro w hSw; (try dsimp only at hSw); go_simp <;> first | with_reducible rfl | (rw [if_neg (by first | omega | (simp only [ByteArray.size_append] at *; omega))])
      simp only [Act.put, List.setIfInBounds_toArray, List.set_cons_zero, List.set_cons_succ]
      refine wpAnyH_take (i := 4) (oi := { dst := some 29, op := Go.Op.move (Go.Operand.tmp 1), type := 23, pos := _, after := #[], guard := none }) (v := ?_) rfl (by kernel_rfl) (by kernel_rfl) (by kernel_rfl) (fun _ _ _ h => h) (Or.inl ⟨by rfl, ?_⟩) (by assumption) ?_
      rotate_left
      · intro w hSw; (try dsimp only at hSw); go_simp <;> first | with_reducible rfl | (rw [if_neg (by first | omega | (simp only [ByteArray.size_append] at *; omega))])
      simp only [Act.put, List.setIfInBounds_toArray, List.set_cons_zero, List.set_cons_succ]
      refine wpAnyH_take (i := 5) (oi := { dst := some 30, op := Go.Op.move (Go.Operand.tmp 5), type := 3, pos := _, after := #[], guard := none }) (v := ?_) rfl (by kernel_rfl) (by kernel_rfl) (by kernel_rfl) (fun _ _ _ h => h) (Or.inl ⟨by rfl, ?_⟩) (by assumption) ?_
      rotate_left
      · intro w hSw; (try dsimp only at hSw); go_simp <;> first | with_reducible rfl | (rw [if_neg (by first | omega | (simp only [ByteArray.size_append] at *; omega))])
      simp only [Act.put, List.setIfInBounds_toArray, List.set_cons_zero, List.set_cons_succ]
      refine wpAnyH_take (i := 6) (oi := { dst := some 31, op := Go.Op.indexAddr 23 (Go.Operand.tmp 29) (Go.Operand.tmp 30), type := 0, pos := _, after := #[{ on := 4, ground := Go.Ground.data }, { on := 5, ground := Go.Ground.data }], guard := none }) (v := ?_) rfl (by kernel_rfl) (by kernel_rfl) (by kernel_rfl) (fun _ _ _ h => h) (Or.inl ⟨by rfl, ?_⟩) (by assumption) ?_
      rotate_left
      · intro w hSw; (try dsimp only at hSw); go_simp <;> first | with_reducible rfl | (rw [if_neg (by first | omega | (simp only [ByteArray.size_append] at *; omega))])
      simp only [Act.put, List.setIfInBounds_toArray, List.set_cons_zero, List.set_cons_succ]
      refine wpAnyH_take (i := 7) (oi := { dst := some 32, op := Go.Op.load 38 (Go.Operand.tmp 31), type := 38, pos := _, after := #[{ on := 6, ground := Go.Ground.data }], guard := none }) (v := ?_) rfl (by kernel_rfl) (by kernel_rfl) (by kernel_rfl) (fun _ _ _ h => h) (Or.inl ⟨by rfl, ?_⟩) (by assumption) ?_
      rotate_left
      · intro w hSw; (try dsimp only at hSw); go_simp <;> first | with_reducible rfl | (rw [if_neg (by first | omega | (simp only [ByteArray.size_append] at *; omega))])
      simp only [Act.put, List.setIfInBounds_toArray, List.set_cons_zero, List.set_cons_succ]
      refine wpAnyH_take (i := 8) (oi := { dst := some 33, op := Go.Op.binOp Go.BinOp.neq 38 (Go.Operand.tmp 28) (Go.Operand.tmp 32) 38, type := 4, pos := _, after := #[{ on := 3, ground := Go.Ground.data }, { on := 7, ground := Go.Ground.data }], guard := none }) (v := ?_) rfl (by kernel_rfl) (by kernel_rfl) (by kernel_rfl) (fun _ _ _ h => h) (Or.inl ⟨by rfl, ?_⟩) (by assumption) ?_
      rotate_left
      · intro w hSw; (try dsimp only at hSw); go_simp <;> first | with_reducible rfl | (rw [if_neg (by first | omega | (simp only [ByteArray.size_append] at *; omega))])
      simp only [Act.put, List.setIfInBounds_toArray, List.set_cons_zero, List.set_cons_succ]
      refine wpAnyH_done (by kernel_rfl) ?_ _
      go_wp2_with (fail)
      go_roundw
      case rel => exact ⟨k + 1, by omega, by go_num, hid HB.out.drew⟩
      case measure => simp [intOf]; omega
    · have hlt' : ¬ (k : Int) < (r.length : Int) := by omega
      have hn1 : (r.length : Int) + 1 ≤ (cap : Int) := by omega
      have hn2 : (0 : Int) ≤ (r.length : Int) + 1 := by omega
      have hn3 : (r.length : Int) < (r.length : Int) + 1 := by omega
      have hn4 : (0 : Int) ≤ (r.length : Int) := by omega
      have hn5 : ((r.length : Int) + 1).toNat = r.length + 1 := by omega
      have s0 := cell_kept ((HS.out 0 (by omega)).trans rfl) HB.out
      have s1 := cell_kept ((HS.out 1 (by omega)).trans rfl) HB.out
      have s2 := cell_kept ((HS.out 2 (by omega)).trans rfl) HB.out
      rw [Nat.add_zero] at s0
      go_wp2_with (fail)
      go_ret
      exact ⟨rfl, HB.out.trans (((Below.refl wr.heap.size wr).alloc (Nat.le_refl _) _).mono HB.out.size)⟩
end Go.Proofs.YtdenddknbmiboaaDoor.Lex
namespace Go.Proofs.YtdenddknbmiboaaDoor.Lex
set_option linter.unusedVariables false
open Go.ChangeShapes Go.WideShapes Go.ChangeAt Go.RowKit Go.Joins
theorem spare_keep_Pl {W W' : World} {B g cap : Nat} {r : List Plc} (h : TwPl W B g cap r) (hb : Below W.heap.size W W') (j : Nat) (hj : j < 6) : W'.cell? ⟨g, r.length * 6 + j, none⟩ = ([.string ⟨#[115, 112, 97, 114, 101]⟩, .int .u8 0, .int .i64 0, .bool false, .int .i64 0, .int .i64 0] : List Value)[j]? := by
  have h2 := tw_spare_Pl h j hj
  have hj' : j < ([.string ⟨#[115, 112, 97, 114, 101]⟩, .int .u8 0, .int .i64 0, .bool false, .int .i64 0, .int .i64 0] : List Value).length := hj
  rw [List.getElem?_eq_getElem hj'] at h2 ⊢
  exact cell_kept h2 hb
theorem spare_keep_In {W W' : World} {B g cap : Nat} {r : List Cin} (h : TwIn W B g cap r) (hb : Below W.heap.size W W') (j : Nat) (hj : j < 3) : W'.cell? ⟨g, r.length * 3 + j, none⟩ = ([.int .u8 0, .int .i64 (-77), .int .i64 0] : List Value)[j]? := by
  have h2 := tw_spare_In h j hj
  have hj' : j < ([.int .u8 0, .int .i64 (-77), .int .i64 0] : List Value).length := hj
  rw [List.getElem?_eq_getElem hj'] at h2 ⊢
  exact cell_kept h2 hb
theorem InR.ops' {W : World} {v : Value} {l : List Cin} (h : InR W v l) : ∀ x ∈ l, x.op < 256 := fun x hx => by
  obtain ⟨ao, c, e, _, h2⟩ := h
  obtain ⟨i, hi, rfl⟩ := List.getElem_of_mem hx
  rcases h2 with h2 | ⟨g, o, _, h2⟩
  · rw [h2] at hi
    cases hi
  · exact (h2 i hi).1
set_option maxRecDepth 100000 in
set_option maxHeartbeats 16000000 in
theorem walk3 (ps : List Plc) (l : List Cin) (pv lv : Value) (W : World) (hR : TabR W) (hJ : TabJ W) (hP : PlR W pv ps) (hL : InR W lv l) : Calls Tryd.prog 3 #[pv, lv] W fun e w' => e = .returned (.bool true) ∧ Below W.heap.size W w' := by
  have hlv : ∀ V : World, Below W.heap.size W V → Calls Tryd.prog 6 #[] V fun e w' => e = .returned (.bool true) ∧ Below V.heap.size V w' := fun V hb => lives V (hR.below hb) (hJ.below hb)
  have HP := hid hP
  have HL := hid hL
  obtain ⟨pa, pc, rfl, ⟨hpc, hpm⟩, _⟩ := hP
  obtain ⟨la, lc, rfl, ⟨hlc, hlm⟩, _⟩ := hL
  clear hR hJ
  by_cases h1 : 1000 < ps.length
  · have h1' : (ps.length : Int) > 1000 := by omega
    clear h1
    go_enter Tryd.func3, Tryd.ntmps3
    go_wp2_with (fail)
    refine (hlv _ (Below.refl _ _)).mono ?_
    rintro e w9 ⟨rfl, hb9⟩
    have HB9 := hid hb9
    clear hb9
    go_wp2_with (fail)
    go_ret
    exact ⟨rfl, HB9.out⟩
  have h1' : ¬ (ps.length : Int) > 1000 := by omega
  by_cases h2 : 1500 < l.length
  · have h2' : (l.length : Int) > 1500 := by omega
    clear h2
    go_enter Tryd.func3, Tryd.ntmps3
    go_wp2_with (fail)
    refine (hlv _ (Below.refl _ _)).mono ?_
    rintro e w9 ⟨rfl, hb9⟩
    have HB9 := hid hb9
    clear hb9
    go_wp2_with (fail)
    go_ret
    exact ⟨rfl, HB9.out⟩
  have h2' : ¬ (l.length : Int) > 1500 := by omega
  have hs1 : ps.length ≤ 1048576 := by omega
  have hs2 : l.length ≤ 1048576 := by omega
  have HS1 := hid hs1
  have HS2 := hid hs2
  have c7 := twin_Pl W _ ps HP.out hs1
  clear h1 h2 hs1 hs2
  go_enter Tryd.func3, Tryd.ntmps3
  go_wp2_with (fail)
  refine c7.mono ?_
  rintro e W2 ⟨g1, cap1, rfl, hT1, hb2⟩
  have HT1 := hid hT1
  have HB2 := hid hb2
  have c8 := twin_In W2 _ l (HL.out.keep hb2) HS2.out
  clear hT1 hb2 c7
  go_wp2_with (fail)
  refine c8.mono ?_
  rintro e W3 ⟨g2, cap2, rfl, hT2, hb3⟩
  have HT2 := hid hT2
  have HK23 := hid hb3
  have HB3 := hid (HB2.out.trans (hb3.mono HB2.out.size))
  have HR1 := hid (tw_row_Pl HT1.out HS1.out)
  have HR2 := hid (tw_row_In HT2.out HS2.out HL.out.ops')
  have c9 := codecheck_ ps l _ _ W3 (HR1.out.keep HK23.out) HR2.out
  have c10 := fun (V : World) (hb : Below W.heap.size W V) => rcheck_ ps l _ _ V (HP.out.keep hb) (HL.out.keep hb)
  generalize ckF ps l = R at *
  unfold CkP at c9 c10
  generalize (!(R == 0)) = ok at *
  clear hT2 hb3 c8
  go_wp2_with (fail)
  refine c9.mono ?_
  rintro e W4 ⟨rfl, hb4⟩
  have HK34 := hid hb4
  have HB4 := hid (HB3.out.trans (hb4.mono HB3.out.size))
  clear hb4 c9
  go_wp2_with (fail)
  refine (c10 _ HB4.out).mono ?_
  rintro e W5 ⟨rfl, hb5⟩
  have HK35 := hid (HK34.out.trans (hb5.mono HK34.out.size))
  have HB5 := hid (HB4.out.trans (hb5.mono HB4.out.size))
  have HK25 := hid (HK23.out.trans (HK35.out.mono HK23.out.size))
  have c11 := left_Pl W5 g1 cap1 _ ps (HR1.out.keep HK25.out) (spare_keep_Pl HT1.out HK25.out) ⟨(tw_cap_Pl HT1.out).1, (tw_cap_Pl HT1.out).2.2.2⟩ (HP.out.keep HB5.out) HS1.out
  clear hb5 c10
  go_wp2_with (fail)
  refine c11.mono ?_
  rintro e W6 ⟨rfl, hb6⟩
  have HK36 := hid (HK35.out.trans (hb6.mono HK35.out.size))
  have HB6 := hid (HB5.out.trans (hb6.mono HB5.out.size))
  have c12 := left_In W6 g2 cap2 _ l (HR2.out.keep HK36.out) (spare_keep_In HT2.out HK36.out) ⟨(tw_cap_In HT2.out).1, (tw_cap_In HT2.out).2.2.2⟩ (HL.out.keep HB6.out) HS2.out
  clear hb6 c11
  go_wp2_with (fail)
  refine c12.mono ?_
  rintro e W7 ⟨rfl, hb7⟩
  have HB7 := hid (HB6.out.trans (hb7.mono HB6.out.size))
  clear hb7 c12
  go_wp2_with (fail)
  refine (hlv _ HB7.out).mono ?_
  rintro e w9 ⟨rfl, hb9⟩
  have HB9 := hid (HB7.out.trans (hb9.mono HB7.out.size))
  clear hb9
  go_wp2_with (fail)
  go_ret
  exact ⟨rfl, HB9.out⟩
end Go.Proofs.YtdenddknbmiboaaDoor.Lex
