/-
  The walk of LateLeast.
  Bytes, and rows of yes and no, that came in.
-/
import Derived.Test.YtmlapodhpinhmaaDoorG8
import Derived.Test.YtmlapodhpinhmaaDoorG7
import Derived.ProofKit
import Derived.OpenShut
import Derived.ShutString
import Derived.ChangeOld
import Derived.SizedLaws
namespace Go.Proofs.YtmlapodhpinhmaaDoor.Lex
open Go.ChangeShapes Go.WideShapes Go.ChangeAt Go.RowKit Go.Joins
/-- Bytes that are read. -/
def BAt (w : World) (f : Nat → Nat) (n : Nat) (v : Value) : Prop := ∃ (ao : Option Addr) (cap : Nat), v = .slice ao n cap ∧ n ≤ 140737488355328 ∧ (n = 0 ∨ ∃ b o, ao = some ⟨b, o, none⟩ ∧ ∀ i, i < n → w.cell? ⟨b, o + i, none⟩ = some (.int .u8 (f i : Int)) ∧ f i < 256)
theorem BAt.keep {w w' : World} {f : Nat → Nat} {n : Nat} {v : Value} (h : BAt w f n v) (hb : Below w.heap.size w w') : BAt w' f n v := by
  obtain ⟨ao, cap, e, h1, h2⟩ := h
  exact ⟨ao, cap, e, h1, h2.imp id (fun ⟨b, o, e, h⟩ => ⟨b, o, e, fun i hi => ⟨cell_kept (h i hi).1 hb, (h i hi).2⟩⟩)⟩
/-- A program in its variable, how late its flows are, bytes, the tables. -/
structure LS (w : World) (p : Pg) (A B C : Value) (b : Nat) (l : List Int) (f : Nat → Nat) (n : Nat) (v : Value) (W : World) : Prop where
  row : W.heap[w.heap.size]? = some (.cells (pgC p A B C) 26 (0, 0))
  P : PgAt W p A B C
  lat : Rowl W b l
  len : l.length = p.flows.length
  few : p.flows.length ≤ 1000000
  M : BAt W f n v
  R : TabR W
  J : TabJ W
  below : Below w.heap.size w W
theorem LS.keep {w W W' : World} {p : Pg} {A B C : Value} {b : Nat} {l : List Int} {f : Nat → Nat} {n : Nat} {v : Value} (h : LS w p A B C b l f n v W) (hb : Below W.heap.size W W') : LS w p A B C b l f n v W' :=
  ⟨keep_row h.row hb, h.P.keep hb, keep_row h.lat hb, h.len, h.few, h.M.keep hb, h.R.below hb, h.J.below hb, h.below.trans (hb.mono h.below.size)⟩
theorem LS.ia {w W : World} {p : Pg} {A B C : Value} {b : Nat} {l : List Int} {f : Nat → Nat} {n : Nat} {v : Value} (h : LS w p A B C b l f n v W) : IAt W l (.slice (some ⟨b, 0, none⟩) p.flows.length p.flows.length) := by
  have := h.lat.at (by have := h.len; have := h.few; omega)
  rwa [h.len] at this
/-- What holds of the copy while it is made later. -/
structure ThirdI (l o : List Int) (k N q : Nat) : Prop where
  len : o.length = N
  own : lateAt o k = lateAt l k
  le : ∀ j : Nat, j < N → lateAt l j ≤ lateAt o j
  todo : ∀ j : Nat, q ≤ j → lateAt o j = lateAt l j
set_option maxRecDepth 100000 in
set_option maxHeartbeats 16000000 in
theorem walk4 (p : Pg) (f : Nat → Nat) (n : Nat) (v : Value) (w : World) (A B C : Value) (hP : PgAt w p A B C) (hM : BAt w f n v) (hR : TabR w) (hJ : TabJ w) : Calls Tryd.prog 4 #[pgV p A B C, v] w fun e w' => e = .returned (.bool true) ∧ Below w.heap.size w w' := by
  obtain ⟨A0, A1, rfl, _⟩ := hP.ins
  obtain ⟨B0, B1, SL, rfl, hfl, _, _, hfc, hfs⟩ := hP.flows
  have HFC := hid hfc
  have HFS := hid hfs
  clear hfc hfs
  obtain ⟨C0, C1, rfl, _⟩ := hP.outs
  have X0 := hid (FV.new hP hR hJ)
  have M0 := hid (hM.keep ((Below.refl w.heap.size w).alloc (Nat.le_refl _) (.cells (pgC p (.slice A0 p.ins.length A1) (.slice B0 p.flows.length B1) (.slice C0 p.outs.length C1)) 26)))
  obtain ⟨ma, mc, rfl, hmn, _⟩ := hM
  clear hP hR hJ
  obtain ⟨W0, hW0⟩ : ∃ W0, W0 = w.alloc (.cells (pgC p (.slice A0 p.ins.length A1) (.slice B0 p.flows.length B1) (.slice C0 p.outs.length C1)) 26) := ⟨_, rfl⟩
  rw [← hW0] at X0 M0
  obtain ⟨r0, r1, r2, r3⟩ := row4 X0.out.row
  rw [hW0] at r0 r1 r2 r3
  go_enter Tryd.func4, Tryd.ntmps4
  go_wp2_with (fail)
  rw [← hW0]
  clear hW0 r0 r1 r2 r3
  refine (great p _ _ _ _ X0.out.P).mono ?_
  rintro e w1 ⟨⟨gr, rfl, hgr⟩, hb1⟩
  have X1 := hid (X0.out.keep hb1)
  have M1 := hid (M0.out.keep hb1)
  have HGR := hid hgr
  clear hb1 X0 M0 hgr
  obtain ⟨s0, s1, s2, s3⟩ := row4 X1.out.row
  cases gr with
  | true =>
    go_wp2_with (fail)
    refine (lives _ X1.out.R X1.out.J).mono ?_
    rintro e w2 ⟨rfl, hb2⟩
    have B2 := hid (X1.out.below.trans (hb2.mono X1.out.below.size))
    clear hb2
    go_wp2_with (fail)
    go_ret
    exact ⟨rfl, B2.out⟩
  | false =>
    have hgs := HGR.out rfl
    go_wp2_with (fail)
    refine (of_l p _ _ _ _ X1.out.P X1.out.R X1.out.J).mono ?_
    rintro e w2 ⟨hO, hb2⟩
    have X2 := hid (X1.out.keep hb2)
    have M2 := hid (M1.out.keep hb2)
    clear hb2 X1 M1 s0 s1 s2 s3 HGR
    obtain ⟨s0, s1, s2, s3⟩ := row4 X2.out.row
    rcases hO with ⟨hE, rfl⟩ | ⟨hE, _, rfl⟩ | ⟨l, b, hE, hl, rfl, hbw, hrw, hlen, hfine⟩
    · have hE' : (nmErr p != 0) = true := by simpa using hE
      have cN := (callsIn_wide (n := 20)).1 (names_check p _ _ _ _ X2.out.P X2.out.R X2.out.J)
      clear hE
      generalize nmErr p = E at *
      go_wp2_with (fail)
      refine cN.mono ?_
      rintro e w3 ⟨rfl, hb3⟩
      have X3 := hid (X2.out.keep hb3)
      clear hb3 cN s0 s1 s2 s3 X2
      go_wp2_with (fail)
      refine (lives _ X3.out.R X3.out.J).mono ?_
      rintro e w4 ⟨rfl, hb4⟩
      have B4 := hid (X3.out.below.trans (hb4.mono X3.out.below.size))
      clear hb4
      go_wp2_with (fail)
      go_ret
      exact ⟨rfl, B4.out⟩
    · have cN := (callsIn_wide (n := 20)).1 (names_check p _ _ _ _ X2.out.P X2.out.R X2.out.J)
      rw [hE] at cN
      have HE := hid hE
      clear hE
      go_wp2_with (fail)
      refine cN.mono ?_
      rintro e w3 ⟨rfl, hb3⟩
      have X3 := hid (X2.out.keep hb3)
      clear hb3 cN s0 s1 s2 s3 X2
      obtain ⟨s0, s1, s2, s3⟩ := row4 X3.out.row
      have cN := (callsIn_wide (n := 20)).1 (names_check p _ _ _ _ X3.out.P X3.out.R X3.out.J)
      rw [HE.out] at cN
      go_wp2_with (fail)
      refine cN.mono ?_
      rintro e w4 ⟨rfl, hb4⟩
      have X4 := hid (X3.out.keep hb4)
      clear hb4 cN s0 s1 s2 s3 X3
      go_wp2_with (fail)
      refine (lives _ X4.out.R X4.out.J).mono ?_
      rintro e w5 ⟨rfl, hb5⟩
      have B5 := hid (X4.out.below.trans (hb5.mono X4.out.below.size))
      clear hb5
      go_wp2_with (fail)
      go_ret
      exact ⟨rfl, B5.out⟩
    · obtain ⟨hok, _, hti, _⟩ := of_late hE hl hfine
      have L2 := hid (LS.mk X2.out.row X2.out.P hrw hlen (by omega) M2.out X2.out.R X2.out.J X2.out.below : LS w p _ _ _ b l f n _ w2)
      have HE := hid hE
      have HOK := hid hok
      have HTI := hid hti
      have HFI := hid hfine
      have HBW := hid hbw
      have HLEN := hid hlen
      clear hE hl hok hti hfine hbw hrw X2 M2 hlen
      go_wp2_with (fail)
      refine ((callsIn_wide (n := 20)).1 (check_ p l _ _ _ _ _ L2.out.P L2.out.ia L2.out.R L2.out.J)).mono ?_
      rintro e w3 ⟨rfl, hb3⟩
      rw [HOK.out]
      have L3 := hid (L2.out.keep hb3)
      clear hb3 L2 s0 s1 s2 s3
      obtain ⟨s0, s1, s2, s3⟩ := row4 L3.out.row
      go_wp2_with (fail)
      clear s0 s1 s2 s3
      go_loopw [7] (fun i wr => ∃ k : Nat, k ≤ p.flows.length ∧ i = .int .i64 (k : Int) ∧ Hid (LS w p (.slice A0 p.ins.length A1) (.slice B0 p.flows.length B1) (.slice C0 p.outs.length C1) b l f n (.slice ma n mc) wr)) (fun i _ => p.flows.length - (intOf i).toNat)
      case atStart => exact ⟨0, Nat.zero_le _, rfl, L3⟩
      case round =>
        obtain ⟨k, hk, rfl, LW⟩ := hrel
        by_cases hkl : k < p.flows.length
        · have hkl' : (k : Int) < (p.flows.length : Int) := by omega
          have hk0 : (0 : Int) ≤ (k : Int) := by omega
          obtain ⟨fb, fo, rfl, hcc⟩ := HFC.out.resolve_left (by omega)
          have FX := (hcc k hkl).keep LW.out.below
          have hSt := (HFS.out k hkl).keep LW.out.below
          obtain ⟨a3, c3, _, e3, _⟩ := (HFS.out k hkl).out
          rw [e3] at FX hSt
          have hnm := chk_nm (nm_chk HE.out _ (List.getElem_mem hkl))
          have HAT : Hid (∀ r ∈ gat 32 p.flows[k].body 0 [], ∃ a : Int, ageF p l k r.1 r.2 = (a, 0) ∧ 0 ≤ a) := hid (fun r hr => age_there HOK.out hkl hr)
          have hGl : (gat 32 p.flows[k].body 0 []).length ≤ 1000000 := by have h1 := gat_len 32 p.flows[k].body 0 []; have h2 := hnm.2; simp at h1; omega
          obtain ⟨q0, q1, q2, q3, q4, q5, q6, q7⟩ := FX
          obtain ⟨s0, s1, s2, s3⟩ := row4 LW.out.row
          have c19 := refs 32 p.flows[k].body _ _ hSt hnm.1 (by omega) (by omega)
          clear hcc e3 hSt hnm
          generalize p.flows[k].body = y at *
          generalize gat 32 y 0 [] = G at *
          go_wp2_with (fail)
          refine c19.mono ?_
          rintro e w4 ⟨rv, rfl, hrow, hb4⟩
          obtain ⟨ra, rc, rfl, hrf⟩ := RfAt.of_own hrow
          have L4 := hid (LW.out.keep hb4)
          have HRF := hid hrf
          clear hrow hrf hb4 c19 q0 q1 q2 q3 q4 q5 q6 q7 s0 s1 s2 s3
          go_wp2_with (fail)
          go_loopw [9] (fun j vr => ∃ m : Nat, m ≤ G.length ∧ j = .int .i64 (m : Int) ∧ Hid (Below w4.heap.size w4 vr)) (fun j _ => G.length - (intOf j).toNat)
          case atStart => exact ⟨0, Nat.zero_le _, rfl, hid (Below.refl _ _)⟩
          case round =>
            obtain ⟨m, hm, rfl, HBV⟩ := hrel
            obtain ⟨vr, rfl⟩ : ∃ vr, vr = wr := ⟨_, rfl⟩
            have XR := hid (L4.out.keep HBV.out)
            by_cases hml : m < G.length
            · have hml' : (m : Int) < (G.length : Int) := by omega
              have hm0 : (0 : Int) ≤ (m : Int) := by omega
              obtain ⟨g, rfl, hcc⟩ := HRF.out.resolve_left (by omega)
              have u0 := cell_kept (hcc m hml).1 HBV.out
              have u1 := cell_kept (hcc m hml).2 HBV.out
              obtain ⟨ag, hag, hag0⟩ := HAT.out _ (List.getElem_mem hml)
              obtain ⟨s0, s1, s2, s3⟩ := row4 XR.out.row
              clear hcc
              generalize G[m] = z at *
              go_wp2_with (fail)
              refine wp_region_held_drew (S := fun W => W.cell? ⟨w.heap.size, 0, none⟩ = some (.int .i64 p.st) ∧ W.cell? ⟨w.heap.size, 1, none⟩ = some (.slice A0 p.ins.length A1) ∧ W.cell? ⟨w.heap.size, 2, none⟩ = some (.slice (some ⟨fb, fo, none⟩) p.flows.length B1) ∧ W.cell? ⟨w.heap.size, 3, none⟩ = some (.slice C0 p.outs.length C1) ∧ W.cell? ⟨g, m * 2, none⟩ = some (.string z.1) ∧ W.cell? ⟨g, m * 2 + 1, none⟩ = some (.int .i64 (z.2 : Int))) (by kernel_rfl) ?_ (fun hHeld => ?_)
              · exact ⟨s0, s1, s2, s3, u0, u1⟩
              refine wpAnyH_take (i := 0) (oi := { dst := some 77, op := Go.Op.load 26 (Go.Operand.tmp 2), type := 26, pos := _, after := #[], guard := none }) (v := ?_) rfl (by kernel_rfl) (by kernel_rfl) (by kernel_rfl) (fun _ _ _ h => h) (Or.inl ⟨by rfl, ?_⟩) (by assumption) ?_
              rotate_left
              · intro w hSw; (try dsimp only at hSw); go_simp <;> first | with_reducible rfl | (rw [if_neg (by first | omega | (simp only [ByteArray.size_append] at *; omega))])
              simp only [Act.put, List.setIfInBounds_toArray, List.set_cons_zero, List.set_cons_succ]
              refine wpAnyH_take (i := 1) (oi := { dst := some 78, op := Go.Op.move (Go.Operand.tmp 5), type := 27, pos := _, after := #[], guard := none }) (v := ?_) rfl (by kernel_rfl) (by kernel_rfl) (by kernel_rfl) (fun _ _ _ h => h) (Or.inl ⟨by rfl, ?_⟩) (by assumption) ?_
              rotate_left
              · intro w hSw; (try dsimp only at hSw); go_simp <;> first | with_reducible rfl | (rw [if_neg (by first | omega | (simp only [ByteArray.size_append] at *; omega))])
              simp only [Act.put, List.setIfInBounds_toArray, List.set_cons_zero, List.set_cons_succ]
              refine wpAnyH_take (i := 2) (oi := { dst := some 79, op := Go.Op.move (Go.Operand.tmp 7), type := 3, pos := _, after := #[], guard := none }) (v := ?_) rfl (by kernel_rfl) (by kernel_rfl) (by kernel_rfl) (fun _ _ _ h => h) (Or.inl ⟨by rfl, ?_⟩) (by assumption) ?_
              rotate_left
              · intro w hSw; (try dsimp only at hSw); go_simp <;> first | with_reducible rfl | (rw [if_neg (by first | omega | (simp only [ByteArray.size_append] at *; omega))])
              simp only [Act.put, List.setIfInBounds_toArray, List.set_cons_zero, List.set_cons_succ]
              refine wpAnyH_take (i := 3) (oi := { dst := some 80, op := Go.Op.move (Go.Operand.tmp 8), type := 47, pos := _, after := #[], guard := none }) (v := ?_) rfl (by kernel_rfl) (by kernel_rfl) (by kernel_rfl) (fun _ _ _ h => h) (Or.inl ⟨by rfl, ?_⟩) (by assumption) ?_
              rotate_left
              · intro w hSw; (try dsimp only at hSw); go_simp <;> first | with_reducible rfl | (rw [if_neg (by first | omega | (simp only [ByteArray.size_append] at *; omega))])
              simp only [Act.put, List.setIfInBounds_toArray, List.set_cons_zero, List.set_cons_succ]
              refine wpAnyH_take (i := 4) (oi := { dst := some 81, op := Go.Op.move (Go.Operand.tmp 9), type := 3, pos := _, after := #[], guard := none }) (v := ?_) rfl (by kernel_rfl) (by kernel_rfl) (by kernel_rfl) (fun _ _ _ h => h) (Or.inl ⟨by rfl, ?_⟩) (by assumption) ?_
              rotate_left
              · intro w hSw; (try dsimp only at hSw); go_simp <;> first | with_reducible rfl | (rw [if_neg (by first | omega | (simp only [ByteArray.size_append] at *; omega))])
              simp only [Act.put, List.setIfInBounds_toArray, List.set_cons_zero, List.set_cons_succ]
              refine wpAnyH_take (i := 5) (oi := { dst := some 82, op := Go.Op.indexAddr 47 (Go.Operand.tmp 80) (Go.Operand.tmp 81), type := 0, pos := _, after := #[{ on := 3, ground := Go.Ground.data }, { on := 4, ground := Go.Ground.data }], guard := none }) (v := ?_) rfl (by kernel_rfl) (by kernel_rfl) (by kernel_rfl) (fun _ _ _ h => h) (Or.inl ⟨by rfl, ?_⟩) (by assumption) ?_
              rotate_left
              · intro w hSw; (try dsimp only at hSw); go_simp <;> first | with_reducible rfl | (rw [if_neg (by first | omega | (simp only [ByteArray.size_append] at *; omega))])
              simp only [Act.put, List.setIfInBounds_toArray, List.set_cons_zero, List.set_cons_succ]
              refine wpAnyH_take (i := 6) (oi := { dst := some 83, op := Go.Op.load 29 (Go.Operand.tmp 82), type := 29, pos := _, after := #[{ on := 5, ground := Go.Ground.data }], guard := none }) (v := ?_) rfl (by kernel_rfl) (by kernel_rfl) (by kernel_rfl) (fun _ _ _ h => h) (Or.inl ⟨by rfl, ?_⟩) (by assumption) ?_
              rotate_left
              · intro w hSw; (try dsimp only at hSw); go_simp <;> first | with_reducible rfl | (rw [if_neg (by first | omega | (simp only [ByteArray.size_append] at *; omega))])
              simp only [Act.put, List.setIfInBounds_toArray, List.set_cons_zero, List.set_cons_succ]
              refine wpAnyH_ready (rs := [7]) (by kernel_rfl) (by simp) ?_
              refine AllReadyH.cons (o := { dst := some 84, op := Go.Op.call { callee := Go.Callee.value (Go.Operand.func 11), args := #[Go.Operand.tmp 77, Go.Operand.tmp 78, Go.Operand.tmp 79, Go.Operand.tmp 83], argTypes := #[26, 27, 3, 29] }, type := 37, pos := _, after := #[{ on := 0, ground := Go.Ground.data }, { on := 1, ground := Go.Ground.data }, { on := 2, ground := Go.Ground.data }, { on := 6, ground := Go.Ground.data }], guard := none }) rfl (fun K hK => ?_) AllReadyH.nil
              go_simp
              refine ((callsIn_wide (n := 22)).1 (age_f p l _ _ _ _ _ _ _ _ (XR.out.P.keep (Below.refl _ _).drew) (XR.out.ia.keep (Below.refl _ _).drew) (XR.out.R.below (Below.refl _ _).drew) (XR.out.J.below (Below.refl _ _).drew))).mono ?_
              rintro e v4 ⟨rfl, hb4⟩
              rw [hag]
              have hb4' := (Below.refl vr.heap.size vr).drew.trans (hb4.mono (Nat.le_refl _))
              have X4 := hid (XR.out.keep hb4')
              have HB4 := hid hb4'
              obtain ⟨n0, n1, n2, n3⟩ := row4 X4.out.row
              have n4 := cell_kept u0 hb4'
              have n5 := cell_kept u1 hb4'
              clear hb4 hb4'
              go_wp2_with fail
              refine hK.out _ _ ?_ (fun hHeld1 => ?_)
              · exact ⟨n0, n1, n2, n3, n4, n5⟩
              clear hK K
              refine wpAnyH_take (i := 8) (oi := { dst := some 76, op := Go.Op.move (Go.Operand.tmp 84), type := 37, pos := _, after := #[{ on := 7, ground := Go.Ground.data }], guard := none }) (v := ?_) rfl (by kernel_rfl) (by kernel_rfl) (by kernel_rfl) (fun _ _ _ h => h) (Or.inl ⟨by rfl, ?_⟩) (by assumption) ?_
              rotate_left
              · intro w hSw; (try dsimp only at hSw); go_simp <;> first | with_reducible rfl | (rw [if_neg (by first | omega | (simp only [ByteArray.size_append] at *; omega))])
              simp only [Act.put, List.setIfInBounds_toArray, List.set_cons_zero, List.set_cons_succ]
              refine wpAnyH_take (i := 9) (oi := { dst := some 85, op := Go.Op.extract (Go.Operand.tmp 76) 0, type := 3, pos := _, after := #[{ on := 8, ground := Go.Ground.data }], guard := none }) (v := ?_) rfl (by kernel_rfl) (by kernel_rfl) (by kernel_rfl) (fun _ _ _ h => h) (Or.inl ⟨by rfl, ?_⟩) (by assumption) ?_
              rotate_left
              · intro w hSw; (try dsimp only at hSw); go_simp <;> first | with_reducible rfl | (rw [if_neg (by first | omega | (simp only [ByteArray.size_append] at *; omega))])
              simp only [Act.put, List.setIfInBounds_toArray, List.set_cons_zero, List.set_cons_succ]
              refine wpAnyH_take (i := 10) (oi := { dst := some 86, op := Go.Op.extract (Go.Operand.tmp 76) 1, type := 36, pos := _, after := #[{ on := 8, ground := Go.Ground.data }, { on := 11, ground := Go.Ground.gcOnly Go.Departure.lateStores }], guard := none }) (v := ?_) rfl (by kernel_rfl) (by kernel_rfl) (by kernel_rfl) (fun _ _ _ h => h) (Or.inl ⟨by rfl, ?_⟩) (by assumption) ?_
              rotate_left
              · intro w hSw; (try dsimp only at hSw); go_simp <;> first | with_reducible rfl | (rw [if_neg (by first | omega | (simp only [ByteArray.size_append] at *; omega))])
              simp only [Act.put, List.setIfInBounds_toArray, List.set_cons_zero, List.set_cons_succ]
              refine wpAnyH_take (i := 11) (oi := { dst := some 10, op := Go.Op.assign (Go.Operand.tmp 85), type := 3, pos := _, after := #[{ on := 9, ground := Go.Ground.data }, { on := 7, ground := Go.Ground.chain }, { on := 0, ground := Go.Ground.phase }, { on := 1, ground := Go.Ground.phase }, { on := 2, ground := Go.Ground.phase }, { on := 3, ground := Go.Ground.phase }, { on := 4, ground := Go.Ground.phase }, { on := 5, ground := Go.Ground.phase }, { on := 6, ground := Go.Ground.phase }, { on := 7, ground := Go.Ground.phase }, { on := 8, ground := Go.Ground.phase }, { on := 9, ground := Go.Ground.phase }, { on := 10, ground := Go.Ground.textOnly Go.Departure.lateStores }], guard := none }) (v := ?_) rfl (by kernel_rfl) (by kernel_rfl) (by kernel_rfl) (fun _ _ _ h => h) (Or.inl ⟨by rfl, ?_⟩) (by assumption) ?_
              rotate_left
              · intro w hSw; (try dsimp only at hSw); go_simp <;> first | with_reducible rfl | (rw [if_neg (by first | omega | (simp only [ByteArray.size_append] at *; omega))])
              simp only [Act.put, List.setIfInBounds_toArray, List.set_cons_zero, List.set_cons_succ]
              refine wpAnyH_take (i := 12) (oi := { dst := some 11, op := Go.Op.assign (Go.Operand.tmp 86), type := 36, pos := _, after := #[{ on := 10, ground := Go.Ground.data }, { on := 11, ground := Go.Ground.chain }, { on := 0, ground := Go.Ground.phase }, { on := 1, ground := Go.Ground.phase }, { on := 2, ground := Go.Ground.phase }, { on := 3, ground := Go.Ground.phase }, { on := 4, ground := Go.Ground.phase }, { on := 5, ground := Go.Ground.phase }, { on := 6, ground := Go.Ground.phase }, { on := 7, ground := Go.Ground.phase }, { on := 8, ground := Go.Ground.phase }, { on := 9, ground := Go.Ground.phase }, { on := 10, ground := Go.Ground.phase }, { on := 11, ground := Go.Ground.phase }], guard := none }) (v := ?_) rfl (by kernel_rfl) (by kernel_rfl) (by kernel_rfl) (fun _ _ _ h => h) (Or.inl ⟨by rfl, ?_⟩) (by assumption) ?_
              rotate_left
              · intro w hSw; (try dsimp only at hSw); go_simp <;> first | with_reducible rfl | (rw [if_neg (by first | omega | (simp only [ByteArray.size_append] at *; omega))])
              simp only [Act.put, List.setIfInBounds_toArray, List.set_cons_zero, List.set_cons_succ]
              refine wpAnyH_done (by kernel_rfl) ?_ _
              clear n0 n1 n2 n3 n4 n5 s0 s1 s2 s3 u0 u1
              have hd : decide (ag < 0) = false := by simp; omega
              go_wp2_with (fail)
              go_roundw
              case rel => exact ⟨m + 1, by omega, by go_num, hid (HBV.out.trans (HB4.out.mono HBV.out.size))⟩
              case measure => simp [intOf]; omega
            · have hml' : ¬ (m : Int) < (G.length : Int) := by omega
              clear HRF HAT hm
              obtain ⟨i0, hi, hz0, hz1, hz2⟩ := info_parts infI
              have hsrc : ∀ j u, (ints l)[j]? = some u → vr.cell? ((⟨b, 0, none⟩ : Addr).add j) = some u := fun j u hj => by
                have hjl : j < l.length := by
                  rcases Nat.lt_or_ge j l.length with h | h
                  · exact h
                  · rw [List.getElem?_eq_none (by rw [ints_len]; exact h)] at hj; cases hj
                rw [ints_at l j hjl] at hj
                obtain rfl := Option.some.inj hj
                have hadd : (⟨b, 0, none⟩ : Addr).add j = ⟨b, j, none⟩ := by unfold Addr.add; split <;> simp_all
                rw [hadd, lateAt_nat l j hjl]
                exact XR.out.lat.cell j hjl
              have HSRC := hid hsrc
              have hone : ∀ u ∈ ints l, u.oneCell' = true := fun u hu => by obtain ⟨x, _, rfl⟩ := List.mem_map.1 hu; rfl
              have HONE := hid hone
              have hil : (ints l).length = p.flows.length * 1 := by rw [ints_len, HLEN.out]; omega
              have HIL := hid hil
              have HFEW := hid XR.out.few
              clear hsrc hone hil
              go_wp2_with
                (at_builtin
                 refine wpList_append_own _ rfl _ _ 27 rfl vr.heap.size 3 i0 (.int .i64 0) 1 8 Tryd.underlying27 hi hz0 hz1 hz2 rfl (by decide) (.slice none 0 0) 0 [] rfl ⟨rfl, .inl ⟨rfl, rfl⟩⟩ ⟨b, 0, none⟩ p.flows.length p.flows.length (ints l) rfl HIL.out HSRC.out HONE.out (by have := HFEW.out; unfold maxLen; omega) (by have := HFEW.out; omega) (Nat.le_refl _) ?_
                 intro v5 w5 hown hgrow _
                 rw [Nat.zero_add, List.nil_append] at hown
                 have hlv := hgrow
                 have HOWN := hid hown
                 have HGR := hid hgrow
                 clear hown hgrow hlv)
              have hN : 0 < p.flows.length := by omega
              have hfull : ∃ ob oc, v5 = .slice (some ⟨ob, 0, none⟩) p.flows.length oc ∧ vr.heap.size ≤ ob := by
                rcases HOWN.out.2 with ⟨_, h0⟩ | ⟨gg, cap, cur, h1, h2, _⟩
                · omega
                · exact ⟨gg, cap, h1, h2⟩
              obtain ⟨ob, oc, rfl, hob⟩ := hfull
              have hb5 : Below vr.heap.size vr w5 := (Below.refl vr.heap.size vr).grown HGR.out (Nat.le_refl _) (fun k e => by cases e)
              have HB5 := hid hb5
              have hOW : OwI w5 vr.heap.size (.slice (some ⟨ob, 0, none⟩) p.flows.length oc) l := by unfold OwI; rw [HLEN.out]; exact HOWN.out
              have OW5 := hid hOW
              clear hi hz0 hz1 hz2 hOW HSRC HONE HIL HOWN HGR hb5 HBV
              go_wp2_with (fail)
              go_loopw [13] (fun j ur => ∃ (q : Nat) (o : List Int), q ≤ p.flows.length ∧ j = .int .i64 (q : Int) ∧ Hid (Below vr.heap.size vr ur) ∧ Hid (OwI ur vr.heap.size (.slice (some ⟨ob, 0, none⟩) p.flows.length oc) o) ∧ Hid (ThirdI l o k p.flows.length q)) (fun j _ => p.flows.length - (intOf j).toNat)
              case atStart => exact ⟨0, l, Nat.zero_le _, rfl, HB5, OW5, hid ⟨HLEN.out, rfl, fun j _ => Int.le_refl _, fun j hj => rfl⟩⟩
              case round =>
                obtain ⟨q, o, hq, rfl, HBQ, OQ, TQ⟩ := hrel
                obtain ⟨ur, rfl⟩ : ∃ ur, ur = wr := ⟨_, rfl⟩
                have LQ := hid (XR.out.keep HBQ.out)
                by_cases hql : q < p.flows.length
                · have hql' : (q : Int) < (p.flows.length : Int) := by omega
                  have hq0 : (0 : Int) ≤ (q : Int) := by omega
                  have HTL := hid TQ.out.len
                  have OQ2 : OwI ur vr.heap.size (.slice (some ⟨ob, 0, none⟩) o.length oc) o := by rw [HTL.out]; exact OQ.out
                  have hqo : q < o.length := by rw [HTL.out]; exact hql
                  obtain ⟨x0, x1⟩ := OQ2.cell q hqo
                  have HOQ := hid OQ2
                  clear OQ2 hqo
                  by_cases hqn : q < n
                  · have hqn' : (q : Int) < (n : Int) := by omega
                    by_cases hqk : q = k
                    · have hqk' : ((q : Int) != (k : Int)) = false := by simp [hqk]
                      have HT2 : Hid (ThirdI l o k p.flows.length (q + 1)) := hid ⟨TQ.out.len, TQ.out.own, TQ.out.le, fun j hj => TQ.out.todo j (by omega)⟩
                      clear hqk
                      go_wp2_with (fail)
                      go_roundw
                      case rel => exact ⟨q + 1, o, by omega, by go_num, HBQ, OQ, HT2⟩
                      case measure => simp [intOf]; omega
                    · have hqk' : ((q : Int) != (k : Int)) = true := by simp; omega
                      obtain ⟨mao, mac, hme, _, hmc⟩ := LQ.out.M
                      injection hme with hm1 _ hm3
                      subst hm1 hm3
                      obtain ⟨mb, mo, rfl, hmcc⟩ := hmc.resolve_left (by omega)
                      obtain ⟨y0, y1⟩ := hmcc q hqn
                      have hfb := HFI.out.at (q : Int)
                      rw [TQ.out.todo q (Nat.le_refl _)] at x0
                      have HNE := hid hqk
                      clear hmc hmcc hqk
                      generalize hF : lateAt l (q : Int) = F at x0 hfb
                      have HF := hid hF
                      clear hF
                      generalize f q = fq at y0 y1
                      have hq1 : IntKind.i64.wrap (F + ((fq % 3 : Nat) : Int)) = F + ((fq % 3 : Nat) : Int) := by rw [IntKind.wrap_i64]; omega
                      go_wp2_with (fail)
                      have hqo2 : q < o.length := by rw [HTL.out]; exact hql
                      have HT2 : Hid (ThirdI l (o.set q (F + (fq : Int) % 3)) k p.flows.length (q + 1)) := hid ⟨by rw [List.length_set]; exact TQ.out.len, by rw [lateAt_set o q _ _ hqo2, if_neg (by have := HNE.out; simpa using fun h => this h.symm)]; exact TQ.out.own, fun j hj => by
                        rw [lateAt_set o q _ _ hqo2]
                        split
                        · rename_i e
                          have e : j = q := by simpa using e
                          rw [e, HF.out]
                          omega
                        · exact TQ.out.le j hj, fun j hj => by rw [lateAt_set o q _ _ hqo2, if_neg (by simp; omega)]; exact TQ.out.todo j (by omega)⟩
                      have hput := HOQ.out.put q (F + (fq : Int) % 3)
                      rw [HTL.out] at hput
                      have HPUT : Hid (OwI (ur.setCell ⟨ob, q, none⟩ (.int .i64 (F + (fq : Int) % 3))).drew vr.heap.size (.slice (some ⟨ob, 0, none⟩) p.flows.length oc) (o.set q (F + (fq : Int) % 3))) := hid (hput.step (Below.refl _ _).drew)
                      have HBP := hid ((HBQ.out.setCell (p := ⟨ob, q, none⟩) hob (.int .i64 (F + (fq : Int) % 3))).drew)
                      clear hput hqo2 TQ OQ
                      go_region
                      go_wp2_with (fail)
                      go_roundw
                      case rel => exact ⟨q + 1, _, by omega, by go_num, HBP, HPUT, HT2⟩
                      case measure => simp [intOf]; omega
                  · have hqn' : ¬ (q : Int) < (n : Int) := by omega
                    have HT2 : Hid (ThirdI l o k p.flows.length (q + 1)) := hid ⟨TQ.out.len, TQ.out.own, TQ.out.le, fun j hj => TQ.out.todo j (by omega)⟩
                    go_wp2_with (fail)
                    go_roundw
                    case rel => exact ⟨q + 1, o, by omega, by go_num, HBQ, OQ, HT2⟩
                    case measure => simp [intOf]; omega
                · have hql' : ¬ (q : Int) < (p.flows.length : Int) := by omega
                  have hqe : q = p.flows.length := by omega
                  have HTL := hid TQ.out.len
                  have OQ2 : OwI ur vr.heap.size (.slice (some ⟨ob, 0, none⟩) o.length oc) o := by rw [HTL.out]; exact OQ.out
                  have hko : k < o.length := by rw [HTL.out]; exact hkl
                  obtain ⟨x0, x1⟩ := OQ2.cell k hko
                  have HKL := hid (show k < l.length by rw [HLEN.out]; exact hkl)
                  have z0 := LQ.out.lat.cell k HKL.out
                  rw [← lateAt_nat l k HKL.out] at z0
                  have hfb := HFI.out.at (k : Int)
                  have HOQ := hid OQ2
                  have HTQ := hid TQ.out
                  have B6 := HBQ.out.setCell (p := ⟨ob, k, none⟩) hob (.int .i64 (lateAt l (k : Int) - 1))
                  have L6 := hid (XR.out.keep B6)
                  obtain ⟨s0, s1, s2, s3⟩ := row4 L6.out.row
                  have OP := OQ2.put k (lateAt l (k : Int) - 1)
                  have hno : lateOk p (o.set k (lateAt l (k : Int) - 1)) = false := by
                    refine less_not HE.out HTI.out HLEN.out HKL.out (by rw [List.length_set, HTL.out, HLEN.out]) ?_ (fun j hj => ?_)
                    · rw [lateAt_set o k _ _ hko, if_pos (by simp)]
                    · rw [lateAt_set o k _ _ hko, if_neg (by simpa using hj)]
                      rcases Nat.lt_or_ge j p.flows.length with h | h
                      · exact TQ.out.le j h
                      · rw [TQ.out.todo j (by omega)]
                        exact Int.le_refl _
                  have hia : IAt (ur.setCell ⟨ob, k, none⟩ (.int .i64 (lateAt l (k : Int) - 1))) (o.set k (lateAt l (k : Int) - 1)) (.slice (some ⟨ob, 0, none⟩) p.flows.length oc) := by
                    have h1 : OwI (ur.setCell ⟨ob, k, none⟩ (.int .i64 (lateAt l (k : Int) - 1))) vr.heap.size (.slice (some ⟨ob, 0, none⟩) p.flows.length oc) (o.set k (lateAt l (k : Int) - 1)) := by
                      rw [← HTL.out]; exact OP
                    exact h1.at (by rw [List.length_set, HTL.out]; exact XR.out.few)
                  have cC := (callsIn_wide (n := 20)).1 (check_ p (o.set k (lateAt l (k : Int) - 1)) _ _ _ _ _ L6.out.P hia L6.out.R L6.out.J)
                  rw [hno] at cC
                  clear OQ2 hko hqe hq OQ TQ HOQ HTQ OP hno hia B6
                  have HBQ2 := hid (HBQ.out.setCell (p := ⟨ob, k, none⟩) hob (.int .i64 (lateAt l (k : Int) - 1)))
                  generalize lateAt l (k : Int) = F at *
                  have hw1 : wrap64 (F - 1) = F - 1 := wrap_in (by omega) (by omega)
                  go_wp2_with (fail)
                  refine cC.mono ?_
                  rintro e w6 ⟨rfl, hb6⟩
                  have L7 := hid (L6.out.keep hb6)
                  clear hb6 cC s0 s1 s2 s3 x0 x1 z0
                  go_wp2_with (fail)
                  go_roundw
                  case rel => exact ⟨k + 1, by omega, by go_num, L7⟩
                  case measure => simp [intOf]; omega
        · have hkl' : ¬ (k : Int) < (p.flows.length : Int) := by omega
          go_wp2_with (fail)
          refine (lives _ LW.out.R LW.out.J).mono ?_
          rintro e w5 ⟨rfl, hb5⟩
          have B5 := hid (LW.out.below.trans (hb5.mono LW.out.below.size))
          clear hb5
          go_wp2_with (fail)
          go_ret
          exact ⟨rfl, B5.out⟩
end Go.Proofs.YtmlapodhpinhmaaDoor.Lex
namespace Go.Proofs.YtmlapodhpinhmaaDoor.Lex
open Go.ChangeShapes Go.WideShapes Go.ChangeAt Go.RowKit Go.Joins
/-- Bytes that came in. -/
def Came (w : World) (a : Option Addr) (len : Nat) (l : List Int) : Prop :=
  l.length = len ∧ len ≤ 140737488355328 ∧ (∀ i, i < len → 0 ≤ l.getD i 0 ∧ l.getD i 0 < 256) ∧ (len = 0 ∨ ∃ b o, a = some ⟨b, o, none⟩ ∧ ∀ i, i < len → w.cell? ⟨b, o + i, none⟩ = some (.int .u8 (l.getD i 0)))
theorem bytesOf5 : Tryd.prog.bytesOf 5 = 1 := by kernel_rfl
theorem cellsOf5 : Tryd.prog.cellsOf 5 = 1 := by kernel_rfl
theorem byte_wf {n : Int} (h : (Lit.int .u8 n).wf = true) : 0 ≤ n ∧ n < 256 := by
  simp [Lit.wf, IntKind.min, IntKind.max, IntKind.signed, IntKind.bits] at h
  omega
theorem nat_c {n : Int} (h : (Lit.int .u8 n).wf = true) : ∃ k : Nat, k < 2 ^ 8 ∧ n = k := by
  simp [Lit.wf, IntKind.min, IntKind.max, IntKind.signed, IntKind.bits] at h
  exact ⟨n.toNat, by omega, by omega⟩
theorem getD_mem' (l : List Int) (k : Nat) (h : k < l.length) : l.getD k 0 ∈ l := by
  simp [h]
/-- A []uint8 that came in, opened once. -/
theorem view {H : Type} {enc : TypeId × Value → H} {W : World} {a0 : Option Addr} {len cap fuel : Nat} {d : DataW H} {p : List MemPlace} {ts : List TypeId} {ds : List (DataW H)} {j : Nat}
    (hf : DataW.trod enc Tryd.prog W 0 (fun _ => true) true fuel 43 [.slice a0 len cap] = some (d, p))
    (hsz : (DataW.weightsEach Tryd.prog ts ds).all (· ≤ reachBytes) = true) (ht : ts[j]? = some 43) (hj : ds[j]? = some d) : ∃ l, Came W a0 len l ∧ len ≤ cap := by
  rcases open_ints Tryd.underlying43 Tryd.underlying5 cellsOf5 hf with ⟨hcs, hx⟩ | ⟨a, len', cap', zs, hcs, _, hl, hm, hz, hx, hcell, hwz⟩
  · simp at hcs
    obtain ⟨rfl, rfl, rfl⟩ := hcs
    exact ⟨[], ⟨rfl, by omega, fun i hi => by omega, .inl rfl⟩, Nat.le_refl _⟩
  · simp at hcs
    obtain ⟨rfl, rfl, rfl⟩ := hcs
    simp only [Prod.mk.injEq] at hx
    obtain ⟨rfl, _⟩ := hx
    simp only [if_true] at hz
    have hr := sized_slice hsz ht hj Tryd.underlying43
    rw [bytesOf5] at hr
    simp only [lits, List.length_map, List.length_take, List.length_drop, reachBytes] at hr
    have hg : ∀ i, i < len → (zs.take len).getD i 0 = zs.getD i 0 := fun i hi => by simp [List.getD, hi]
    refine ⟨zs.take len, ⟨by simp; omega, by omega, fun i hi => ?_, ?_⟩, hl⟩
    · rw [hg i hi]
      exact byte_wf (hwz _ (getD_mem' zs i (by omega)))
    · by_cases h0 : len = 0
      · exact .inl h0
      · obtain ⟨b, o, sp⟩ := a
        have hsp : sp = none := by simpa [Addr.add] using World.cell?_spot (hcell 0 (by omega))
        subst hsp
        refine .inr ⟨b, o, rfl, fun i hi => ?_⟩
        rw [hg i hi, ← Addr.add_mid]
        exact hcell i (by omega)
theorem Came.bat {w : World} {a : Option Addr} {len cap : Nat} {l : List Int} (h : Came w a len l) : BAt w (fun i => (l.getD i 0).toNat) len (.slice a len cap) := by
  obtain ⟨_, h2, h3, h4⟩ := h
  refine ⟨a, cap, rfl, h2, h4.imp id (fun ⟨b, o, e, hc⟩ => ⟨b, o, e, fun i hi => ?_⟩)⟩
  have := h3 i hi
  refine ⟨?_, by show (l.getD i 0).toNat < 256; omega⟩
  rw [hc i hi]
  show some (Value.int .u8 (l.getD i 0)) = some (Value.int .u8 (((l.getD i 0).toNat : Nat) : Int))
  rw [Int.toNat_of_nonneg this.1]
end Go.Proofs.YtmlapodhpinhmaaDoor.Lex
