/-
  The walk of LateLeast.
  Bytes, and rows of yes and no, that came in.
  A program that came in, with how late its flows may be, one of them, and for what it asks.
  The contracts of TwinIns and TwinTexts.
  The contracts of TwinFlow and TwinFlows.
  The contract of TwinProg.
  Whether the twin of a program's rows is as it was: the contracts of LeftIns, LeftTexts, LeftFlow, LeftFlows and LeftProg.
  The document's own Find.
  How late a flow must be at least, for what it asks for: the contract of the reference's least.
-/
import Derived.Test.YtmlapodhpinhmaaDoorG8
import Derived.Test.YtmlapodhpinhmaaDoorG7
import Derived.ProofKit
import Derived.OpenShut
import Derived.ShutString
import Derived.ChangeOld
import Derived.SizedLaws
import Derived.Test.YtmlapodhpinhmaaDoorG3
import Derived.Test.YtmlapodhpinhmaaDoorG6
import Derived.Test.YtmlapodhpinhmaaDoorG2
import Derived.Deep.QuietTactic
namespace Go.Proofs.YtmlapodhpinhmaaDoor.Lex
open Go.ChangeShapes Go.WideShapes Go.ChangeAt Go.RowKit Go.Joins
/-- Bytes that are read. -/
def BAt (w : World) (f : Nat → Nat) (n : Nat) (v : Value) : Prop := ∃ (ao : Option Addr) (cap : Nat), v = .slice ao n cap ∧ n ≤ 140737488355328 ∧ (n = 0 ∨ ∃ b o, ao = some ⟨b, o, none⟩ ∧ ∀ i, i < n → w.cell? ⟨b, o + i, none⟩ = some (.int .u8 (f i : Int)) ∧ f i < 256)
theorem BAt.keep {w w' : World} {f : Nat → Nat} {n : Nat} {v : Value} (h : BAt w f n v) (hb : Below w.heap.size w w') : BAt w' f n v := by
  obtain ⟨ao, cap, e, h1, h2⟩ := h
  exact ⟨ao, cap, e, h1, h2.imp id (fun ⟨b, o, e, h⟩ => ⟨b, o, e, fun i hi => ⟨cell_kept (h i hi).1 hb, (h i hi).2⟩⟩)⟩
/-- A program in its variable, how late its flows are, bytes, the tables. -/
structure LS (w : World) (p : Pg) (A B C : Value) (b : Nat) (l : List Int) (f : Nat → Nat) (n : Nat) (v : Value) (W : World) : Prop where
  row : W.heap[w.heap.size]? = some (.cells (pgC p A B C) 26 (0, 0))
  P : PgAt W p A B C
  lat : Rowl W b l
  len : l.length = p.flows.length
  few : p.flows.length ≤ 1000000
  M : BAt W f n v
  R : TabR W
  J : TabJ W
  below : Below w.heap.size w W
theorem LS.keep {w W W' : World} {p : Pg} {A B C : Value} {b : Nat} {l : List Int} {f : Nat → Nat} {n : Nat} {v : Value} (h : LS w p A B C b l f n v W) (hb : Below W.heap.size W W') : LS w p A B C b l f n v W' :=
  ⟨keep_row h.row hb, h.P.keep hb, keep_row h.lat hb, h.len, h.few, h.M.keep hb, h.R.below hb, h.J.below hb, h.below.trans (hb.mono h.below.size)⟩
theorem LS.ia {w W : World} {p : Pg} {A B C : Value} {b : Nat} {l : List Int} {f : Nat → Nat} {n : Nat} {v : Value} (h : LS w p A B C b l f n v W) : IAt W l (.slice (some ⟨b, 0, none⟩) p.flows.length p.flows.length) := by
  have := h.lat.at (by have := h.len; have := h.few; omega)
  rwa [h.len] at this
/-- What holds of the copy while it is made later. -/
structure ThirdI (l o : List Int) (k N q : Nat) : Prop where
  len : o.length = N
  own : lateAt o k = lateAt l k
  le : ∀ j : Nat, j < N → lateAt l j ≤ lateAt o j
  todo : ∀ j : Nat, q ≤ j → lateAt o j = lateAt l j
set_option maxRecDepth 100000 in
set_option maxHeartbeats 16000000 in
theorem walk4 (p : Pg) (f : Nat → Nat) (n : Nat) (v : Value) (w : World) (A B C : Value) (hP : PgAt w p A B C) (hM : BAt w f n v) (hR : TabR w) (hJ : TabJ w) : Calls Tryd.prog 4 #[pgV p A B C, v] w fun e w' => e = .returned (.bool true) ∧ Below w.heap.size w w' := by
  obtain ⟨A0, A1, rfl, _⟩ := hP.ins
  obtain ⟨B0, B1, SL, rfl, hfl, _, _, hfc, hfs⟩ := hP.flows
  have HFC := hid hfc
  have HFS := hid hfs
  clear hfc hfs
  obtain ⟨C0, C1, rfl, _⟩ := hP.outs
  have X0 := hid (FV.new hP hR hJ)
  have M0 := hid (hM.keep ((Below.refl w.heap.size w).alloc (Nat.le_refl _) (.cells (pgC p (.slice A0 p.ins.length A1) (.slice B0 p.flows.length B1) (.slice C0 p.outs.length C1)) 26)))
  obtain ⟨ma, mc, rfl, hmn, _⟩ := hM
  clear hP hR hJ
  obtain ⟨W0, hW0⟩ : ∃ W0, W0 = w.alloc (.cells (pgC p (.slice A0 p.ins.length A1) (.slice B0 p.flows.length B1) (.slice C0 p.outs.length C1)) 26) := ⟨_, rfl⟩
  rw [← hW0] at X0 M0
  obtain ⟨r0, r1, r2, r3⟩ := row4 X0.out.row
  rw [hW0] at r0 r1 r2 r3
  go_enter Tryd.func4, Tryd.ntmps4
  go_wp2_with (fail)
  rw [← hW0]
  clear hW0 r0 r1 r2 r3
  refine (great p _ _ _ _ X0.out.P).mono ?_
  rintro e w1 ⟨⟨gr, rfl, hgr⟩, hb1⟩
  have X1 := hid (X0.out.keep hb1)
  have M1 := hid (M0.out.keep hb1)
  have HGR := hid hgr
  clear hb1 X0 M0 hgr
  obtain ⟨s0, s1, s2, s3⟩ := row4 X1.out.row
  cases gr with
  | true =>
    go_wp2_with (fail)
    refine (lives _ X1.out.R X1.out.J).mono ?_
    rintro e w2 ⟨rfl, hb2⟩
    have B2 := hid (X1.out.below.trans (hb2.mono X1.out.below.size))
    clear hb2
    go_wp2_with (fail)
    go_ret
    exact ⟨rfl, B2.out⟩
  | false =>
    have hgs := HGR.out rfl
    go_wp2_with (fail)
    refine (of_l p _ _ _ _ X1.out.P X1.out.R X1.out.J).mono ?_
    rintro e w2 ⟨hO, hb2⟩
    have X2 := hid (X1.out.keep hb2)
    have M2 := hid (M1.out.keep hb2)
    clear hb2 X1 M1 s0 s1 s2 s3 HGR
    obtain ⟨s0, s1, s2, s3⟩ := row4 X2.out.row
    rcases hO with ⟨hE, rfl⟩ | ⟨hE, _, rfl⟩ | ⟨l, b, hE, hl, rfl, hbw, hrw, hlen, hfine⟩
    · have hE' : (nmErr p != 0) = true := by simpa using hE
      have cN := (callsIn_wide (n := 20)).1 (names_check p _ _ _ _ X2.out.P X2.out.R X2.out.J)
      clear hE
      generalize nmErr p = E at *
      go_wp2_with (fail)
      refine cN.mono ?_
      rintro e w3 ⟨rfl, hb3⟩
      have X3 := hid (X2.out.keep hb3)
      clear hb3 cN s0 s1 s2 s3 X2
      go_wp2_with (fail)
      refine (lives _ X3.out.R X3.out.J).mono ?_
      rintro e w4 ⟨rfl, hb4⟩
      have B4 := hid (X3.out.below.trans (hb4.mono X3.out.below.size))
      clear hb4
      go_wp2_with (fail)
      go_ret
      exact ⟨rfl, B4.out⟩
    · have cN := (callsIn_wide (n := 20)).1 (names_check p _ _ _ _ X2.out.P X2.out.R X2.out.J)
      rw [hE] at cN
      have HE := hid hE
      clear hE
      go_wp2_with (fail)
      refine cN.mono ?_
      rintro e w3 ⟨rfl, hb3⟩
      have X3 := hid (X2.out.keep hb3)
      clear hb3 cN s0 s1 s2 s3 X2
      obtain ⟨s0, s1, s2, s3⟩ := row4 X3.out.row
      have cN := (callsIn_wide (n := 20)).1 (names_check p _ _ _ _ X3.out.P X3.out.R X3.out.J)
      rw [HE.out] at cN
      go_wp2_with (fail)
      refine cN.mono ?_
      rintro e w4 ⟨rfl, hb4⟩
      have X4 := hid (X3.out.keep hb4)
      clear hb4 cN s0 s1 s2 s3 X3
      go_wp2_with (fail)
      refine (lives _ X4.out.R X4.out.J).mono ?_
      rintro e w5 ⟨rfl, hb5⟩
      have B5 := hid (X4.out.below.trans (hb5.mono X4.out.below.size))
      clear hb5
      go_wp2_with (fail)
      go_ret
      exact ⟨rfl, B5.out⟩
    · obtain ⟨hok, _, hti, _⟩ := of_late hE hl hfine
      have L2 := hid (LS.mk X2.out.row X2.out.P hrw hlen (by omega) M2.out X2.out.R X2.out.J X2.out.below : LS w p _ _ _ b l f n _ w2)
      have HE := hid hE
      have HOK := hid hok
      have HTI := hid hti
      have HFI := hid hfine
      have HBW := hid hbw
      have HLEN := hid hlen
      clear hE hl hok hti hfine hbw hrw X2 M2 hlen
      go_wp2_with (fail)
      refine ((callsIn_wide (n := 20)).1 (check_ p l _ _ _ _ _ L2.out.P L2.out.ia L2.out.R L2.out.J)).mono ?_
      rintro e w3 ⟨rfl, hb3⟩
      rw [HOK.out]
      have L3 := hid (L2.out.keep hb3)
      clear hb3 L2 s0 s1 s2 s3
      obtain ⟨s0, s1, s2, s3⟩ := row4 L3.out.row
      go_wp2_with (fail)
      clear s0 s1 s2 s3
      go_loopw [7] (fun i wr => ∃ k : Nat, k ≤ p.flows.length ∧ i = .int .i64 (k : Int) ∧ Hid (LS w p (.slice A0 p.ins.length A1) (.slice B0 p.flows.length B1) (.slice C0 p.outs.length C1) b l f n (.slice ma n mc) wr)) (fun i _ => p.flows.length - (intOf i).toNat)
      case atStart => exact ⟨0, Nat.zero_le _, rfl, L3⟩
      case round =>
        obtain ⟨k, hk, rfl, LW⟩ := hrel
        by_cases hkl : k < p.flows.length
        · have hkl' : (k : Int) < (p.flows.length : Int) := by omega
          have hk0 : (0 : Int) ≤ (k : Int) := by omega
          obtain ⟨fb, fo, rfl, hcc⟩ := HFC.out.resolve_left (by omega)
          have FX := (hcc k hkl).keep LW.out.below
          have hSt := (HFS.out k hkl).keep LW.out.below
          obtain ⟨a3, c3, _, e3, _⟩ := (HFS.out k hkl).out
          rw [e3] at FX hSt
          have hnm := chk_nm (nm_chk HE.out _ (List.getElem_mem hkl))
          have HAT : Hid (∀ r ∈ gat 32 p.flows[k].body 0 [], ∃ a : Int, ageF p l k r.1 r.2 = (a, 0) ∧ 0 ≤ a) := hid (fun r hr => age_there HOK.out hkl hr)
          have hGl : (gat 32 p.flows[k].body 0 []).length ≤ 1000000 := by have h1 := gat_len 32 p.flows[k].body 0 []; have h2 := hnm.2; simp at h1; omega
          obtain ⟨q0, q1, q2, q3, q4, q5, q6, q7⟩ := FX
          obtain ⟨s0, s1, s2, s3⟩ := row4 LW.out.row
          have c19 := refs 32 p.flows[k].body _ _ hSt hnm.1 (by omega) (by omega)
          clear hcc e3 hSt hnm
          generalize p.flows[k].body = y at *
          generalize gat 32 y 0 [] = G at *
          go_wp2_with (fail)
          refine c19.mono ?_
          rintro e w4 ⟨rv, rfl, hrow, hb4⟩
          obtain ⟨ra, rc, rfl, hrf⟩ := RfAt.of_own hrow
          have L4 := hid (LW.out.keep hb4)
          have HRF := hid hrf
          clear hrow hrf hb4 c19 q0 q1 q2 q3 q4 q5 q6 q7 s0 s1 s2 s3
          go_wp2_with (fail)
          go_loopw [9] (fun j vr => ∃ m : Nat, m ≤ G.length ∧ j = .int .i64 (m : Int) ∧ Hid (Below w4.heap.size w4 vr)) (fun j _ => G.length - (intOf j).toNat)
          case atStart => exact ⟨0, Nat.zero_le _, rfl, hid (Below.refl _ _)⟩
          case round =>
            obtain ⟨m, hm, rfl, HBV⟩ := hrel
            obtain ⟨vr, rfl⟩ : ∃ vr, vr = wr := ⟨_, rfl⟩
            have XR := hid (L4.out.keep HBV.out)
            by_cases hml : m < G.length
            · have hml' : (m : Int) < (G.length : Int) := by omega
              have hm0 : (0 : Int) ≤ (m : Int) := by omega
              obtain ⟨g, rfl, hcc⟩ := HRF.out.resolve_left (by omega)
              have u0 := cell_kept (hcc m hml).1 HBV.out
              have u1 := cell_kept (hcc m hml).2 HBV.out
              obtain ⟨ag, hag, hag0⟩ := HAT.out _ (List.getElem_mem hml)
              obtain ⟨s0, s1, s2, s3⟩ := row4 XR.out.row
              clear hcc
              generalize G[m] = z at *
              go_wp2_with (fail)
              refine wp_region_held_drew (S := fun W => W.cell? ⟨w.heap.size, 0, none⟩ = some (.int .i64 p.st) ∧ W.cell? ⟨w.heap.size, 1, none⟩ = some (.slice A0 p.ins.length A1) ∧ W.cell? ⟨w.heap.size, 2, none⟩ = some (.slice (some ⟨fb, fo, none⟩) p.flows.length B1) ∧ W.cell? ⟨w.heap.size, 3, none⟩ = some (.slice C0 p.outs.length C1) ∧ W.cell? ⟨g, m * 2, none⟩ = some (.string z.1) ∧ W.cell? ⟨g, m * 2 + 1, none⟩ = some (.int .i64 (z.2 : Int))) (by kernel_rfl) ?_ (fun hHeld => ?_)
              · exact ⟨s0, s1, s2, s3, u0, u1⟩
              refine wpAnyH_take (i := 0) (oi := { dst := some 77, op := Go.Op.load 26 (Go.Operand.tmp 2), type := 26, pos := _, after := #[], guard := none }) (v := ?_) rfl (by kernel_rfl) (by kernel_rfl) (by kernel_rfl) (fun _ _ _ h => h) (Or.inl ⟨by rfl, ?_⟩) (by assumption) ?_
              rotate_left
              · intro w hSw; (try dsimp only at hSw); go_simp <;> first | with_reducible rfl | (rw [if_neg (by first | omega | (simp only [ByteArray.size_append] at *; omega))])
              simp only [Act.put, List.setIfInBounds_toArray, List.set_cons_zero, List.set_cons_succ]
              refine wpAnyH_take (i := 1) (oi := { dst := some 78, op := Go.Op.move (Go.Operand.tmp 5), type := 27, pos := _, after := #[], guard := none }) (v := ?_) rfl (by kernel_rfl) (by kernel_rfl) (by kernel_rfl) (fun _ _ _ h => h) (Or.inl ⟨by rfl, ?_⟩) (by assumption) ?_
              rotate_left
              · intro w hSw; (try dsimp only at hSw); go_simp <;> first | with_reducible rfl | (rw [if_neg (by first | omega | (simp only [ByteArray.size_append] at *; omega))])
              simp only [Act.put, List.setIfInBounds_toArray, List.set_cons_zero, List.set_cons_succ]
              refine wpAnyH_take (i := 2) (oi := { dst := some 79, op := Go.Op.move (Go.Operand.tmp 7), type := 3, pos := _, after := #[], guard := none }) (v := ?_) rfl (by kernel_rfl) (by kernel_rfl) (by kernel_rfl) (fun _ _ _ h => h) (Or.inl ⟨by rfl, ?_⟩) (by assumption) ?_
              rotate_left
              · intro w hSw; (try dsimp only at hSw); go_simp <;> first | with_reducible rfl | (rw [if_neg (by first | omega | (simp only [ByteArray.size_append] at *; omega))])
              simp only [Act.put, List.setIfInBounds_toArray, List.set_cons_zero, List.set_cons_succ]
              refine wpAnyH_take (i := 3) (oi := { dst := some 80, op := Go.Op.move (Go.Operand.tmp 8), type := 47, pos := _, after := #[], guard := none }) (v := ?_) rfl (by kernel_rfl) (by kernel_rfl) (by kernel_rfl) (fun _ _ _ h => h) (Or.inl ⟨by rfl, ?_⟩) (by assumption) ?_
              rotate_left
              · intro w hSw; (try dsimp only at hSw); go_simp <;> first | with_reducible rfl | (rw [if_neg (by first | omega | (simp only [ByteArray.size_append] at *; omega))])
              simp only [Act.put, List.setIfInBounds_toArray, List.set_cons_zero, List.set_cons_succ]
              refine wpAnyH_take (i := 4) (oi := { dst := some 81, op := Go.Op.move (Go.Operand.tmp 9), type := 3, pos := _, after := #[], guard := none }) (v := ?_) rfl (by kernel_rfl) (by kernel_rfl) (by kernel_rfl) (fun _ _ _ h => h) (Or.inl ⟨by rfl, ?_⟩) (by assumption) ?_
              rotate_left
              · intro w hSw; (try dsimp only at hSw); go_simp <;> first | with_reducible rfl | (rw [if_neg (by first | omega | (simp only [ByteArray.size_append] at *; omega))])
              simp only [Act.put, List.setIfInBounds_toArray, List.set_cons_zero, List.set_cons_succ]
              refine wpAnyH_take (i := 5) (oi := { dst := some 82, op := Go.Op.indexAddr 47 (Go.Operand.tmp 80) (Go.Operand.tmp 81), type := 0, pos := _, after := #[{ on := 3, ground := Go.Ground.data }, { on := 4, ground := Go.Ground.data }], guard := none }) (v := ?_) rfl (by kernel_rfl) (by kernel_rfl) (by kernel_rfl) (fun _ _ _ h => h) (Or.inl ⟨by rfl, ?_⟩) (by assumption) ?_
              rotate_left
              · intro w hSw; (try dsimp only at hSw); go_simp <;> first | with_reducible rfl | (rw [if_neg (by first | omega | (simp only [ByteArray.size_append] at *; omega))])
              simp only [Act.put, List.setIfInBounds_toArray, List.set_cons_zero, List.set_cons_succ]
              refine wpAnyH_take (i := 6) (oi := { dst := some 83, op := Go.Op.load 29 (Go.Operand.tmp 82), type := 29, pos := _, after := #[{ on := 5, ground := Go.Ground.data }], guard := none }) (v := ?_) rfl (by kernel_rfl) (by kernel_rfl) (by kernel_rfl) (fun _ _ _ h => h) (Or.inl ⟨by rfl, ?_⟩) (by assumption) ?_
              rotate_left
              · intro w hSw; (try dsimp only at hSw); go_simp <;> first | with_reducible rfl | (rw [if_neg (by first | omega | (simp only [ByteArray.size_append] at *; omega))])
              simp only [Act.put, List.setIfInBounds_toArray, List.set_cons_zero, List.set_cons_succ]
              refine wpAnyH_ready (rs := [7]) (by kernel_rfl) (by simp) ?_
              refine AllReadyH.cons (o := { dst := some 84, op := Go.Op.call { callee := Go.Callee.value (Go.Operand.func 11), args := #[Go.Operand.tmp 77, Go.Operand.tmp 78, Go.Operand.tmp 79, Go.Operand.tmp 83], argTypes := #[26, 27, 3, 29] }, type := 37, pos := _, after := #[{ on := 0, ground := Go.Ground.data }, { on := 1, ground := Go.Ground.data }, { on := 2, ground := Go.Ground.data }, { on := 6, ground := Go.Ground.data }], guard := none }) rfl (fun K hK => ?_) AllReadyH.nil
              go_simp
              refine ((callsIn_wide (n := 22)).1 (age_f p l _ _ _ _ _ _ _ _ (XR.out.P.keep (Below.refl _ _).drew) (XR.out.ia.keep (Below.refl _ _).drew) (XR.out.R.below (Below.refl _ _).drew) (XR.out.J.below (Below.refl _ _).drew))).mono ?_
              rintro e v4 ⟨rfl, hb4⟩
              rw [hag]
              have hb4' := (Below.refl vr.heap.size vr).drew.trans (hb4.mono (Nat.le_refl _))
              have X4 := hid (XR.out.keep hb4')
              have HB4 := hid hb4'
              obtain ⟨n0, n1, n2, n3⟩ := row4 X4.out.row
              have n4 := cell_kept u0 hb4'
              have n5 := cell_kept u1 hb4'
              clear hb4 hb4'
              go_wp2_with fail
              refine hK.out _ _ ?_ (fun hHeld1 => ?_)
              · exact ⟨n0, n1, n2, n3, n4, n5⟩
              clear hK K
              refine wpAnyH_take (i := 8) (oi := { dst := some 76, op := Go.Op.move (Go.Operand.tmp 84), type := 37, pos := _, after := #[{ on := 7, ground := Go.Ground.data }], guard := none }) (v := ?_) rfl (by kernel_rfl) (by kernel_rfl) (by kernel_rfl) (fun _ _ _ h => h) (Or.inl ⟨by rfl, ?_⟩) (by assumption) ?_
              rotate_left
              · intro w hSw; (try dsimp only at hSw); go_simp <;> first | with_reducible rfl | (rw [if_neg (by first | omega | (simp only [ByteArray.size_append] at *; omega))])
              simp only [Act.put, List.setIfInBounds_toArray, List.set_cons_zero, List.set_cons_succ]
              refine wpAnyH_take (i := 9) (oi := { dst := some 85, op := Go.Op.extract (Go.Operand.tmp 76) 0, type := 3, pos := _, after := #[{ on := 8, ground := Go.Ground.data }], guard := none }) (v := ?_) rfl (by kernel_rfl) (by kernel_rfl) (by kernel_rfl) (fun _ _ _ h => h) (Or.inl ⟨by rfl, ?_⟩) (by assumption) ?_
              rotate_left
              · intro w hSw; (try dsimp only at hSw); go_simp <;> first | with_reducible rfl | (rw [if_neg (by first | omega | (simp only [ByteArray.size_append] at *; omega))])
              simp only [Act.put, List.setIfInBounds_toArray, List.set_cons_zero, List.set_cons_succ]
              refine wpAnyH_take (i := 10) (oi := { dst := some 86, op := Go.Op.extract (Go.Operand.tmp 76) 1, type := 36, pos := _, after := #[{ on := 8, ground := Go.Ground.data }, { on := 11, ground := Go.Ground.gcOnly Go.Departure.lateStores }], guard := none }) (v := ?_) rfl (by kernel_rfl) (by kernel_rfl) (by kernel_rfl) (fun _ _ _ h => h) (Or.inl ⟨by rfl, ?_⟩) (by assumption) ?_
              rotate_left
              · intro w hSw; (try dsimp only at hSw); go_simp <;> first | with_reducible rfl | (rw [if_neg (by first | omega | (simp only [ByteArray.size_append] at *; omega))])
              simp only [Act.put, List.setIfInBounds_toArray, List.set_cons_zero, List.set_cons_succ]
              refine wpAnyH_take (i := 11) (oi := { dst := some 10, op := Go.Op.assign (Go.Operand.tmp 85), type := 3, pos := _, after := #[{ on := 9, ground := Go.Ground.data }, { on := 7, ground := Go.Ground.chain }, { on := 0, ground := Go.Ground.phase }, { on := 1, ground := Go.Ground.phase }, { on := 2, ground := Go.Ground.phase }, { on := 3, ground := Go.Ground.phase }, { on := 4, ground := Go.Ground.phase }, { on := 5, ground := Go.Ground.phase }, { on := 6, ground := Go.Ground.phase }, { on := 7, ground := Go.Ground.phase }, { on := 8, ground := Go.Ground.phase }, { on := 9, ground := Go.Ground.phase }, { on := 10, ground := Go.Ground.textOnly Go.Departure.lateStores }], guard := none }) (v := ?_) rfl (by kernel_rfl) (by kernel_rfl) (by kernel_rfl) (fun _ _ _ h => h) (Or.inl ⟨by rfl, ?_⟩) (by assumption) ?_
              rotate_left
              · intro w hSw; (try dsimp only at hSw); go_simp <;> first | with_reducible rfl | (rw [if_neg (by first | omega | (simp only [ByteArray.size_append] at *; omega))])
              simp only [Act.put, List.setIfInBounds_toArray, List.set_cons_zero, List.set_cons_succ]
              refine wpAnyH_take (i := 12) (oi := { dst := some 11, op := Go.Op.assign (Go.Operand.tmp 86), type := 36, pos := _, after := #[{ on := 10, ground := Go.Ground.data }, { on := 11, ground := Go.Ground.chain }, { on := 0, ground := Go.Ground.phase }, { on := 1, ground := Go.Ground.phase }, { on := 2, ground := Go.Ground.phase }, { on := 3, ground := Go.Ground.phase }, { on := 4, ground := Go.Ground.phase }, { on := 5, ground := Go.Ground.phase }, { on := 6, ground := Go.Ground.phase }, { on := 7, ground := Go.Ground.phase }, { on := 8, ground := Go.Ground.phase }, { on := 9, ground := Go.Ground.phase }, { on := 10, ground := Go.Ground.phase }, { on := 11, ground := Go.Ground.phase }], guard := none }) (v := ?_) rfl (by kernel_rfl) (by kernel_rfl) (by kernel_rfl) (fun _ _ _ h => h) (Or.inl ⟨by rfl, ?_⟩) (by assumption) ?_
              rotate_left
              · intro w hSw; (try dsimp only at hSw); go_simp <;> first | with_reducible rfl | (rw [if_neg (by first | omega | (simp only [ByteArray.size_append] at *; omega))])
              simp only [Act.put, List.setIfInBounds_toArray, List.set_cons_zero, List.set_cons_succ]
              refine wpAnyH_done (by kernel_rfl) ?_ _
              clear n0 n1 n2 n3 n4 n5 s0 s1 s2 s3 u0 u1
              have hd : decide (ag < 0) = false := by simp; omega
              go_wp2_with (fail)
              go_roundw
              case rel => exact ⟨m + 1, by omega, by go_num, hid (HBV.out.trans (HB4.out.mono HBV.out.size))⟩
              case measure => simp [intOf]; omega
            · have hml' : ¬ (m : Int) < (G.length : Int) := by omega
              clear HRF HAT hm
              obtain ⟨i0, hi, hz0, hz1, hz2⟩ := info_parts infI
              have hsrc : ∀ j u, (ints l)[j]? = some u → vr.cell? ((⟨b, 0, none⟩ : Addr).add j) = some u := fun j u hj => by
                have hjl : j < l.length := by
                  rcases Nat.lt_or_ge j l.length with h | h
                  · exact h
                  · rw [List.getElem?_eq_none (by rw [ints_len]; exact h)] at hj; cases hj
                rw [ints_at l j hjl] at hj
                obtain rfl := Option.some.inj hj
                have hadd : (⟨b, 0, none⟩ : Addr).add j = ⟨b, j, none⟩ := by unfold Addr.add; split <;> simp_all
                rw [hadd, lateAt_nat l j hjl]
                exact XR.out.lat.cell j hjl
              have HSRC := hid hsrc
              have hone : ∀ u ∈ ints l, u.oneCell' = true := fun u hu => by obtain ⟨x, _, rfl⟩ := List.mem_map.1 hu; rfl
              have HONE := hid hone
              have hil : (ints l).length = p.flows.length * 1 := by rw [ints_len, HLEN.out]; omega
              have HIL := hid hil
              have HFEW := hid XR.out.few
              clear hsrc hone hil
              go_wp2_with
                (at_builtin
                 refine wpList_append_own _ rfl _ _ 27 rfl vr.heap.size 3 i0 (.int .i64 0) 1 8 Tryd.underlying27 hi hz0 hz1 hz2 rfl (by decide) (.slice none 0 0) 0 [] rfl ⟨rfl, .inl ⟨rfl, rfl⟩⟩ ⟨b, 0, none⟩ p.flows.length p.flows.length (ints l) rfl HIL.out HSRC.out HONE.out (by have := HFEW.out; unfold maxLen; omega) (by have := HFEW.out; omega) (Nat.le_refl _) ?_
                 intro v5 w5 hown hgrow _
                 rw [Nat.zero_add, List.nil_append] at hown
                 have hlv := hgrow
                 have HOWN := hid hown
                 have HGR := hid hgrow
                 clear hown hgrow hlv)
              have hN : 0 < p.flows.length := by omega
              have hfull : ∃ ob oc, v5 = .slice (some ⟨ob, 0, none⟩) p.flows.length oc ∧ vr.heap.size ≤ ob := by
                rcases HOWN.out.2 with ⟨_, h0⟩ | ⟨gg, cap, cur, h1, h2, _⟩
                · omega
                · exact ⟨gg, cap, h1, h2⟩
              obtain ⟨ob, oc, rfl, hob⟩ := hfull
              have hb5 : Below vr.heap.size vr w5 := (Below.refl vr.heap.size vr).grown HGR.out (Nat.le_refl _) (fun k e => by cases e)
              have HB5 := hid hb5
              have hOW : OwI w5 vr.heap.size (.slice (some ⟨ob, 0, none⟩) p.flows.length oc) l := by unfold OwI; rw [HLEN.out]; exact HOWN.out
              have OW5 := hid hOW
              clear hi hz0 hz1 hz2 hOW HSRC HONE HIL HOWN HGR hb5 HBV
              go_wp2_with (fail)
              go_loopw [13] (fun j ur => ∃ (q : Nat) (o : List Int), q ≤ p.flows.length ∧ j = .int .i64 (q : Int) ∧ Hid (Below vr.heap.size vr ur) ∧ Hid (OwI ur vr.heap.size (.slice (some ⟨ob, 0, none⟩) p.flows.length oc) o) ∧ Hid (ThirdI l o k p.flows.length q)) (fun j _ => p.flows.length - (intOf j).toNat)
              case atStart => exact ⟨0, l, Nat.zero_le _, rfl, HB5, OW5, hid ⟨HLEN.out, rfl, fun j _ => Int.le_refl _, fun j hj => rfl⟩⟩
              case round =>
                obtain ⟨q, o, hq, rfl, HBQ, OQ, TQ⟩ := hrel
                obtain ⟨ur, rfl⟩ : ∃ ur, ur = wr := ⟨_, rfl⟩
                have LQ := hid (XR.out.keep HBQ.out)
                by_cases hql : q < p.flows.length
                · have hql' : (q : Int) < (p.flows.length : Int) := by omega
                  have hq0 : (0 : Int) ≤ (q : Int) := by omega
                  have HTL := hid TQ.out.len
                  have OQ2 : OwI ur vr.heap.size (.slice (some ⟨ob, 0, none⟩) o.length oc) o := by rw [HTL.out]; exact OQ.out
                  have hqo : q < o.length := by rw [HTL.out]; exact hql
                  obtain ⟨x0, x1⟩ := OQ2.cell q hqo
                  have HOQ := hid OQ2
                  clear OQ2 hqo
                  by_cases hqn : q < n
                  · have hqn' : (q : Int) < (n : Int) := by omega
                    by_cases hqk : q = k
                    · have hqk' : ((q : Int) != (k : Int)) = false := by simp [hqk]
                      have HT2 : Hid (ThirdI l o k p.flows.length (q + 1)) := hid ⟨TQ.out.len, TQ.out.own, TQ.out.le, fun j hj => TQ.out.todo j (by omega)⟩
                      clear hqk
                      go_wp2_with (fail)
                      go_roundw
                      case rel => exact ⟨q + 1, o, by omega, by go_num, HBQ, OQ, HT2⟩
                      case measure => simp [intOf]; omega
                    · have hqk' : ((q : Int) != (k : Int)) = true := by simp; omega
                      obtain ⟨mao, mac, hme, _, hmc⟩ := LQ.out.M
                      injection hme with hm1 _ hm3
                      subst hm1 hm3
                      obtain ⟨mb, mo, rfl, hmcc⟩ := hmc.resolve_left (by omega)
                      obtain ⟨y0, y1⟩ := hmcc q hqn
                      have hfb := HFI.out.at (q : Int)
                      rw [TQ.out.todo q (Nat.le_refl _)] at x0
                      have HNE := hid hqk
                      clear hmc hmcc hqk
                      generalize hF : lateAt l (q : Int) = F at x0 hfb
                      have HF := hid hF
                      clear hF
                      generalize f q = fq at y0 y1
                      have hq1 : IntKind.i64.wrap (F + ((fq % 3 : Nat) : Int)) = F + ((fq % 3 : Nat) : Int) := by rw [IntKind.wrap_i64]; omega
                      go_wp2_with (fail)
                      have hqo2 : q < o.length := by rw [HTL.out]; exact hql
                      have HT2 : Hid (ThirdI l (o.set q (F + (fq : Int) % 3)) k p.flows.length (q + 1)) := hid ⟨by rw [List.length_set]; exact TQ.out.len, by rw [lateAt_set o q _ _ hqo2, if_neg (by have := HNE.out; simpa using fun h => this h.symm)]; exact TQ.out.own, fun j hj => by
                        rw [lateAt_set o q _ _ hqo2]
                        split
                        · rename_i e
                          have e : j = q := by simpa using e
                          rw [e, HF.out]
                          omega
                        · exact TQ.out.le j hj, fun j hj => by rw [lateAt_set o q _ _ hqo2, if_neg (by simp; omega)]; exact TQ.out.todo j (by omega)⟩
                      have hput := HOQ.out.put q (F + (fq : Int) % 3)
                      rw [HTL.out] at hput
                      have HPUT : Hid (OwI (ur.setCell ⟨ob, q, none⟩ (.int .i64 (F + (fq : Int) % 3))).drew vr.heap.size (.slice (some ⟨ob, 0, none⟩) p.flows.length oc) (o.set q (F + (fq : Int) % 3))) := hid (hput.step (Below.refl _ _).drew)
                      have HBP := hid ((HBQ.out.setCell (p := ⟨ob, q, none⟩) hob (.int .i64 (F + (fq : Int) % 3))).drew)
                      clear hput hqo2 TQ OQ
                      go_region
                      go_wp2_with (fail)
                      go_roundw
                      case rel => exact ⟨q + 1, _, by omega, by go_num, HBP, HPUT, HT2⟩
                      case measure => simp [intOf]; omega
                  · have hqn' : ¬ (q : Int) < (n : Int) := by omega
                    have HT2 : Hid (ThirdI l o k p.flows.length (q + 1)) := hid ⟨TQ.out.len, TQ.out.own, TQ.out.le, fun j hj => TQ.out.todo j (by omega)⟩
                    go_wp2_with (fail)
                    go_roundw
                    case rel => exact ⟨q + 1, o, by omega, by go_num, HBQ, OQ, HT2⟩
                    case measure => simp [intOf]; omega
                · have hql' : ¬ (q : Int) < (p.flows.length : Int) := by omega
                  have hqe : q = p.flows.length := by omega
                  have HTL := hid TQ.out.len
                  have OQ2 : OwI ur vr.heap.size (.slice (some ⟨ob, 0, none⟩) o.length oc) o := by rw [HTL.out]; exact OQ.out
                  have hko : k < o.length := by rw [HTL.out]; exact hkl
                  obtain ⟨x0, x1⟩ := OQ2.cell k hko
                  have HKL := hid (show k < l.length by rw [HLEN.out]; exact hkl)
                  have z0 := LQ.out.lat.cell k HKL.out
                  rw [← lateAt_nat l k HKL.out] at z0
                  have hfb := HFI.out.at (k : Int)
                  have HOQ := hid OQ2
                  have HTQ := hid TQ.out
                  have B6 := HBQ.out.setCell (p := ⟨ob, k, none⟩) hob (.int .i64 (lateAt l (k : Int) - 1))
                  have L6 := hid (XR.out.keep B6)
                  obtain ⟨s0, s1, s2, s3⟩ := row4 L6.out.row
                  have OP := OQ2.put k (lateAt l (k : Int) - 1)
                  have hno : lateOk p (o.set k (lateAt l (k : Int) - 1)) = false := by
                    refine less_not HE.out HTI.out HLEN.out HKL.out (by rw [List.length_set, HTL.out, HLEN.out]) ?_ (fun j hj => ?_)
                    · rw [lateAt_set o k _ _ hko, if_pos (by simp)]
                    · rw [lateAt_set o k _ _ hko, if_neg (by simpa using hj)]
                      rcases Nat.lt_or_ge j p.flows.length with h | h
                      · exact TQ.out.le j h
                      · rw [TQ.out.todo j (by omega)]
                        exact Int.le_refl _
                  have hia : IAt (ur.setCell ⟨ob, k, none⟩ (.int .i64 (lateAt l (k : Int) - 1))) (o.set k (lateAt l (k : Int) - 1)) (.slice (some ⟨ob, 0, none⟩) p.flows.length oc) := by
                    have h1 : OwI (ur.setCell ⟨ob, k, none⟩ (.int .i64 (lateAt l (k : Int) - 1))) vr.heap.size (.slice (some ⟨ob, 0, none⟩) p.flows.length oc) (o.set k (lateAt l (k : Int) - 1)) := by
                      rw [← HTL.out]; exact OP
                    exact h1.at (by rw [List.length_set, HTL.out]; exact XR.out.few)
                  have cC := (callsIn_wide (n := 20)).1 (check_ p (o.set k (lateAt l (k : Int) - 1)) _ _ _ _ _ L6.out.P hia L6.out.R L6.out.J)
                  rw [hno] at cC
                  clear OQ2 hko hqe hq OQ TQ HOQ HTQ OP hno hia B6
                  have HBQ2 := hid (HBQ.out.setCell (p := ⟨ob, k, none⟩) hob (.int .i64 (lateAt l (k : Int) - 1)))
                  generalize lateAt l (k : Int) = F at *
                  have hw1 : wrap64 (F - 1) = F - 1 := wrap_in (by omega) (by omega)
                  go_wp2_with (fail)
                  refine cC.mono ?_
                  rintro e w6 ⟨rfl, hb6⟩
                  have L7 := hid (L6.out.keep hb6)
                  clear hb6 cC s0 s1 s2 s3 x0 x1 z0
                  go_wp2_with (fail)
                  go_roundw
                  case rel => exact ⟨k + 1, by omega, by go_num, L7⟩
                  case measure => simp [intOf]; omega
        · have hkl' : ¬ (k : Int) < (p.flows.length : Int) := by omega
          go_wp2_with (fail)
          refine (lives _ LW.out.R LW.out.J).mono ?_
          rintro e w5 ⟨rfl, hb5⟩
          have B5 := hid (LW.out.below.trans (hb5.mono LW.out.below.size))
          clear hb5
          go_wp2_with (fail)
          go_ret
          exact ⟨rfl, B5.out⟩
end Go.Proofs.YtmlapodhpinhmaaDoor.Lex
namespace Go.Proofs.YtmlapodhpinhmaaDoor.Lex
open Go.ChangeShapes Go.WideShapes Go.ChangeAt Go.RowKit Go.Joins
/-- Bytes that came in. -/
def Came (w : World) (a : Option Addr) (len : Nat) (l : List Int) : Prop :=
  l.length = len ∧ len ≤ 140737488355328 ∧ (∀ i, i < len → 0 ≤ l.getD i 0 ∧ l.getD i 0 < 256) ∧ (len = 0 ∨ ∃ b o, a = some ⟨b, o, none⟩ ∧ ∀ i, i < len → w.cell? ⟨b, o + i, none⟩ = some (.int .u8 (l.getD i 0)))
theorem bytesOf5 : Tryd.prog.bytesOf 5 = 1 := by kernel_rfl
theorem cellsOf5 : Tryd.prog.cellsOf 5 = 1 := by kernel_rfl
theorem byte_wf {n : Int} (h : (Lit.int .u8 n).wf = true) : 0 ≤ n ∧ n < 256 := by
  simp [Lit.wf, IntKind.min, IntKind.max, IntKind.signed, IntKind.bits] at h
  omega
theorem nat_c {n : Int} (h : (Lit.int .u8 n).wf = true) : ∃ k : Nat, k < 2 ^ 8 ∧ n = k := by
  simp [Lit.wf, IntKind.min, IntKind.max, IntKind.signed, IntKind.bits] at h
  exact ⟨n.toNat, by omega, by omega⟩
theorem getD_mem' (l : List Int) (k : Nat) (h : k < l.length) : l.getD k 0 ∈ l := by
  simp [h]
/-- A []uint8 that came in, opened once. -/
theorem view {H : Type} {enc : TypeId × Value → H} {W : World} {a0 : Option Addr} {len cap fuel : Nat} {d : DataW H} {p : List MemPlace} {ts : List TypeId} {ds : List (DataW H)} {j : Nat}
    (hf : DataW.trod enc Tryd.prog W 0 (fun _ => true) true fuel 43 [.slice a0 len cap] = some (d, p))
    (hsz : (DataW.weightsEach Tryd.prog ts ds).all (· ≤ reachBytes) = true) (ht : ts[j]? = some 43) (hj : ds[j]? = some d) : ∃ l, Came W a0 len l ∧ len ≤ cap := by
  rcases open_ints Tryd.underlying43 Tryd.underlying5 cellsOf5 hf with ⟨hcs, hx⟩ | ⟨a, len', cap', zs, hcs, _, hl, hm, hz, hx, hcell, hwz⟩
  · simp at hcs
    obtain ⟨rfl, rfl, rfl⟩ := hcs
    exact ⟨[], ⟨rfl, by omega, fun i hi => by omega, .inl rfl⟩, Nat.le_refl _⟩
  · simp at hcs
    obtain ⟨rfl, rfl, rfl⟩ := hcs
    simp only [Prod.mk.injEq] at hx
    obtain ⟨rfl, _⟩ := hx
    simp only [if_true] at hz
    have hr := sized_slice hsz ht hj Tryd.underlying43
    rw [bytesOf5] at hr
    simp only [lits, List.length_map, List.length_take, List.length_drop, reachBytes] at hr
    have hg : ∀ i, i < len → (zs.take len).getD i 0 = zs.getD i 0 := fun i hi => by simp [List.getD, hi]
    refine ⟨zs.take len, ⟨by simp; omega, by omega, fun i hi => ?_, ?_⟩, hl⟩
    · rw [hg i hi]
      exact byte_wf (hwz _ (getD_mem' zs i (by omega)))
    · by_cases h0 : len = 0
      · exact .inl h0
      · obtain ⟨b, o, sp⟩ := a
        have hsp : sp = none := by simpa [Addr.add] using World.cell?_spot (hcell 0 (by omega))
        subst hsp
        refine .inr ⟨b, o, rfl, fun i hi => ?_⟩
        rw [hg i hi, ← Addr.add_mid]
        exact hcell i (by omega)
theorem Came.bat {w : World} {a : Option Addr} {len cap : Nat} {l : List Int} (h : Came w a len l) : BAt w (fun i => (l.getD i 0).toNat) len (.slice a len cap) := by
  obtain ⟨_, h2, h3, h4⟩ := h
  refine ⟨a, cap, rfl, h2, h4.imp id (fun ⟨b, o, e, hc⟩ => ⟨b, o, e, fun i hi => ?_⟩)⟩
  have := h3 i hi
  refine ⟨?_, by show (l.getD i 0).toNat < 256; omega⟩
  rw [hc i hi]
  show some (Value.int .u8 (l.getD i 0)) = some (Value.int .u8 (((l.getD i 0).toNat : Nat) : Int))
  rw [Int.toNat_of_nonneg this.1]
end Go.Proofs.YtmlapodhpinhmaaDoor.Lex
namespace Go.Proofs.YtmlapodhpinhmaaDoor.Lex
open Go.ChangeShapes Go.WideShapes Go.ChangeAt Go.RowKit Go.Joins
theorem cells31 : Tryd.prog.cellsOf 31 = 8 := by kernel_rfl
theorem cellsS27 : Tryd.prog.cellsOf 27 = 1 := by kernel_rfl
theorem cells29' : Tryd.prog.cellsOf 29 = 2 := by kernel_rfl
theorem bytes3 : Tryd.prog.bytesOf 3 = 8 := by kernel_rfl
theorem list8A {l : List Value} (h : l.length = 8) : ∃ a b c d e f g i, l = [a, b, c, d, e, f, g, i] := by match l, h with | [a, b, c, d, e, f, g, i], _ => exact ⟨a, b, c, d, e, f, g, i, rfl⟩
theorem array8A {c : Array Value} (h : c.size = 8) : ∃ a b d e f g i j, c = #[a, b, d, e, f, g, i, j] := by
  obtain ⟨l⟩ := c
  obtain ⟨a, b, d, e, f, g, i, j, rfl⟩ := list8A (by simpa using h)
  exact ⟨a, b, d, e, f, g, i, j, rfl⟩
theorem viewIs {H : Type} {enc : TypeId × Value → H} {W : World} {n : Nat} {c : Value} {y : DataW H × List MemPlace} (h : Trd enc W n 27 [c] y) (hw : ∀ v ∈ y.1.weights Tryd.prog 27, v ≤ reachBytes) : ∃ l, IAt W l c := by
  obtain ⟨ao, len, cap, rfl, hlc, hby, hr⟩ := view_row Tryd.underlying27 h hw (by rw [cells3]; omega)
  rw [bytes3] at hby
  rw [cells3] at hr
  have each : ∀ i, ∃ x : Int, i < len → ∃ b o, ao = some ⟨b, o, none⟩ ∧ W.cell? ⟨b, o + i, none⟩ = some (.int .i64 x) := fun i => by
    by_cases hi : i < len
    · obtain ⟨b, o, rfl, hc⟩ := hr.resolve_left (by omega)
      obtain ⟨l, d, m, hl, ht, hwt⟩ := hc i hi
      obtain ⟨hll, hcell⟩ := cells_at hl
      obtain ⟨c0, rfl⟩ := List.length_eq_one_iff.1 hll
      obtain ⟨x, rfl, hx⟩ := view_i64 Tryd.underlying3 ht
      exact ⟨x, fun _ => ⟨b, o, rfl, by simpa using hcell 0 (by omega)⟩⟩
    · exact ⟨0, fun h => absurd h hi⟩
  obtain ⟨f, hf⟩ := Classical.axiomOfChoice each
  refine ⟨(List.range len).map f, ao, cap, by simp, ⟨by simpa using hlc, ?_⟩, ?_⟩
  · unfold reachBytes at hby
    simp
    omega
  · by_cases h0 : len = 0
    · exact .inl (by simp [h0])
    · right
      obtain ⟨b, o, e, _⟩ := hf 0 (by omega)
      refine ⟨b, o, e, fun i hi => ?_⟩
      obtain ⟨b', o', e', hc⟩ := hf i (by simpa using hi)
      rw [e] at e'
      injection e' with e'
      injection e' with e1 e2 _
      subst e1 e2
      simpa using hc
/-- Its cells. -/
abbrev akC (p : Pg) (a b c l : Value) (flow : Int) (nm : ByteArray) (ago : Int) : Array Value := #[.int .i64 p.st, a, b, c, l, .int .i64 flow, .string nm, .int .i64 ago]
/-- It stands there. -/
structure AkAt (W : World) (p : Pg) (l : List Int) (a b c v : Value) : Prop where
  P : PgAt W p a b c
  I : IAt W l v
set_option maxRecDepth 100000 in
theorem viewA {H : Type} {enc : TypeId × Value → H} {W : World} {r : Reach} {b0 : Nat} {v : Value} {d : DataW H} {p : List MemPlace} {ts : List TypeId} {ds : List (DataW H)} {j : Nat}
    (hv : Value.okWide Tryd.prog W r b0 31 v) (h : DataW.Trod enc Tryd.prog W 0 (fun _ => true) true 31 v d p)
    (hsz : (DataW.weightsEach Tryd.prog ts ds).all (· ≤ reachBytes) = true) (ht : ts[j]? = some 31) (hj : ds[j]? = some d) : ∃ (x : Pg) (l : List Int) (a b c u : Value) (flow : Int) (nm : ByteArray) (ago : Int), v = .agg (akC x a b c u flow nm ago) ∧ AkAt W x l a b c u := by
  obtain ⟨cs, rfl, hz⟩ := okWide_struct Tryd.underlying31 hv
  obtain ⟨c0, c1, c2, c3, c4, c5, c6, c7, rfl⟩ := array8A (by rw [hz]; exact cells31)
  obtain ⟨fuel, hf⟩ := h
  have hw : ∀ v ∈ d.weights Tryd.prog 31, v ≤ reachBytes := fun v hv => by
    have := List.all_eq_true.1 hsz _ (DataW.weights_mem_each ht hj v hv)
    simpa using this
  obtain ⟨xs, m, hn, hx, hl, hlen, hfs⟩ := DataW.trod_struct Tryd.underlying31 hf
  match xs, hlen with
  | [y0, y1, y2, y3], _ =>
    have h0 : Trd enc W m 26 [c0, c1, c2, c3] y0 := by simpa [cells26, Value.cells] using hfs 0 _ rfl
    have h1 : Trd enc W m 27 [c4] y1 := by simpa [cells26, cellsS27, Value.cells] using hfs 1 _ rfl
    have h2 : Trd enc W m 3 [c5] y2 := by simpa [cells26, cellsS27, cells3, Value.cells] using hfs 2 _ rfl
    have h3 : Trd enc W m 29 [c6, c7] y3 := by simpa [cells26, cellsS27, cells3, cells29', Value.cells] using hfs 3 _ rfl
    simp only [Prod.mk.injEq] at hx
    obtain ⟨rfl, _⟩ := hx
    have hw0 : ∀ v ∈ y0.1.weights Tryd.prog 26, v ≤ reachBytes := fun v hv => hw v (by simp [DataW.weights, Tryd.underlying31, DataW.weightsEach]; left; exact hv)
    have hw1 : ∀ v ∈ y1.1.weights Tryd.prog 27, v ≤ reachBytes := fun v hv => hw v (by simp [DataW.weights, Tryd.underlying31, DataW.weightsEach]; right; left; exact hv)
    have hw3 : ∀ v ∈ y3.1.weights Tryd.prog 29, v ≤ reachBytes := fun v hv => hw v (by simp [DataW.weights, Tryd.underlying31, DataW.weightsEach]; right; right; right; exact hv)
    obtain ⟨l, hil⟩ := viewIs h1 hw1
    obtain ⟨flow, rfl, _⟩ := view_i64 Tryd.underlying3 h2
    obtain ⟨zs, m3, _, hx3, _, hlen3, hfs3⟩ := DataW.trod_struct Tryd.underlying29 h3
    match zs, hlen3 with
    | [z0, z1], _ =>
      have g0 : Trd enc W m3 9 [c6] z0 := by simpa [cells9, Value.cells] using hfs3 0 _ rfl
      have g1 : Trd enc W m3 3 [c7] z1 := by simpa [cells9, cells3, Value.cells] using hfs3 1 _ rfl
      obtain ⟨nm, rfl, _⟩ := view_str g0 (fun v hv => hw3 v (by rw [hx3]; simp [DataW.weights, Tryd.underlying29, DataW.weightsEach]; left; exact hv))
      obtain ⟨ago, rfl, _⟩ := view_i64 Tryd.underlying3 g1
      obtain ⟨xs', m', _, hx', _, hlen', hfs'⟩ := DataW.trod_struct Tryd.underlying26 h0
      match xs', hlen' with
      | [y0', y1', y2', y3'], _ =>
        have h0' : Trd enc W m' 3 [c0] y0' := by simpa [cells3, Value.cells] using hfs' 0 _ rfl
        have h1' : Trd enc W m' 22 [c1] y1' := by simpa [cells3, cellsS22, Value.cells] using hfs' 1 _ rfl
        have h2' : Trd enc W m' 23 [c2] y2' := by simpa [cells3, cellsS22, cellsS23, Value.cells] using hfs' 2 _ rfl
        have h3' : Trd enc W m' 24 [c3] y3' := by simpa [cells3, cellsS22, cellsS23, cellsS24, Value.cells] using hfs' 3 _ rfl
        obtain ⟨k, rfl, k0⟩ := view_i64 Tryd.underlying3 h0'
        obtain ⟨li, hi⟩ := viewIns h1' (fun v hv => hw0 v (by rw [hx']; simp [DataW.weights, Tryd.underlying26, DataW.weightsEach]; right; left; exact hv))
        obtain ⟨lf, hfl⟩ := viewFlows h2' (fun v hv => hw0 v (by rw [hx']; simp [DataW.weights, Tryd.underlying26, DataW.weightsEach]; right; right; left; exact hv))
        obtain ⟨lo, ho⟩ := viewTexts h3' (fun v hv => hw0 v (by rw [hx']; simp [DataW.weights, Tryd.underlying26, DataW.weightsEach]; right; right; right; exact hv))
        exact ⟨⟨k, li, lf, lo⟩, l, c1, c2, c3, c4, flow, nm, ago, rfl, ⟨k0, hi, hfl, ho⟩, hil⟩
end Go.Proofs.YtmlapodhpinhmaaDoor.Lex
namespace Go.Proofs.YtmlapodhpinhmaaDoor.Lex
open Go.ChangeShapes Go.WideShapes Go.ChangeAt Go.RowKit Go.Joins
theorem info44' : (Tryd.prog.info? 59).map (fun i => (i.zero, i.size, i.bytes)) = some (some (.agg #[.string ByteArray.empty, .int .u8 0, .int .i64 0]), 3, 32) := by kernel_rfl
theorem info9' : (Tryd.prog.info? 9).map (fun i => (i.zero, i.size, i.bytes)) = some (some (.string ByteArray.empty), 1, 16) := by kernel_rfl
set_option maxRecDepth 100000 in
set_option maxHeartbeats 2000000 in
theorem twin_ins (l : List Hd) (w : World) (s : Value) (hS : InsAt w l s) :
    Calls Tryd.prog 24 #[s] w fun e w' => ∃ s', e = .returned s' ∧ TwIns w' w.heap.size l s' ∧ Below w.heap.size w w' := by
  obtain ⟨ao, cap, rfl, hlen, _, hok, hc⟩ := hS
  have HC := hid hc
  have HO := hid hok
  obtain ⟨i0, hi, hi0, hi1, hi2⟩ := info_parts info44'
  clear hc hok
  go_enter Tryd.func24, Tryd.ntmps24
  go_wp2_with (at_make; refine wpList_make_own w rfl (.const (.int .i64 0)) (.tmp 7) 22 rfl w.heap.size 59 i0 _ 3 Tryd.underlying22 hi hi0 hi1 .i64 .i64 _ (l.length + 1) rfl rfl (by omega) (by rw [hi2]; omega) (by unfold maxLen; omega) (Nat.le_refl _) ?_; intro w1 hown1 hgrow1; have M1 := hid (MkR.start (t := 59) (c := 3) (n := l.length) hown1 hgrow1); clear hown1 hgrow1)
  go_loopw [3, 4] (fun v i wr => ∃ (k : Nat), k ≤ l.length ∧ v = .slice (some ⟨w.heap.size, 0, none⟩) k (l.length + 1) ∧ i = .int .i64 (k : Int) ∧ Hid (MkR w 59 3 l.length ((l.take k).map hdL) wr)) (fun _ i _ => l.length - (intOf i).toNat)
  case atStart => exact ⟨0, Nat.zero_le _, rfl, rfl, by simpa using M1⟩
  case round =>
    obtain ⟨k, hk, rfl, rfl, hM⟩ := hrel
    have hl' : ((l.take k).map hdL).length = k := by simp; omega
    by_cases hlt : k < l.length
    · have hlt' : (k : Int) < (l.length : Int) := by omega
      have hk0 : (0 : Int) ≤ (k : Int) := by omega
      obtain ⟨bb, o, rfl, hcc⟩ := HC.out.resolve_left (by omega)
      obtain ⟨v0, v1, v2⟩ := (hcc k hlt).keep hM.out.below
      have HT : Hid ((l.take (k + 1)).map hdL = (l.take k).map hdL ++ [hdL l[k]]) := hid (by rw [List.take_succ_eq_append_getElem hlt, List.map_append]; rfl)
      have HL := hid hl'
      clear hcc hl'
      generalize l[k] = y at *
      generalize (l.take k).map hdL = es at *
      have M2 := hid (hM.out.step ((Below.refl _ _).alloc (Nat.le_refl _) (.cells #[.string y.name, .int .u8 (y.ty : Int), .int .i64 y.st] 59)))
      have M2r := hid (show _ from by have := M2.out.row; rw [HL.out] at this; exact this)
      have N2 := hid (next_cells wr (hdL y) 59)
      go_wp2_with (at_builtin; refine wpList_append_fits _ rfl (.tmp 15) (.tmp 20) 22 rfl w.heap.size 59 i0 3 Tryd.underlying22 hi hi1 w.heap.size k (l.length + 1) es.flatten rfl M2r.out ⟨wr.heap.size, 0, none⟩ 1 1 (hdL y) rfl rfl N2.out (by simp [Value.oneCell']) (by omega) ?_; intro w4 hown4 hgrow4; have M4 := hid (M2.out.grow HL.out rfl hown4 hgrow4); clear hown4 hgrow4)
      go_roundw
      case rel => exact ⟨k + 1, by omega, rfl, by go_num, hid (by rw [HT.out]; exact M4.out)⟩
      case measure => simp [intOf]; omega
    · have hlt' : ¬ (k : Int) < (l.length : Int) := by omega
      obtain rfl : k = l.length := by omega
      rw [List.take_length] at hM hl'
      have M2 := hid (hM.out.step ((Below.refl _ _).alloc (Nat.le_refl _) (.cells #[.string spare, .int .u8 0, .int .i64 0] 59)))
      have M2r := hid (show _ from by have := M2.out.row; rw [hl'] at this; exact this)
      have N2 := hid (next_cells wr (hdL ⟨spare, 0, 0⟩) 59)
      have HL := hid hl'
      clear hl'
      go_wp2_with (at_builtin; refine wpList_append_fits _ rfl (.tmp 22) (.tmp 24) 22 rfl w.heap.size 59 i0 3 Tryd.underlying22 hi hi1 w.heap.size l.length (l.length + 1) (l.map hdL).flatten rfl M2r.out ⟨wr.heap.size, 0, none⟩ 1 1 (hdL ⟨spare, 0, 0⟩) rfl rfl N2.out (by simp [Value.oneCell']) (by omega) ?_; intro w4 hown4 hgrow4; have C4 := hid (MkR.cells M2.out.each HL.out rfl hown4); have K4 := hid (Blk.of_row hown4); have B4 := hid (M2.out.below.grown hgrow4 M2.out.below.size (fun j hj => by cases hj; exact Nat.le_refl _)); clear hown4 hgrow4)
      go_ret
      refine ⟨_, rfl, ⟨w.heap.size, l.length + 1, rfl, Nat.le_refl _, hlen, by omega, HO.out, fun i hi => ?_, ?_, K4.out⟩, B4.out⟩
      · have he : (l.map hdL)[i]? = some (hdL l[i]) := by rw [List.getElem?_map, List.getElem?_eq_getElem hi]; rfl
        exact ⟨C4.out.1 i _ 0 _ he rfl, C4.out.1 i _ 1 _ he rfl, C4.out.1 i _ 2 _ he rfl⟩
      · exact ⟨C4.out.2 0 _ rfl, C4.out.2 1 _ rfl, C4.out.2 2 _ rfl⟩
abbrev txL (x : ByteArray) : List Value := [.string x]
set_option maxRecDepth 100000 in
set_option maxHeartbeats 2000000 in
theorem twin_texts (l : List ByteArray) (w : World) (s : Value) (hS : TextsAt w l s) :
    Calls Tryd.prog 26 #[s] w fun e w' => ∃ s', e = .returned s' ∧ TwTexts w' w.heap.size l s' ∧ Below w.heap.size w w' := by
  obtain ⟨ao, cap, rfl, hlen, _, hok, hc⟩ := hS
  have HC := hid hc
  have HO := hid hok
  obtain ⟨i0, hi, hi0, hi1, hi2⟩ := info_parts info9'
  clear hc hok
  go_enter Tryd.func26, Tryd.ntmps26
  go_wp2_with (at_make; refine wpList_make_own w rfl (.const (.int .i64 0)) (.tmp 7) 24 rfl w.heap.size 9 i0 _ 1 Tryd.underlying24 hi hi0 hi1 .i64 .i64 _ (l.length + 1) rfl rfl (by omega) (by rw [hi2]; omega) (by unfold maxLen; omega) (Nat.le_refl _) ?_; intro w1 hown1 hgrow1; have M1 := hid (MkR.start (t := 9) (c := 1) (n := l.length) hown1 hgrow1); clear hown1 hgrow1)
  go_loopw [3, 4] (fun v i wr => ∃ (k : Nat), k ≤ l.length ∧ v = .slice (some ⟨w.heap.size, 0, none⟩) k (l.length + 1) ∧ i = .int .i64 (k : Int) ∧ Hid (MkR w 9 1 l.length ((l.take k).map txL) wr)) (fun _ i _ => l.length - (intOf i).toNat)
  case atStart => exact ⟨0, Nat.zero_le _, rfl, rfl, by simpa using M1⟩
  case round =>
    obtain ⟨k, hk, rfl, rfl, hM⟩ := hrel
    have hl' : ((l.take k).map txL).length = k := by simp; omega
    by_cases hlt : k < l.length
    · have hlt' : (k : Int) < (l.length : Int) := by omega
      have hk0 : (0 : Int) ≤ (k : Int) := by omega
      obtain ⟨bb, o, rfl, hcc⟩ := HC.out.resolve_left (by omega)
      have v0 := cell_kept (hcc k hlt) hM.out.below
      have HT : Hid ((l.take (k + 1)).map txL = (l.take k).map txL ++ [txL l[k]]) := hid (by rw [List.take_succ_eq_append_getElem hlt, List.map_append]; rfl)
      have HL := hid hl'
      clear hcc hl'
      generalize l[k] = y at *
      generalize (l.take k).map txL = es at *
      have M2 := hid (hM.out.step ((Below.refl _ _).alloc (Nat.le_refl _) (.cells #[.string y] 9)))
      have M2r := hid (show _ from by have := M2.out.row; rw [HL.out] at this; exact this)
      have N2 := hid (next_cells wr (txL y) 9)
      go_wp2_with (at_builtin; refine wpList_append_fits _ rfl (.tmp 15) (.tmp 20) 24 rfl w.heap.size 9 i0 1 Tryd.underlying24 hi hi1 w.heap.size k (l.length + 1) es.flatten rfl M2r.out ⟨wr.heap.size, 0, none⟩ 1 1 (txL y) rfl rfl N2.out (by simp [Value.oneCell']) (by omega) ?_; intro w4 hown4 hgrow4; have M4 := hid (M2.out.grow HL.out rfl hown4 hgrow4); clear hown4 hgrow4)
      go_roundw
      case rel => exact ⟨k + 1, by omega, rfl, by go_num, hid (by rw [HT.out]; exact M4.out)⟩
      case measure => simp [intOf]; omega
    · have hlt' : ¬ (k : Int) < (l.length : Int) := by omega
      obtain rfl : k = l.length := by omega
      rw [List.take_length] at hM hl'
      have M2 := hid (hM.out.step ((Below.refl _ _).alloc (Nat.le_refl _) (.cells #[.string spare] 9)))
      have M2r := hid (show _ from by have := M2.out.row; rw [hl'] at this; exact this)
      have N2 := hid (next_cells wr (txL spare) 9)
      have HL := hid hl'
      clear hl'
      go_wp2_with (at_builtin; refine wpList_append_fits _ rfl (.tmp 22) (.tmp 23) 24 rfl w.heap.size 9 i0 1 Tryd.underlying24 hi hi1 w.heap.size l.length (l.length + 1) (l.map txL).flatten rfl M2r.out ⟨wr.heap.size, 0, none⟩ 1 1 (txL spare) rfl rfl N2.out (by simp [Value.oneCell']) (by omega) ?_; intro w4 hown4 hgrow4; have C4 := hid (MkR.cells M2.out.each HL.out rfl hown4); have K4 := hid (Blk.of_row hown4); have B4 := hid (M2.out.below.grown hgrow4 M2.out.below.size (fun j hj => by cases hj; exact Nat.le_refl _)); clear hown4 hgrow4)
      go_ret
      refine ⟨_, rfl, ⟨w.heap.size, l.length + 1, rfl, Nat.le_refl _, hlen, by omega, HO.out, fun i hi => ?_, ?_, K4.out⟩, B4.out⟩
      · have he : (l.map txL)[i]? = some (txL l[i]) := by rw [List.getElem?_map, List.getElem?_eq_getElem hi]; rfl
        simpa using C4.out.1 i _ 0 _ he rfl
      · simpa using C4.out.2 0 _ rfl
end Go.Proofs.YtmlapodhpinhmaaDoor.Lex
namespace Go.Proofs.YtmlapodhpinhmaaDoor.Lex
open Go.ChangeShapes Go.WideShapes Go.ChangeAt Go.RowKit Go.Joins
theorem info50 : (Tryd.prog.info? 55).map (·.size) = some 8 := by kernel_rfl
theorem info50' : (Tryd.prog.info? 55).map (fun i => (i.zero, i.size, i.bytes)) = some (some (.agg #[.string ByteArray.empty, .int .u8 0, .int .i64 0, .int .i64 0, .int .u8 0, .int .i64 0, .string ByteArray.empty, .slice none 0 0]), 8, 96) := by kernel_rfl
set_option maxRecDepth 100000 in
set_option maxHeartbeats 1000000 in
theorem twin_flow (x : Fl) (w : World) (s : Value) (hS : St w x.body s) :
    Calls Tryd.prog 52 #[flV x s] w fun e w' => ∃ s', e = .returned (flV x s') ∧ Tw w' w.heap.size x.body s' ∧ Below w.heap.size w w' := by
  obtain ⟨ao, cap, sl, rfl, _⟩ := hS.out
  have b1 := (Below.refl w.heap.size w).alloc (Nat.le_refl _) (.cells #[.string x.name, .int .u8 (x.ty : Int), .int .i64 x.st, .int .i64 x.df, .int .u8 (x.body.op : Int), .int .i64 x.body.n, .string x.body.name, .slice ao x.body.args.length cap] 55)
  have b2 := bstep b1 ((Below.refl _ _).alloc (Nat.le_refl _) (.cells #[.string ByteArray.empty, .int .u8 0, .int .i64 0, .int .i64 0, .int .u8 0, .int .i64 0, .string ByteArray.empty, .slice none 0 0] 55))
  have c := fun W (hb : Below w.heap.size w W) => twin_any _ x.body (Nat.le_refl _) W _ (hS.keep hb)
  have H2 := hid b2
  have B0 := box_first w #[.string x.name, .int .u8 (x.ty : Int), .int .i64 x.st, .int .i64 x.df, .int .u8 (x.body.op : Int), .int .i64 x.body.n, .string x.body.name, .slice ao x.body.args.length cap] #[.string ByteArray.empty, .int .u8 0, .int .i64 0, .int .i64 0, .int .u8 0, .int .i64 0, .string ByteArray.empty, .slice none 0 0] 55
  clear hS b1 b2
  go_enter Tryd.func52, Tryd.ntmps52
  go_wp2
  refine wp_region_held_drew (S := fun W => W.cell? ⟨w.heap.size, 0, none⟩ = some (.string x.name) ∧ W.cell? ⟨w.heap.size, 1, none⟩ = some (.int .u8 (x.ty : Int)) ∧ W.cell? ⟨w.heap.size, 2, none⟩ = some (.int .i64 x.st) ∧ W.cell? ⟨w.heap.size, 3, none⟩ = some (.int .i64 x.df) ∧ W.cell? ⟨w.heap.size, 4, none⟩ = some (.int .u8 (x.body.op : Int)) ∧ W.cell? ⟨w.heap.size, 5, none⟩ = some (.int .i64 x.body.n) ∧ W.cell? ⟨w.heap.size, 6, none⟩ = some (.string x.body.name) ∧ W.cell? ⟨w.heap.size, 7, none⟩ = some (.slice ao x.body.args.length cap)) (by kernel_rfl) ?_ (fun hHeld => ?_)
  · exact ⟨B0 0 _ rfl, B0 1 _ rfl, B0 2 _ rfl, B0 3 _ rfl, B0 4 _ rfl, B0 5 _ rfl, B0 6 _ rfl, B0 7 _ rfl⟩
  refine wpAnyH_take (i := 0) (oi := { dst := some 3, op := Go.Op.fieldAddr 55 (Go.Operand.tmp 1) 0, type := 0, pos := _, after := #[], guard := none }) (v := ?_) rfl (by kernel_rfl) (by kernel_rfl) (by kernel_rfl) (fun _ _ _ h => h) (Or.inl ⟨by rfl, ?_⟩) (by assumption) ?_
  rotate_left
  · intro w hSw; (try dsimp only at hSw); go_simp <;> first | with_reducible rfl | (rw [if_neg (by first | omega | (simp only [ByteArray.size_append] at *; omega))])
  simp only [Act.put, List.setIfInBounds_toArray, List.set_cons_zero, List.set_cons_succ]
  refine wpAnyH_take (i := 1) (oi := { dst := some 4, op := Go.Op.load 9 (Go.Operand.tmp 3), type := 9, pos := _, after := #[{ on := 0, ground := Go.Ground.data }], guard := none }) (v := ?_) rfl (by kernel_rfl) (by kernel_rfl) (by kernel_rfl) (fun _ _ _ h => h) (Or.inl ⟨by rfl, ?_⟩) (by assumption) ?_
  rotate_left
  · intro w hSw; (try dsimp only at hSw); go_simp <;> first | with_reducible rfl | (rw [if_neg (by first | omega | (simp only [ByteArray.size_append] at *; omega))])
  simp only [Act.put, List.setIfInBounds_toArray, List.set_cons_zero, List.set_cons_succ]
  refine wpAnyH_take (i := 2) (oi := { dst := some 5, op := Go.Op.fieldAddr 55 (Go.Operand.tmp 1) 1, type := 0, pos := _, after := #[], guard := none }) (v := ?_) rfl (by kernel_rfl) (by kernel_rfl) (by kernel_rfl) (fun _ _ _ h => h) (Or.inl ⟨by rfl, ?_⟩) (by assumption) ?_
  rotate_left
  · intro w hSw; (try dsimp only at hSw); go_simp <;> first | with_reducible rfl | (rw [if_neg (by first | omega | (simp only [ByteArray.size_append] at *; omega))])
  simp only [Act.put, List.setIfInBounds_toArray, List.set_cons_zero, List.set_cons_succ]
  refine wpAnyH_take (i := 3) (oi := { dst := some 6, op := Go.Op.load 49 (Go.Operand.tmp 5), type := 49, pos := _, after := #[{ on := 2, ground := Go.Ground.data }], guard := none }) (v := ?_) rfl (by kernel_rfl) (by kernel_rfl) (by kernel_rfl) (fun _ _ _ h => h) (Or.inl ⟨by rfl, ?_⟩) (by assumption) ?_
  rotate_left
  · intro w hSw; (try dsimp only at hSw); go_simp <;> first | with_reducible rfl | (rw [if_neg (by first | omega | (simp only [ByteArray.size_append] at *; omega))])
  simp only [Act.put, List.setIfInBounds_toArray, List.set_cons_zero, List.set_cons_succ]
  refine wpAnyH_take (i := 4) (oi := { dst := some 7, op := Go.Op.fieldAddr 55 (Go.Operand.tmp 1) 2, type := 0, pos := _, after := #[], guard := none }) (v := ?_) rfl (by kernel_rfl) (by kernel_rfl) (by kernel_rfl) (fun _ _ _ h => h) (Or.inl ⟨by rfl, ?_⟩) (by assumption) ?_
  rotate_left
  · intro w hSw; (try dsimp only at hSw); go_simp <;> first | with_reducible rfl | (rw [if_neg (by first | omega | (simp only [ByteArray.size_append] at *; omega))])
  simp only [Act.put, List.setIfInBounds_toArray, List.set_cons_zero, List.set_cons_succ]
  refine wpAnyH_take (i := 5) (oi := { dst := some 8, op := Go.Op.load 3 (Go.Operand.tmp 7), type := 3, pos := _, after := #[{ on := 4, ground := Go.Ground.data }], guard := none }) (v := ?_) rfl (by kernel_rfl) (by kernel_rfl) (by kernel_rfl) (fun _ _ _ h => h) (Or.inl ⟨by rfl, ?_⟩) (by assumption) ?_
  rotate_left
  · intro w hSw; (try dsimp only at hSw); go_simp <;> first | with_reducible rfl | (rw [if_neg (by first | omega | (simp only [ByteArray.size_append] at *; omega))])
  simp only [Act.put, List.setIfInBounds_toArray, List.set_cons_zero, List.set_cons_succ]
  refine wpAnyH_take (i := 6) (oi := { dst := some 9, op := Go.Op.fieldAddr 55 (Go.Operand.tmp 1) 3, type := 0, pos := _, after := #[], guard := none }) (v := ?_) rfl (by kernel_rfl) (by kernel_rfl) (by kernel_rfl) (fun _ _ _ h => h) (Or.inl ⟨by rfl, ?_⟩) (by assumption) ?_
  rotate_left
  · intro w hSw; (try dsimp only at hSw); go_simp <;> first | with_reducible rfl | (rw [if_neg (by first | omega | (simp only [ByteArray.size_append] at *; omega))])
  simp only [Act.put, List.setIfInBounds_toArray, List.set_cons_zero, List.set_cons_succ]
  refine wpAnyH_take (i := 7) (oi := { dst := some 10, op := Go.Op.load 2 (Go.Operand.tmp 9), type := 2, pos := _, after := #[{ on := 6, ground := Go.Ground.data }], guard := none }) (v := ?_) rfl (by kernel_rfl) (by kernel_rfl) (by kernel_rfl) (fun _ _ _ h => h) (Or.inl ⟨by rfl, ?_⟩) (by assumption) ?_
  rotate_left
  · intro w hSw; (try dsimp only at hSw); go_simp <;> first | with_reducible rfl | (rw [if_neg (by first | omega | (simp only [ByteArray.size_append] at *; omega))])
  simp only [Act.put, List.setIfInBounds_toArray, List.set_cons_zero, List.set_cons_succ]
  refine wpAnyH_take (i := 8) (oi := { dst := some 11, op := Go.Op.fieldAddr 55 (Go.Operand.tmp 1) 4, type := 0, pos := _, after := #[], guard := none }) (v := ?_) rfl (by kernel_rfl) (by kernel_rfl) (by kernel_rfl) (fun _ _ _ h => h) (Or.inl ⟨by rfl, ?_⟩) (by assumption) ?_
  rotate_left
  · intro w hSw; (try dsimp only at hSw); go_simp <;> first | with_reducible rfl | (rw [if_neg (by first | omega | (simp only [ByteArray.size_append] at *; omega))])
  simp only [Act.put, List.setIfInBounds_toArray, List.set_cons_zero, List.set_cons_succ]
  refine wpAnyH_take (i := 9) (oi := { dst := some 12, op := Go.Op.load 53 (Go.Operand.tmp 11), type := 53, pos := _, after := #[{ on := 8, ground := Go.Ground.data }], guard := none }) (v := ?_) rfl (by kernel_rfl) (by kernel_rfl) (by kernel_rfl) (fun _ _ _ h => h) (Or.inl ⟨by rfl, ?_⟩) (by assumption) ?_
  rotate_left
  · intro w hSw; (try dsimp only at hSw); go_simp <;> first | with_reducible rfl | (rw [if_neg (by first | omega | (simp only [ByteArray.size_append] at *; omega))])
  simp only [Act.put, List.setIfInBounds_toArray, List.set_cons_zero, List.set_cons_succ]
  refine wpAnyH_ready (rs := [10]) (by kernel_rfl) (by simp) ?_
  refine AllReadyH.cons (o := { dst := some 13, op := Go.Op.call { callee := Go.Callee.value (Go.Operand.func 73), args := #[Go.Operand.tmp 12], argTypes := #[53] }, type := 53, pos := _, after := #[{ on := 9, ground := Go.Ground.data }], guard := none }) rfl (fun K hK => ?_) AllReadyH.nil
  go_simp
  refine (c _ H2.out.drew).mono ?_
  rintro e w3 ⟨s3, rfl, ht3, hb3⟩
  obtain ⟨t3, c3, _, rfl, _⟩ := ht3.st.out
  obtain ⟨p1, p2, p3⟩ := two_boxes w w3 _ _ 55 hb3
  go_wp2_with fail
  refine hK.out _ _ ?_ (fun hHeld1 => ?_)
  · exact ⟨p1 0 _ rfl, p1 1 _ rfl, p1 2 _ rfl, p1 3 _ rfl, p1 4 _ rfl, p1 5 _ rfl, p1 6 _ rfl, p1 7 _ rfl⟩
  clear hK K
  refine wpAnyH_take (i := 11) (oi := { dst := some 14, op := Go.Op.build 55 #[(0, Go.Operand.tmp 4), (1, Go.Operand.tmp 6), (2, Go.Operand.tmp 8), (3, Go.Operand.tmp 10), (4, Go.Operand.tmp 13)], type := 55, pos := _, after := #[{ on := 1, ground := Go.Ground.data }, { on := 3, ground := Go.Ground.data }, { on := 5, ground := Go.Ground.data }, { on := 7, ground := Go.Ground.data }, { on := 10, ground := Go.Ground.data }], guard := none }) (v := ?_) rfl (by kernel_rfl) (by kernel_rfl) (by kernel_rfl) (fun _ _ _ h => h) (Or.inl ⟨by rfl, ?_⟩) (by assumption) ?_
  rotate_left
  · intro w hSw; (try dsimp only at hSw); go_simp <;> first | with_reducible rfl | (rw [if_neg (by first | omega | (simp only [ByteArray.size_append] at *; omega))])
  simp only [Act.put, List.setIfInBounds_toArray, List.set_cons_zero, List.set_cons_succ]
  refine wpAnyH_ready (rs := [12]) (by kernel_rfl) (by simp) ?_
  refine AllReadyH.cons (o := { dst := none, op := Go.Op.store 55 (Go.Operand.tmp 2) (Go.Operand.tmp 14), type := 0, pos := _, after := #[{ on := 11, ground := Go.Ground.data }, { on := 10, ground := Go.Ground.chain }, { on := 0, ground := Go.Ground.phase }, { on := 1, ground := Go.Ground.phase }, { on := 2, ground := Go.Ground.phase }, { on := 3, ground := Go.Ground.phase }, { on := 4, ground := Go.Ground.phase }, { on := 5, ground := Go.Ground.phase }, { on := 6, ground := Go.Ground.phase }, { on := 7, ground := Go.Ground.phase }, { on := 8, ground := Go.Ground.phase }, { on := 9, ground := Go.Ground.phase }, { on := 10, ground := Go.Ground.phase }, { on := 11, ground := Go.Ground.phase }], guard := none }) rfl (fun K hK => ?_) AllReadyH.nil
  refine if_take (by rfl) ?_
  refine wp_store_row 55 _ _ rfl (w.heap.size + 1) #[.string x.name, .int .u8 (x.ty : Int), .int .i64 x.st, .int .i64 x.df, .int .u8 (x.body.op : Int), .int .i64 x.body.n, .string x.body.name, .slice t3 x.body.args.length c3] rfl rfl 55 _ p3 info50 rfl (by simp [Value.oneCell']) ?_
  refine hK.out _ _ ?_ (fun _ => ?_)
  · have hne : w.heap.size ≠ w.heap.size + 1 := by omega
    have kk : ∀ j v, w3.cell? ⟨w.heap.size, j, none⟩ = some v → (w3.setRow (w.heap.size + 1) #[.string x.name, .int .u8 (x.ty : Int), .int .i64 x.st, .int .i64 x.df, .int .u8 (x.body.op : Int), .int .i64 x.body.n, .string x.body.name, .slice t3 x.body.args.length c3]).cell? ⟨w.heap.size, j, none⟩ = some v := fun j v h => by
      rw [World.cell?_of_block (w := w3) (a := ⟨w.heap.size, j, none⟩) (setRow_other w3 _ _ _ hne)]
      exact h
    exact ⟨kk _ _ (p1 0 _ rfl), kk _ _ (p1 1 _ rfl), kk _ _ (p1 2 _ rfl), kk _ _ (p1 3 _ rfl), kk _ _ (p1 4 _ rfl), kk _ _ (p1 5 _ rfl), kk _ _ (p1 6 _ rfl), kk _ _ (p1 7 _ rfl)⟩
  clear hK K
  refine wpAnyH_done (by kernel_rfl) ?_ _
  go_wp2
  refine bodyPost_ret (results_cell_row rfl _ _ (w.heap.size + 1) 55 #[.string x.name, .int .u8 (x.ty : Int), .int .i64 x.st, .int .i64 x.df, .int .u8 (x.body.op : Int), .int .i64 x.body.n, .string x.body.name, .slice t3 x.body.args.length c3] (0, 0) _ rfl (setRow_heap _ _ _ _ _ _ p3) Tryd.underlying55 rfl info50) rfl ⟨_, rfl, ?_, ?_⟩
  · have hlo : w.heap.size + 2 ≤ (((w.alloc (.cells #[.string x.name, .int .u8 (x.ty : Int), .int .i64 x.st, .int .i64 x.df, .int .u8 (x.body.op : Int), .int .i64 x.body.n, .string x.body.name, .slice ao x.body.args.length cap] 55)).alloc (.cells #[.string ByteArray.empty, .int .u8 0, .int .i64 0, .int .i64 0, .int .u8 0, .int .i64 0, .string ByteArray.empty, .slice none 0 0] 55)).drew).heap.size := by simp
    exact (ht3.carry fun b hb _ => setRow_other w3 _ _ _ (by have := hb; omega)).low (by omega)
  · exact below_row (bstep H2.out.drew hb3) (by have := (bstep H2.out.drew hb3).size; omega) (by omega) _
/-- While the flows' row is made. -/
structure MkF (w : World) (l : List Fl) (k : Nat) (ps : List (Fl × Value)) (W : World) : Prop where
  made : MkR w 55 8 l.length (ps.map fun (p : Fl × Value) => flL p.1 p.2) W
  len : ps.length = k
  fst : ps.map (·.1) = l.take k
  parts : ∀ p ∈ ps, Tw W (w.heap.size + 1) p.1.body p.2
theorem MkF.step {w W W' : World} {l : List Fl} {k : Nat} {ps : List (Fl × Value)} (h : MkF w l k ps W) (hb : Below W.heap.size W W') : MkF w l k ps W' :=
  ⟨h.made.step hb, h.len, h.fst, fun p hp => (h.parts p hp).keep hb⟩
theorem MkF.row {w W : World} {l : List Fl} {k : Nat} {ps : List (Fl × Value)} (h : MkF w l k ps W) : W.ownsRow w.heap.size 55 8 (.slice (some ⟨w.heap.size, 0, none⟩) k (l.length + 1)) k (ps.map fun (p : Fl × Value) => flL p.1 p.2).flatten := by
  have := h.made.row
  rwa [List.length_map, h.len] at this
theorem MkF.grow {w W W' : World} {l : List Fl} {k : Nat} {ps : List (Fl × Value)} {y : Fl} {s : Value} (h : MkF w l k ps W) (hk : k < l.length) (hy : l[k] = y) (hT : Tw W (w.heap.size + 1) y.body s)
    (hr : W'.ownsRow w.heap.size 55 8 (.slice (some ⟨w.heap.size, 0, none⟩) (k + 1) (l.length + 1)) (k + 1) ((ps.map fun (p : Fl × Value) => flL p.1 p.2).flatten ++ flL y s)) (hg : W.grownBy W' (some w.heap.size)) : MkF w l (k + 1) (ps ++ [(y, s)]) W' where
  made := by
    have := h.made.grow (by rw [List.length_map, h.len]) rfl hr hg
    simpa using this
  len := by simp [h.len]
  fst := by rw [List.map_append, h.fst, List.take_succ_eq_append_getElem hk, hy]; rfl
  parts := fun p hp => by
    rcases List.mem_append.1 hp with hp | hp
    · exact (h.parts p hp).grown hg (by omega)
    · rw [List.mem_singleton.1 hp]; exact hT.grown hg (by omega)
theorem MkF.done {w W W' : World} {l : List Fl} {ps : List (Fl × Value)} (h : MkF w l l.length ps W) (hlen : l.length ≤ 1466015503658) (hok : ∀ x ∈ l, x.ok)
    (hr : W'.ownsRow w.heap.size 55 8 (.slice (some ⟨w.heap.size, 0, none⟩) (l.length + 1) (l.length + 1)) (l.length + 1) ((ps.map fun (p : Fl × Value) => flL p.1 p.2).flatten ++ flL spareFl (.slice none 0 0))) (hg : W.grownBy W' (some w.heap.size)) :
    TwFlows W' w.heap.size l (.slice (some ⟨w.heap.size, 0, none⟩) l.length (l.length + 1)) := by
  have hl := h.len
  have hf : ps.map (·.1) = l := by rw [h.fst, List.take_length]
  have hfst : ∀ i (hi : i < ps.length), ps[i].1 = l[i]'(by omega) := fun i hi => by
    have : (ps.map (·.1))[i]'(by simpa using hi) = l[i]'(by omega) := by simp only [hf]
    simpa using this
  obtain ⟨C1, C2⟩ := MkR.cells h.made.each (by rw [List.length_map, hl]) rfl hr
  refine ⟨w.heap.size, l.length + 1, fun i => (ps[i]?.map (·.2)).getD (.slice none 0 0), rfl, Nat.le_refl _, hlen, by omega, hok, fun i hi => ?_, ?_, fun i hi => ?_, ?_⟩
  · have hip : i < ps.length := by omega
    have he : (ps.map fun (p : Fl × Value) => flL p.1 p.2)[i]? = some (flL l[i] ps[i].2) := by rw [List.getElem?_map, List.getElem?_eq_getElem hip, Option.map_some, hfst i hip]
    dsimp only
    rw [List.getElem?_eq_getElem hip]
    exact ⟨C1 i _ 0 _ he rfl, C1 i _ 1 _ he rfl, C1 i _ 2 _ he rfl, C1 i _ 3 _ he rfl, C1 i _ 4 _ he rfl, C1 i _ 5 _ he rfl, C1 i _ 6 _ he rfl, C1 i _ 7 _ he rfl⟩
  · exact ⟨C2 0 _ rfl, C2 1 _ rfl, C2 2 _ rfl, C2 3 _ rfl, C2 4 _ rfl, C2 5 _ rfl, C2 6 _ rfl, C2 7 _ rfl⟩
  · have hip : i < ps.length := by omega
    have := (h.parts ps[i] (List.getElem_mem hip)).grown hg (by omega)
    rw [hfst i hip] at this
    dsimp only
    rw [List.getElem?_eq_getElem hip]
    exact this
  · exact Blk.of_row hr
set_option maxRecDepth 100000 in
set_option maxHeartbeats 2000000 in
theorem twin_flows (l : List Fl) (w : World) (s : Value) (hS : FlowsAt w l s) :
    Calls Tryd.prog 25 #[s] w fun e w' => ∃ s', e = .returned s' ∧ TwFlows w' w.heap.size l s' ∧ Below w.heap.size w w' := by
  obtain ⟨ao, cap, sl, rfl, hlen, _, hok, hc, hs⟩ := hS
  have HC := hid hc
  have HO := hid hok
  have HS := hid hs
  obtain ⟨i0, hi, hi0, hi1, hi2⟩ := info_parts info50'
  clear hc hok hs
  go_enter Tryd.func25, Tryd.ntmps25
  go_wp2_with (at_make; refine wpList_make_own w rfl (.const (.int .i64 0)) (.tmp 7) 23 rfl w.heap.size 55 i0 _ 8 Tryd.underlying23 hi hi0 hi1 .i64 .i64 _ (l.length + 1) rfl rfl (by omega) (by rw [hi2]; omega) (by unfold maxLen; omega) (Nat.le_refl _) ?_; intro w1 hown1 hgrow1; have M1 := hid (MkR.start (t := 55) (c := 8) (n := l.length) hown1 hgrow1); clear hown1 hgrow1)
  go_loopw [3, 4] (fun v i wr => ∃ (k : Nat) (ps : List (Fl × Value)), k ≤ l.length ∧ v = .slice (some ⟨w.heap.size, 0, none⟩) k (l.length + 1) ∧ i = .int .i64 (k : Int) ∧ Hid (MkF w l k ps wr)) (fun _ i _ => l.length - (intOf i).toNat)
  case atStart => exact ⟨0, [], Nat.zero_le _, rfl, rfl, hid ⟨M1.out, rfl, rfl, fun p hp => by cases hp⟩⟩
  case round =>
    obtain ⟨k, ps, hk, rfl, rfl, hM⟩ := hrel
    by_cases hlt : k < l.length
    · have hlt' : (k : Int) < (l.length : Int) := by omega
      have hk0 : (0 : Int) ≤ (k : Int) := by omega
      obtain ⟨bb, o, rfl, hcc⟩ := HC.out.resolve_left (by omega)
      have F := (hcc k hlt).keep hM.out.made.below
      have c := twin_flow l[k] wr (sl k) ((HS.out k hlt).keep hM.out.made.below)
      obtain ⟨y, hy⟩ : ∃ y, l[k] = y := ⟨_, rfl⟩
      rw [hy] at F c
      obtain ⟨v0, v1, v2, v3, v4, v5, v6, v7⟩ := F
      have HY := hid hy
      clear hcc hy
      go_wp2_with (first
        | (go_at_call 52; refine c.mono ?_; rintro e w2 ⟨s2, rfl, ht2, hb2⟩; obtain ⟨b2, c2, _, rfl, _⟩ := ht2.st.out; have T2 := hid (ht2.keep ((Below.refl _ _).alloc (Nat.le_refl _) (.cells #[.string y.name, .int .u8 (y.ty : Int), .int .i64 y.st, .int .i64 y.df, .int .u8 (y.body.op : Int), .int .i64 y.body.n, .string y.body.name, .slice b2 y.body.args.length c2] 55))); have M2 := hid ((hM.out.step hb2).step ((Below.refl _ _).alloc (Nat.le_refl _) (.cells #[.string y.name, .int .u8 (y.ty : Int), .int .i64 y.st, .int .i64 y.df, .int .u8 (y.body.op : Int), .int .i64 y.body.n, .string y.body.name, .slice b2 y.body.args.length c2] 55))); have N2 := hid (next_cells w2 (flL y (.slice b2 y.body.args.length c2)) 55); have SZ := hid hM.out.made.size; clear c ht2 hb2)
        | (at_builtin; refine wpList_append_fits _ rfl (.tmp 15) (.tmp 21) 23 rfl w.heap.size 55 i0 8 Tryd.underlying23 hi hi1 w.heap.size k (l.length + 1) (ps.map fun (p : Fl × Value) => flL p.1 p.2).flatten rfl M2.out.row ⟨w2.heap.size, 0, none⟩ 1 1 (flL y (.slice b2 y.body.args.length c2)) rfl rfl N2.out (by simp [Value.oneCell']) (by omega) ?_; intro w4 hown4 hgrow4; have M4 := hid (M2.out.grow hlt HY.out (T2.out.low (by have := SZ.out; omega)) hown4 hgrow4); clear hown4 hgrow4))
      go_roundw
      case rel => exact ⟨k + 1, _, by omega, rfl, by go_num, M4⟩
      case measure => simp [intOf]; omega
    · have hlt' : ¬ (k : Int) < (l.length : Int) := by omega
      obtain rfl : k = l.length := by omega
      have M2 := hid (hM.out.step ((Below.refl _ _).alloc (Nat.le_refl _) (.cells #[.string spare, .int .u8 0, .int .i64 0, .int .i64 0, .int .u8 0, .int .i64 0, .string ⟨#[]⟩, .slice none 0 0] 55)))
      have N2 := hid (next_cells wr (flL spareFl (.slice none 0 0)) 55)
      go_wp2_with (at_builtin; refine wpList_append_fits _ rfl (.tmp 23) (.tmp 25) 23 rfl w.heap.size 55 i0 8 Tryd.underlying23 hi hi1 w.heap.size l.length (l.length + 1) (ps.map fun (p : Fl × Value) => flL p.1 p.2).flatten rfl M2.out.row ⟨wr.heap.size, 0, none⟩ 1 1 (flL spareFl (.slice none 0 0)) rfl rfl N2.out (by simp [Value.oneCell']) (by omega) ?_; intro w4 hown4 hgrow4; have T4 := hid (M2.out.done hlen HO.out hown4 hgrow4); have B4 := hid (M2.out.made.below.grown hgrow4 M2.out.made.below.size (fun j hj => by cases hj; exact Nat.le_refl _)); clear hown4 hgrow4)
      go_ret
      exact ⟨_, rfl, T4.out, B4.out⟩
end Go.Proofs.YtmlapodhpinhmaaDoor.Lex
namespace Go.Proofs.YtmlapodhpinhmaaDoor.Lex
open Go.ChangeShapes Go.WideShapes Go.ChangeAt Go.RowKit Go.Joins
/-- The first row lies ahead of the second one. -/
def Ord2 (a b : Value) : Prop := ∀ i n c j m d, a = .slice (some ⟨i, 0, none⟩) n c → b = .slice (some ⟨j, 0, none⟩) m d → i < j
set_option maxRecDepth 100000 in
set_option maxHeartbeats 1000000 in
theorem twin_prog2 (p : Pg) (w : World) (a b c : Value) (hP : PgAt w p a b c) :
    Calls Tryd.prog 9 #[pgV p a b c] w fun e w' => ∃ a' b' c', e = .returned (pgV p a' b' c') ∧ TwPg w' w.heap.size p a' b' c' ∧ Below w.heap.size w w' ∧ Ord2 a' b' := by
  obtain ⟨a0, a1, rfl, _⟩ := hP.ins
  obtain ⟨b0, b1, _, rfl, _⟩ := hP.flows
  obtain ⟨c0, c1, rfl, _⟩ := hP.outs
  have P0 := hid hP
  have H2 := hid (bstep ((Below.refl w.heap.size w).alloc (Nat.le_refl _) (.cells (pgC p (.slice a0 p.ins.length a1) (.slice b0 p.flows.length b1) (.slice c0 p.outs.length c1)) 26)) ((Below.refl _ _).alloc (Nat.le_refl _) (.cells #[.int .i64 0, .slice none 0 0, .slice none 0 0, .slice none 0 0] 26)))
  have B0 := box_first w (pgC p (.slice a0 p.ins.length a1) (.slice b0 p.flows.length b1) (.slice c0 p.outs.length c1)) #[.int .i64 0, .slice none 0 0, .slice none 0 0, .slice none 0 0] 26
  clear hP
  go_enter Tryd.func9, Tryd.ntmps9
  go_wp2
  refine wp_region_held_drew (S := fun W => W.cell? ⟨w.heap.size, 0, none⟩ = some (.int .i64 p.st) ∧ W.cell? ⟨w.heap.size, 1, none⟩ = some (.slice a0 p.ins.length a1) ∧ W.cell? ⟨w.heap.size, 2, none⟩ = some (.slice b0 p.flows.length b1) ∧ W.cell? ⟨w.heap.size, 3, none⟩ = some (.slice c0 p.outs.length c1)) (by kernel_rfl) ?_ (fun hHeld => ?_)
  · exact ⟨B0 0 _ rfl, B0 1 _ rfl, B0 2 _ rfl, B0 3 _ rfl⟩
  refine wpAnyH_take (i := 0) (oi := { dst := some 3, op := Go.Op.fieldAddr 26 (Go.Operand.tmp 1) 0, type := 0, pos := _, after := #[], guard := none }) (v := ?_) rfl (by kernel_rfl) (by kernel_rfl) (by kernel_rfl) (fun _ _ _ h => h) (Or.inl ⟨by rfl, ?_⟩) (by assumption) ?_
  rotate_left
  · intro w hSw; (try dsimp only at hSw); go_simp <;> first | with_reducible rfl | (rw [if_neg (by first | omega | (simp only [ByteArray.size_append] at *; omega))])
  simp only [Act.put, List.setIfInBounds_toArray, List.set_cons_zero, List.set_cons_succ]
  refine wpAnyH_take (i := 1) (oi := { dst := some 4, op := Go.Op.load 3 (Go.Operand.tmp 3), type := 3, pos := _, after := #[{ on := 0, ground := Go.Ground.data }], guard := none }) (v := ?_) rfl (by kernel_rfl) (by kernel_rfl) (by kernel_rfl) (fun _ _ _ h => h) (Or.inl ⟨by rfl, ?_⟩) (by assumption) ?_
  rotate_left
  · intro w hSw; (try dsimp only at hSw); go_simp <;> first | with_reducible rfl | (rw [if_neg (by first | omega | (simp only [ByteArray.size_append] at *; omega))])
  simp only [Act.put, List.setIfInBounds_toArray, List.set_cons_zero, List.set_cons_succ]
  refine wpAnyH_take (i := 2) (oi := { dst := some 5, op := Go.Op.fieldAddr 26 (Go.Operand.tmp 1) 1, type := 0, pos := _, after := #[], guard := none }) (v := ?_) rfl (by kernel_rfl) (by kernel_rfl) (by kernel_rfl) (fun _ _ _ h => h) (Or.inl ⟨by rfl, ?_⟩) (by assumption) ?_
  rotate_left
  · intro w hSw; (try dsimp only at hSw); go_simp <;> first | with_reducible rfl | (rw [if_neg (by first | omega | (simp only [ByteArray.size_append] at *; omega))])
  simp only [Act.put, List.setIfInBounds_toArray, List.set_cons_zero, List.set_cons_succ]
  refine wpAnyH_take (i := 3) (oi := { dst := some 6, op := Go.Op.load 22 (Go.Operand.tmp 5), type := 22, pos := _, after := #[{ on := 2, ground := Go.Ground.data }], guard := none }) (v := ?_) rfl (by kernel_rfl) (by kernel_rfl) (by kernel_rfl) (fun _ _ _ h => h) (Or.inl ⟨by rfl, ?_⟩) (by assumption) ?_
  rotate_left
  · intro w hSw; (try dsimp only at hSw); go_simp <;> first | with_reducible rfl | (rw [if_neg (by first | omega | (simp only [ByteArray.size_append] at *; omega))])
  simp only [Act.put, List.setIfInBounds_toArray, List.set_cons_zero, List.set_cons_succ]
  refine wpAnyH_take (i := 5) (oi := { dst := some 8, op := Go.Op.fieldAddr 26 (Go.Operand.tmp 1) 2, type := 0, pos := _, after := #[], guard := none }) (v := ?_) rfl (by kernel_rfl) (by kernel_rfl) (by kernel_rfl) (fun _ _ _ h => h) (Or.inl ⟨by rfl, ?_⟩) (by assumption) ?_
  rotate_left
  · intro w hSw; (try dsimp only at hSw); go_simp <;> first | with_reducible rfl | (rw [if_neg (by first | omega | (simp only [ByteArray.size_append] at *; omega))])
  simp only [Act.put, List.setIfInBounds_toArray, List.set_cons_zero, List.set_cons_succ]
  refine wpAnyH_take (i := 6) (oi := { dst := some 9, op := Go.Op.load 23 (Go.Operand.tmp 8), type := 23, pos := _, after := #[{ on := 5, ground := Go.Ground.data }], guard := none }) (v := ?_) rfl (by kernel_rfl) (by kernel_rfl) (by kernel_rfl) (fun _ _ _ h => h) (Or.inl ⟨by rfl, ?_⟩) (by assumption) ?_
  rotate_left
  · intro w hSw; (try dsimp only at hSw); go_simp <;> first | with_reducible rfl | (rw [if_neg (by first | omega | (simp only [ByteArray.size_append] at *; omega))])
  simp only [Act.put, List.setIfInBounds_toArray, List.set_cons_zero, List.set_cons_succ]
  refine wpAnyH_take (i := 8) (oi := { dst := some 11, op := Go.Op.fieldAddr 26 (Go.Operand.tmp 1) 3, type := 0, pos := _, after := #[], guard := none }) (v := ?_) rfl (by kernel_rfl) (by kernel_rfl) (by kernel_rfl) (fun _ _ _ h => h) (Or.inl ⟨by rfl, ?_⟩) (by assumption) ?_
  rotate_left
  · intro w hSw; (try dsimp only at hSw); go_simp <;> first | with_reducible rfl | (rw [if_neg (by first | omega | (simp only [ByteArray.size_append] at *; omega))])
  simp only [Act.put, List.setIfInBounds_toArray, List.set_cons_zero, List.set_cons_succ]
  refine wpAnyH_take (i := 9) (oi := { dst := some 12, op := Go.Op.load 24 (Go.Operand.tmp 11), type := 24, pos := _, after := #[{ on := 8, ground := Go.Ground.data }], guard := none }) (v := ?_) rfl (by kernel_rfl) (by kernel_rfl) (by kernel_rfl) (fun _ _ _ h => h) (Or.inl ⟨by rfl, ?_⟩) (by assumption) ?_
  rotate_left
  · intro w hSw; (try dsimp only at hSw); go_simp <;> first | with_reducible rfl | (rw [if_neg (by first | omega | (simp only [ByteArray.size_append] at *; omega))])
  simp only [Act.put, List.setIfInBounds_toArray, List.set_cons_zero, List.set_cons_succ]
  refine wpAnyH_ready (rs := [4]) (by kernel_rfl) (by simp) ?_
  refine AllReadyH.cons (o := { dst := some 7, op := Go.Op.call { callee := Go.Callee.value (Go.Operand.func 24), args := #[Go.Operand.tmp 6], argTypes := #[22] }, type := 22, pos := _, after := #[{ on := 3, ground := Go.Ground.data }], guard := none }) rfl (fun K hK => ?_) AllReadyH.nil
  go_simp
  refine (twin_ins _ _ _ (P0.out.keep H2.out.drew).ins).mono ?_
  rintro e w3 ⟨s3, rfl, ht3, hb3⟩
  obtain ⟨g3, k3, rfl, _⟩ := id ht3
  have HB3 := hid (bstep H2.out.drew hb3)
  have HT3 := hid ht3
  have G3 := hid hb3
  obtain ⟨p1, p2, p3⟩ := two_boxes w w3 _ _ 26 hb3
  clear ht3 hb3
  go_wp2_with fail
  refine hK.out _ _ ?_ (fun hHeld1 => ?_)
  · exact ⟨p1 0 _ rfl, p1 1 _ rfl, p1 2 _ rfl, p1 3 _ rfl⟩
  clear hK K
  refine wpAnyH_ready (rs := [7]) (by kernel_rfl) (by simp) ?_
  refine AllReadyH.cons (o := { dst := some 10, op := Go.Op.call { callee := Go.Callee.value (Go.Operand.func 25), args := #[Go.Operand.tmp 9], argTypes := #[23] }, type := 23, pos := _, after := #[{ on := 6, ground := Go.Ground.data }, { on := 4, ground := Go.Ground.chain }], guard := none }) rfl (fun K hK => ?_) AllReadyH.nil
  go_simp
  refine (twin_flows _ _ _ (P0.out.keep HB3.out).flows).mono ?_
  rintro e w4 ⟨s4, rfl, ht4, hb4⟩
  obtain ⟨g4, k4, _, rfl, _⟩ := id ht4
  have HB4 := hid (bstep HB3.out hb4)
  have HT4 := hid ht4
  have G4 := hid (bstep G3.out hb4)
  have F4 := hid hb4
  obtain ⟨q1, q2, q3⟩ := two_boxes w w4 _ _ 26 G4.out
  clear ht4 hb4
  go_wp2_with fail
  refine hK.out _ _ ?_ (fun hHeld2 => ?_)
  · exact ⟨q1 0 _ rfl, q1 1 _ rfl, q1 2 _ rfl, q1 3 _ rfl⟩
  clear hK K
  refine wpAnyH_ready (rs := [10]) (by kernel_rfl) (by simp) ?_
  refine AllReadyH.cons (o := { dst := some 13, op := Go.Op.call { callee := Go.Callee.value (Go.Operand.func 26), args := #[Go.Operand.tmp 12], argTypes := #[24] }, type := 24, pos := _, after := #[{ on := 9, ground := Go.Ground.data }, { on := 7, ground := Go.Ground.chain }], guard := none }) rfl (fun K hK => ?_) AllReadyH.nil
  go_simp
  refine (twin_texts _ _ _ (P0.out.keep HB4.out).outs).mono ?_
  rintro e w5 ⟨s5, rfl, ht5, hb5⟩
  obtain ⟨g5, k5, rfl, _⟩ := id ht5
  have HB5 := hid (bstep HB4.out hb5)
  have HT5 := hid ht5
  have G5 := hid (bstep G4.out hb5)
  have F5 := hid hb5
  obtain ⟨r1, r2, r3⟩ := two_boxes w w5 _ _ 26 G5.out
  clear ht5 hb5
  go_wp2_with fail
  refine hK.out _ _ ?_ (fun hHeld3 => ?_)
  · exact ⟨r1 0 _ rfl, r1 1 _ rfl, r1 2 _ rfl, r1 3 _ rfl⟩
  clear hK K
  refine wpAnyH_take (i := 11) (oi := { dst := some 14, op := Go.Op.build 26 #[(0, Go.Operand.tmp 4), (1, Go.Operand.tmp 7), (2, Go.Operand.tmp 10), (3, Go.Operand.tmp 13)], type := 26, pos := _, after := #[{ on := 1, ground := Go.Ground.data }, { on := 4, ground := Go.Ground.data }, { on := 7, ground := Go.Ground.data }, { on := 10, ground := Go.Ground.data }], guard := none }) (v := ?_) rfl (by kernel_rfl) (by kernel_rfl) (by kernel_rfl) (fun _ _ _ h => h) (Or.inl ⟨by rfl, ?_⟩) (by assumption) ?_
  rotate_left
  · intro w hSw; (try dsimp only at hSw); go_simp <;> first | with_reducible rfl | (rw [if_neg (by first | omega | (simp only [ByteArray.size_append] at *; omega))])
  simp only [Act.put, List.setIfInBounds_toArray, List.set_cons_zero, List.set_cons_succ]
  refine wpAnyH_ready (rs := [12]) (by kernel_rfl) (by simp) ?_
  refine AllReadyH.cons (o := { dst := none, op := Go.Op.store 26 (Go.Operand.tmp 2) (Go.Operand.tmp 14), type := 0, pos := _, after := #[{ on := 11, ground := Go.Ground.data }, { on := 10, ground := Go.Ground.chain }, { on := 0, ground := Go.Ground.phase }, { on := 1, ground := Go.Ground.phase }, { on := 2, ground := Go.Ground.phase }, { on := 3, ground := Go.Ground.phase }, { on := 4, ground := Go.Ground.phase }, { on := 5, ground := Go.Ground.phase }, { on := 6, ground := Go.Ground.phase }, { on := 7, ground := Go.Ground.phase }, { on := 8, ground := Go.Ground.phase }, { on := 9, ground := Go.Ground.phase }, { on := 10, ground := Go.Ground.phase }, { on := 11, ground := Go.Ground.phase }], guard := none }) rfl (fun K hK => ?_) AllReadyH.nil
  refine if_take (by rfl) ?_
  refine wp_store_row 26 _ _ rfl (w.heap.size + 1) (pgC p (.slice (some ⟨g3, 0, none⟩) p.ins.length k3) (.slice (some ⟨g4, 0, none⟩) p.flows.length k4) (.slice (some ⟨g5, 0, none⟩) p.outs.length k5)) rfl rfl 26 _ r3 info26 rfl (by simp [Value.oneCell']) ?_
  refine hK.out _ _ ?_ (fun _ => ?_)
  · have hne : w.heap.size ≠ w.heap.size + 1 := by omega
    have kk : ∀ j v, w5.cell? ⟨w.heap.size, j, none⟩ = some v → (w5.setRow (w.heap.size + 1) (pgC p (.slice (some ⟨g3, 0, none⟩) p.ins.length k3) (.slice (some ⟨g4, 0, none⟩) p.flows.length k4) (.slice (some ⟨g5, 0, none⟩) p.outs.length k5))).cell? ⟨w.heap.size, j, none⟩ = some v := fun j v h => by
      rw [World.cell?_of_block (w := w5) (a := ⟨w.heap.size, j, none⟩) (setRow_other w5 _ _ _ hne)]
      exact h
    exact ⟨kk _ _ (r1 0 _ rfl), kk _ _ (r1 1 _ rfl), kk _ _ (r1 2 _ rfl), kk _ _ (r1 3 _ rfl)⟩
  clear hK K
  refine wpAnyH_done (by kernel_rfl) ?_ _
  go_wp2
  refine bodyPost_ret (results_cell_row rfl _ _ (w.heap.size + 1) 26 (pgC p (.slice (some ⟨g3, 0, none⟩) p.ins.length k3) (.slice (some ⟨g4, 0, none⟩) p.flows.length k4) (.slice (some ⟨g5, 0, none⟩) p.outs.length k5)) (0, 0) _ rfl (setRow_heap _ _ _ _ _ _ r3) Tryd.underlying26 rfl info26) rfl ⟨_, _, _, rfl, ?_, ?_, ?_⟩
  · have hlo : w.heap.size + 2 ≤ (((w.alloc (.cells (pgC p (.slice a0 p.ins.length a1) (.slice b0 p.flows.length b1) (.slice c0 p.outs.length c1)) 26)).alloc (.cells #[.int .i64 0, .slice none 0 0, .slice none 0 0, .slice none 0 0] 26)).drew).heap.size := by simp
    have h3 : w.heap.size + 2 ≤ w3.heap.size := Nat.le_trans hlo G3.out.size
    have h4 : w.heap.size + 2 ≤ w4.heap.size := Nat.le_trans h3 F4.out.size
    have T : TwPg w5 (w.heap.size + 2) p (.slice (some ⟨g3, 0, none⟩) p.ins.length k3) (.slice (some ⟨g4, 0, none⟩) p.flows.length k4) (.slice (some ⟨g5, 0, none⟩) p.outs.length k5) := ⟨P0.out.st, HT3.out.carry (fun b _ hb => (bstep F4.out F5.out).block b hb) hlo, HT4.out.carry (fun b _ hb => F5.out.block b hb) h3, HT5.out.carry (fun _ _ _ => rfl) h4⟩
    exact T.carry (fun b hb _ => setRow_other w5 _ _ _ (by omega)) (by omega)
  · exact below_row HB5.out HB5.out.size (by omega) _
  · intro i n c j m d e1 e2
    injection e1 with e1 _ _
    injection e1 with e1
    injection e1 with e1 _ _
    injection e2 with e2 _ _
    injection e2 with e2
    injection e2 with e2 _ _
    subst e1 e2
    obtain ⟨b, _, e, _, _, _, _, _, _, cur, hk, _⟩ := HT3.out
    injection e with e _ _
    injection e with e
    injection e with e _ _
    subst e
    have l3 := (Array.getElem?_eq_some_iff.1 hk).1
    obtain ⟨b, _, _, e, hlo, _⟩ := HT4.out
    injection e with e _ _
    injection e with e
    injection e with e _ _
    subst e
    omega
theorem twin_prog (p : Pg) (w : World) (a b c : Value) (hP : PgAt w p a b c) :
    Calls Tryd.prog 9 #[pgV p a b c] w fun e w' => ∃ a' b' c', e = .returned (pgV p a' b' c') ∧ TwPg w' w.heap.size p a' b' c' ∧ Below w.heap.size w w' :=
  (twin_prog2 p w a b c hP).mono fun _ _ ⟨a', b', c', h1, h2, h3, _⟩ => ⟨a', b', c', h1, h2, h3⟩
end Go.Proofs.YtmlapodhpinhmaaDoor.Lex
namespace Go.Proofs.YtmlapodhpinhmaaDoor.Lex
open Go.ChangeShapes Go.WideShapes Go.ChangeAt Go.RowKit Go.Joins
set_option maxRecDepth 100000 in
set_option maxHeartbeats 2000000 in
theorem left_ins (l : List Hd) (w : World) (lo : Nat) (st s : Value) (hT : TwIns w lo l st) (hS : InsAt w l s) :
    Calls Tryd.prog 36 #[st, s] w fun e w' => e = .returned (.bool true) ∧ Below w.heap.size w w' := by
  obtain ⟨ao, cap, rfl, hlen, _, _, hc⟩ := hS
  obtain ⟨b, cp, rfl, _, _, hcp, _, htc, hsp, _⟩ := hT
  have HC := hid hc
  have HT := hid htc
  have HP := hid hsp
  have hne : ((l.length : Int) != (l.length : Int)) = false := by simp
  have hcp' : ¬ (cp : Int) ≤ (l.length : Int) := by omega
  clear hc htc hsp
  go_enter Tryd.func36, Tryd.ntmps36
  go_wp2
  go_loopw [5] (fun i wr => ∃ k : Nat, k ≤ l.length ∧ i = .int .i64 (k : Int) ∧ Hid (Below w.heap.size w wr)) (fun i _ => l.length - (intOf i).toNat)
  case atStart => exact ⟨0, Nat.zero_le _, rfl, Below.refl _ _⟩
  case round =>
    obtain ⟨k, hk, rfl, hB⟩ := hrel
    by_cases hlt : k < l.length
    · have hlt' : (k : Int) < (l.length : Int) := by omega
      have hk0 : (0 : Int) ≤ (k : Int) := by omega
      obtain ⟨bb, o, rfl, hcc⟩ := HC.out.resolve_left (by omega)
      obtain ⟨v0, v1, v2⟩ := (hcc k hlt).keep hB.out
      obtain ⟨u0, u1, u2⟩ := (HT.out k hlt).keep hB.out
      clear hcc
      generalize l[k] = y at *
      generalize y.name = N at *
      generalize y.ty = Y at *
      generalize y.st = Z at *
      go_wp2
      go_quiet (fail)
      go_wp2
      go_roundw
      case rel => exact ⟨k + 1, by omega, by go_num, below_drewN hB.out _⟩
      case measure => simp [intOf]; omega
    · have hlt' : ¬ (k : Int) < (l.length : Int) := by omega
      obtain ⟨q0, q1, q2⟩ := HP.out.keep hB.out
      unfold spare at q0
      have hle1 : (l.length : Int) + 1 ≤ (cp : Int) := by omega
      have hle2 : (l.length : Int) < (l.length : Int) + 1 := by omega
      have hle3 : (0 : Int) ≤ (l.length : Int) := by omega
      go_wp2
      go_ret
      exact ⟨rfl, bstep hB.out ((Below.refl _ _).alloc (Nat.le_refl _) _)⟩
set_option maxRecDepth 100000 in
set_option maxHeartbeats 2000000 in
theorem left_texts (l : List ByteArray) (w : World) (lo : Nat) (st s : Value) (hT : TwTexts w lo l st) (hS : TextsAt w l s) :
    Calls Tryd.prog 38 #[st, s] w fun e w' => e = .returned (.bool true) ∧ Below w.heap.size w w' := by
  obtain ⟨ao, cap, rfl, hlen, _, _, hc⟩ := hS
  obtain ⟨b, cp, rfl, _, _, hcp, _, htc, hsp, _⟩ := hT
  have HC := hid hc
  have HT := hid htc
  have HP := hid hsp
  have hne : ((l.length : Int) != (l.length : Int)) = false := by simp
  have hcp' : ¬ (cp : Int) ≤ (l.length : Int) := by omega
  clear hc htc hsp
  go_enter Tryd.func38, Tryd.ntmps38
  go_wp2
  go_loopw [5] (fun i wr => ∃ k : Nat, k ≤ l.length ∧ i = .int .i64 (k : Int) ∧ Hid (Below w.heap.size w wr)) (fun i _ => l.length - (intOf i).toNat)
  case atStart => exact ⟨0, Nat.zero_le _, rfl, Below.refl _ _⟩
  case round =>
    obtain ⟨k, hk, rfl, hB⟩ := hrel
    by_cases hlt : k < l.length
    · have hlt' : (k : Int) < (l.length : Int) := by omega
      have hk0 : (0 : Int) ≤ (k : Int) := by omega
      obtain ⟨bb, o, rfl, hcc⟩ := HC.out.resolve_left (by omega)
      have v0 := cell_kept (hcc k hlt) hB.out
      have u0 := cell_kept (HT.out k hlt) hB.out
      clear hcc
      generalize l[k] = N at *
      go_wp2
      go_quiet (fail)
      go_wp2
      go_roundw
      case rel => exact ⟨k + 1, by omega, by go_num, below_drewN hB.out _⟩
      case measure => simp [intOf]; omega
    · have hlt' : ¬ (k : Int) < (l.length : Int) := by omega
      have q0 := cell_kept HP.out hB.out
      unfold spare at q0
      have hle1 : (l.length : Int) + 1 ≤ (cp : Int) := by omega
      have hle2 : (l.length : Int) < (l.length : Int) + 1 := by omega
      have hle3 : (0 : Int) ≤ (l.length : Int) := by omega
      go_wp2
      go_ret
      exact ⟨rfl, hB.out⟩
set_option maxRecDepth 100000 in
set_option maxHeartbeats 1000000 in
theorem left_flow (x : Fl) (w : World) (lo : Nat) (st s : Value) (hT : Tw w lo x.body st) (hS : St w x.body s) :
    Calls Tryd.prog 60 #[flV x st, flV x s] w fun e w' => e = .returned (.bool true) ∧ Below w.heap.size w w' := by
  have hs := fun W hT hS => left_any _ x.body (Nat.le_refl _) W lo st s hT hS
  obtain ⟨ao, cap, sl, rfl, _⟩ := hS.out
  obtain ⟨b, cp, tl, rfl, _⟩ := hT.out
  have e0 : (x.name.toList == x.name.toList) = true := by simp
  have e1 : ((x.ty : Int) == (x.ty : Int)) = true := by simp
  have e2 : (x.st == x.st) = true := by simp
  have e3 : (x.df == x.df) = true := by simp
  have b1 := (Below.refl w.heap.size w).alloc (Nat.le_refl _) (.cells #[.string x.name, .int .u8 (x.ty : Int), .int .i64 x.st, .int .i64 x.df, .int .u8 (x.body.op : Int), .int .i64 x.body.n, .string x.body.name, .slice (some ⟨b, 0, none⟩) x.body.args.length cp] 55)
  have b2 := bstep b1 ((Below.refl _ _).alloc (Nat.le_refl _) (.cells #[.string x.name, .int .u8 (x.ty : Int), .int .i64 x.st, .int .i64 x.df, .int .u8 (x.body.op : Int), .int .i64 x.body.n, .string x.body.name, .slice ao x.body.args.length cap] 55))
  have HT := hid (hT.keep b2)
  have HS := hid (hS.keep b2)
  have HB := hid b2
  clear hT hS b1 b2
  go_enter Tryd.func60, Tryd.ntmps60
  go_wp2_with (go_at_call 77; refine (hs _ HT.out HS.out).mono ?_; rintro e w2 ⟨rfl, hb2⟩)
  go_ret
  exact ⟨rfl, bstep HB.out hb2⟩
set_option maxRecDepth 100000 in
set_option maxHeartbeats 2000000 in
theorem left_flows (l : List Fl) (w : World) (lo : Nat) (st s : Value) (hT : TwFlows w lo l st) (hS : FlowsAt w l s) :
    Calls Tryd.prog 37 #[st, s] w fun e w' => e = .returned (.bool true) ∧ Below w.heap.size w w' := by
  obtain ⟨ao, cap, sl, rfl, hlen, _, _, hc, hs⟩ := hS
  obtain ⟨b, cp, tl, rfl, _, _, hcp, _, htc, hsp, hts, _⟩ := hT
  have HC := hid hc
  have HT := hid htc
  have HP := hid hsp
  have HS := hid hs
  have HTS := hid hts
  have hne : ((l.length : Int) != (l.length : Int)) = false := by simp
  have hcp' : ¬ (cp : Int) ≤ (l.length : Int) := by omega
  clear hc htc hsp hs hts
  go_enter Tryd.func37, Tryd.ntmps37
  go_wp2
  go_loopw [5] (fun i wr => ∃ k : Nat, k ≤ l.length ∧ i = .int .i64 (k : Int) ∧ Hid (Below w.heap.size w wr)) (fun i _ => l.length - (intOf i).toNat)
  case atStart => exact ⟨0, Nat.zero_le _, rfl, Below.refl _ _⟩
  case round =>
    obtain ⟨k, hk, rfl, hB⟩ := hrel
    by_cases hlt : k < l.length
    · have hlt' : (k : Int) < (l.length : Int) := by omega
      have hk0 : (0 : Int) ≤ (k : Int) := by omega
      obtain ⟨bb, o, rfl, hcc⟩ := HC.out.resolve_left (by omega)
      have X := (hcc k hlt).keep hB.out
      have Y := (HT.out k hlt).keep hB.out
      have hst := HS.out k hlt
      have htw := HTS.out k hlt
      clear hcc
      generalize l[k] = y at *
      generalize sl k = sv at *
      generalize tl k = tv at *
      obtain ⟨a3, c3, _, rfl, _⟩ := hst.out
      obtain ⟨b2, c2, _, rfl, _⟩ := htw.out
      obtain ⟨v0, v1, v2, v3, v4, v5, v6, v7⟩ := X
      obtain ⟨u0, u1, u2, u3, u4, u5, u6, u7⟩ := Y
      have c := fun W (hb : Below w.heap.size w W) => left_flow y W _ _ _ (htw.keep hb) (hst.keep hb)
      clear hst htw
      go_wp2
      refine wp_region_held_drew (S := fun W => (W.cell? ⟨b, k * 8, none⟩ = some (.string y.name) ∧ W.cell? ⟨b, k * 8 + 1, none⟩ = some (.int .u8 (y.ty : Int)) ∧ W.cell? ⟨b, k * 8 + 2, none⟩ = some (.int .i64 y.st) ∧ W.cell? ⟨b, k * 8 + 3, none⟩ = some (.int .i64 y.df) ∧ W.cell? ⟨b, k * 8 + 4, none⟩ = some (.int .u8 (y.body.op : Int)) ∧ W.cell? ⟨b, k * 8 + 5, none⟩ = some (.int .i64 y.body.n) ∧ W.cell? ⟨b, k * 8 + 6, none⟩ = some (.string y.body.name) ∧ W.cell? ⟨b, k * 8 + 7, none⟩ = some (.slice (some ⟨b2, 0, none⟩) y.body.args.length c2)) ∧ W.cell? ⟨bb, o + k * 8, none⟩ = some (.string y.name) ∧ W.cell? ⟨bb, o + k * 8 + 1, none⟩ = some (.int .u8 (y.ty : Int)) ∧ W.cell? ⟨bb, o + k * 8 + 2, none⟩ = some (.int .i64 y.st) ∧ W.cell? ⟨bb, o + k * 8 + 3, none⟩ = some (.int .i64 y.df) ∧ W.cell? ⟨bb, o + k * 8 + 4, none⟩ = some (.int .u8 (y.body.op : Int)) ∧ W.cell? ⟨bb, o + k * 8 + 5, none⟩ = some (.int .i64 y.body.n) ∧ W.cell? ⟨bb, o + k * 8 + 6, none⟩ = some (.string y.body.name) ∧ W.cell? ⟨bb, o + k * 8 + 7, none⟩ = some (.slice a3 y.body.args.length c3)) (by kernel_rfl) ?_ (fun hHeld => ?_)
      · exact ⟨⟨u0, u1, u2, u3, u4, u5, u6, u7⟩, v0, v1, v2, v3, v4, v5, v6, v7⟩
      refine wpAnyH_take (i := 0) (oi := { dst := some 25, op := Go.Op.move (Go.Operand.tmp 0), type := 23, pos := _, after := #[], guard := none }) (v := ?_) rfl (by kernel_rfl) (by kernel_rfl) (by kernel_rfl) (fun _ _ _ h => h) (Or.inl ⟨by rfl, ?_⟩) (by assumption) ?_
      rotate_left
      · intro w hSw; (try dsimp only at hSw); go_simp <;> first | with_reducible rfl | (rw [if_neg (by first | omega | (simp only [ByteArray.size_append] at *; omega))])
      simp only [Act.put, List.setIfInBounds_toArray, List.set_cons_zero, List.set_cons_succ]
      refine wpAnyH_take (i := 1) (oi := { dst := some 26, op := Go.Op.move (Go.Operand.tmp 5), type := 3, pos := _, after := #[], guard := none }) (v := ?_) rfl (by kernel_rfl) (by kernel_rfl) (by kernel_rfl) (fun _ _ _ h => h) (Or.inl ⟨by rfl, ?_⟩) (by assumption) ?_
      rotate_left
      · intro w hSw; (try dsimp only at hSw); go_simp <;> first | with_reducible rfl | (rw [if_neg (by first | omega | (simp only [ByteArray.size_append] at *; omega))])
      simp only [Act.put, List.setIfInBounds_toArray, List.set_cons_zero, List.set_cons_succ]
      refine wpAnyH_take (i := 2) (oi := { dst := some 27, op := Go.Op.indexAddr 23 (Go.Operand.tmp 25) (Go.Operand.tmp 26), type := 0, pos := _, after := #[{ on := 0, ground := Go.Ground.data }, { on := 1, ground := Go.Ground.data }], guard := none }) (v := ?_) rfl (by kernel_rfl) (by kernel_rfl) (by kernel_rfl) (fun _ _ _ h => h) (Or.inl ⟨by rfl, ?_⟩) (by assumption) ?_
      rotate_left
      · intro w hSw; (try dsimp only at hSw); go_simp <;> first | with_reducible rfl | (rw [if_neg (by first | omega | (simp only [ByteArray.size_append] at *; omega))])
      simp only [Act.put, List.setIfInBounds_toArray, List.set_cons_zero, List.set_cons_succ]
      refine wpAnyH_take (i := 3) (oi := { dst := some 28, op := Go.Op.load 55 (Go.Operand.tmp 27), type := 55, pos := _, after := #[{ on := 2, ground := Go.Ground.data }], guard := none }) (v := ?_) rfl (by kernel_rfl) (by kernel_rfl) (by kernel_rfl) (fun _ _ _ h => h) (Or.inl ⟨by rfl, ?_⟩) (by assumption) ?_
      rotate_left
      · intro w hSw; (try dsimp only at hSw); go_simp <;> first | with_reducible rfl | (rw [if_neg (by first | omega | (simp only [ByteArray.size_append] at *; omega))])
      simp only [Act.put, List.setIfInBounds_toArray, List.set_cons_zero, List.set_cons_succ]
      refine wpAnyH_take (i := 4) (oi := { dst := some 29, op := Go.Op.move (Go.Operand.tmp 1), type := 23, pos := _, after := #[], guard := none }) (v := ?_) rfl (by kernel_rfl) (by kernel_rfl) (by kernel_rfl) (fun _ _ _ h => h) (Or.inl ⟨by rfl, ?_⟩) (by assumption) ?_
      rotate_left
      · intro w hSw; (try dsimp only at hSw); go_simp <;> first | with_reducible rfl | (rw [if_neg (by first | omega | (simp only [ByteArray.size_append] at *; omega))])
      simp only [Act.put, List.setIfInBounds_toArray, List.set_cons_zero, List.set_cons_succ]
      refine wpAnyH_take (i := 5) (oi := { dst := some 30, op := Go.Op.move (Go.Operand.tmp 5), type := 3, pos := _, after := #[], guard := none }) (v := ?_) rfl (by kernel_rfl) (by kernel_rfl) (by kernel_rfl) (fun _ _ _ h => h) (Or.inl ⟨by rfl, ?_⟩) (by assumption) ?_
      rotate_left
      · intro w hSw; (try dsimp only at hSw); go_simp <;> first | with_reducible rfl | (rw [if_neg (by first | omega | (simp only [ByteArray.size_append] at *; omega))])
      simp only [Act.put, List.setIfInBounds_toArray, List.set_cons_zero, List.set_cons_succ]
      refine wpAnyH_take (i := 6) (oi := { dst := some 31, op := Go.Op.indexAddr 23 (Go.Operand.tmp 29) (Go.Operand.tmp 30), type := 0, pos := _, after := #[{ on := 4, ground := Go.Ground.data }, { on := 5, ground := Go.Ground.data }], guard := none }) (v := ?_) rfl (by kernel_rfl) (by kernel_rfl) (by kernel_rfl) (fun _ _ _ h => h) (Or.inl ⟨by rfl, ?_⟩) (by assumption) ?_
      rotate_left
      · intro w hSw; (try dsimp only at hSw); go_simp <;> first | with_reducible rfl | (rw [if_neg (by first | omega | (simp only [ByteArray.size_append] at *; omega))])
      simp only [Act.put, List.setIfInBounds_toArray, List.set_cons_zero, List.set_cons_succ]
      refine wpAnyH_take (i := 7) (oi := { dst := some 32, op := Go.Op.load 55 (Go.Operand.tmp 31), type := 55, pos := _, after := #[{ on := 6, ground := Go.Ground.data }], guard := none }) (v := ?_) rfl (by kernel_rfl) (by kernel_rfl) (by kernel_rfl) (fun _ _ _ h => h) (Or.inl ⟨by rfl, ?_⟩) (by assumption) ?_
      rotate_left
      · intro w hSw; (try dsimp only at hSw); go_simp <;> first | with_reducible rfl | (rw [if_neg (by first | omega | (simp only [ByteArray.size_append] at *; omega))])
      simp only [Act.put, List.setIfInBounds_toArray, List.set_cons_zero, List.set_cons_succ]
      refine wpAnyH_ready (rs := [8]) (by kernel_rfl) (by simp) ?_
      refine AllReadyH.cons (o := { dst := some 33, op := Go.Op.call { callee := Go.Callee.value (Go.Operand.func 60), args := #[Go.Operand.tmp 28, Go.Operand.tmp 32], argTypes := #[55, 55] }, type := 4, pos := _, after := #[{ on := 3, ground := Go.Ground.data }, { on := 7, ground := Go.Ground.data }], guard := none }) rfl (fun K hK => ?_) AllReadyH.nil
      go_simp
      refine (c _ (hB.out.drew)).mono ?_
      rintro e w4 ⟨rfl, hb4⟩
      go_wp2_with fail
      refine hK.out _ _ ?_ (fun hHeld1 => ?_)
      · exact ⟨⟨cell_kept (w := wr.drew) u0 hb4, cell_kept (w := wr.drew) u1 hb4, cell_kept (w := wr.drew) u2 hb4, cell_kept (w := wr.drew) u3 hb4, cell_kept (w := wr.drew) u4 hb4, cell_kept (w := wr.drew) u5 hb4, cell_kept (w := wr.drew) u6 hb4, cell_kept (w := wr.drew) u7 hb4⟩, cell_kept (w := wr.drew) v0 hb4, cell_kept (w := wr.drew) v1 hb4, cell_kept (w := wr.drew) v2 hb4, cell_kept (w := wr.drew) v3 hb4, cell_kept (w := wr.drew) v4 hb4, cell_kept (w := wr.drew) v5 hb4, cell_kept (w := wr.drew) v6 hb4, cell_kept (w := wr.drew) v7 hb4⟩
      clear hK K
      refine wpAnyH_take (i := 9) (oi := { dst := some 34, op := Go.Op.unOp Go.UnOp.not 4 (Go.Operand.tmp 33), type := 4, pos := _, after := #[{ on := 8, ground := Go.Ground.data }], guard := none }) (v := ?_) rfl (by kernel_rfl) (by kernel_rfl) (by kernel_rfl) (fun _ _ _ h => h) (Or.inl ⟨by rfl, ?_⟩) (by assumption) ?_
      rotate_left
      · intro w hSw; (try dsimp only at hSw); go_simp <;> first | with_reducible rfl | (rw [if_neg (by first | omega | (simp only [ByteArray.size_append] at *; omega))])
      simp only [Act.put, List.setIfInBounds_toArray, List.set_cons_zero, List.set_cons_succ]
      refine wpAnyH_done (by kernel_rfl) ?_ _
      go_wp2
      go_roundw
      case rel => exact ⟨k + 1, by omega, by go_num, bstep hB.out.drew hb4⟩
      case measure => simp [intOf]; omega
    · have hlt' : ¬ (k : Int) < (l.length : Int) := by omega
      have Q := HP.out.keep hB.out
      simp only [FlCells, spare] at Q
      obtain ⟨q0, q1, q2, q3, q4, q5, q6, q7⟩ := Q
      have hle1 : (l.length : Int) + 1 ≤ (cp : Int) := by omega
      have hle2 : (l.length : Int) < (l.length : Int) + 1 := by omega
      have hle3 : (0 : Int) ≤ (l.length : Int) := by omega
      go_wp2
      go_ret
      exact ⟨rfl, bstep hB.out ((Below.refl _ _).alloc (Nat.le_refl _) _)⟩
set_option maxRecDepth 100000 in
set_option maxHeartbeats 1000000 in
theorem left_prog (p : Pg) (w : World) (lo : Nat) (a b c a' b' c' : Value) (hT : TwPg w lo p a b c) (hP : PgAt w p a' b' c') :
    Calls Tryd.prog 15 #[pgV p a b c, pgV p a' b' c'] w fun e w' => e = .returned (.bool true) ∧ Below w.heap.size w w' := by
  obtain ⟨a0, a1, rfl, _⟩ := hT.at.ins
  obtain ⟨b0, b1, _, rfl, _⟩ := hT.at.flows
  obtain ⟨c0, c1, rfl, _⟩ := hT.at.outs
  obtain ⟨a2, a3, rfl, _⟩ := hP.ins
  obtain ⟨b2, b3, _, rfl, _⟩ := hP.flows
  obtain ⟨c2, c3, rfl, _⟩ := hP.outs
  have e0 : (p.st == p.st) = true := by simp
  have bb := bstep ((Below.refl w.heap.size w).alloc (Nat.le_refl _) (.cells (pgC p (.slice a0 p.ins.length a1) (.slice b0 p.flows.length b1) (.slice c0 p.outs.length c1)) 26)) ((Below.refl _ _).alloc (Nat.le_refl _) (.cells (pgC p (.slice a2 p.ins.length a3) (.slice b2 p.flows.length b3) (.slice c2 p.outs.length c3)) 26))
  have HT := hid (hT.keep bb)
  have HP := hid (hP.keep bb)
  have HB := hid bb
  have x0 : ∀ j v, (pgC p (.slice a0 p.ins.length a1) (.slice b0 p.flows.length b1) (.slice c0 p.outs.length c1))[j]? = some v → ((w.alloc (.cells (pgC p (.slice a0 p.ins.length a1) (.slice b0 p.flows.length b1) (.slice c0 p.outs.length c1)) 26)).alloc (.cells (pgC p (.slice a2 p.ins.length a3) (.slice b2 p.flows.length b3) (.slice c2 p.outs.length c3)) 26)).cell? ⟨w.heap.size, j, none⟩ = some v := box_first w (pgC p (.slice a0 p.ins.length a1) (.slice b0 p.flows.length b1) (.slice c0 p.outs.length c1)) (pgC p (.slice a2 p.ins.length a3) (.slice b2 p.flows.length b3) (.slice c2 p.outs.length c3)) 26
  have x2 := x0 2 (.slice b0 p.flows.length b1) rfl
  have x3 := x0 3 (.slice c0 p.outs.length c1) rfl
  have y0 := box_at (w.alloc (.cells (pgC p (.slice a0 p.ins.length a1) (.slice b0 p.flows.length b1) (.slice c0 p.outs.length c1)) 26)) (pgC p (.slice a2 p.ins.length a3) (.slice b2 p.flows.length b3) (.slice c2 p.outs.length c3)) 26
  rw [World.size_alloc] at y0
  have y2 := y0 2 (.slice b2 p.flows.length b3) rfl
  have y3 := y0 3 (.slice c2 p.outs.length c3) rfl
  clear hT hP bb x0 y0
  go_enter Tryd.func15, Tryd.ntmps15
  go_wp2_with (first
    | (go_at_call 36; refine (left_ins _ _ _ _ _ HT.out.ins HP.out.ins).mono ?_; rintro e w1 ⟨rfl, hb1⟩; have x12 := cell_kept x2 hb1; have x13 := cell_kept x3 hb1; have y12 := cell_kept y2 hb1; have y13 := cell_kept y3 hb1; have HT1 := hid (HT.out.keep hb1); have HP1 := hid (HP.out.keep hb1); have HB1 := hid (bstep HB.out hb1); clear x2 x3 y2 y3 HT HP hb1)
    | (go_at_call 37; refine (left_flows _ _ _ _ _ HT1.out.flows HP1.out.flows).mono ?_; rintro e w2 ⟨rfl, hb2⟩; have x23 := cell_kept x13 hb2; have y23 := cell_kept y13 hb2; have HT2 := hid (HT1.out.keep hb2); have HP2 := hid (HP1.out.keep hb2); have HB2 := hid (bstep HB1.out hb2); clear x12 x13 y12 y13 HT1 HP1 hb2)
    | (go_at_call 38; refine (left_texts _ _ _ _ _ HT2.out.outs HP2.out.outs).mono ?_; rintro e w3 ⟨rfl, hb3⟩; have HB3 := hid (bstep HB2.out hb3); clear x23 y23 HT2 HP2 hb3))
  go_ret
  exact ⟨rfl, HB3.out⟩
end Go.Proofs.YtmlapodhpinhmaaDoor.Lex
namespace Go.Proofs.YtmlapodhpinhmaaDoor.Lex
open Go.ChangeShapes Go.WideShapes Go.ChangeAt Go.RowKit Go.Joins
theorem things_in (p : Pg) (k : Nat) (h : k < p.ins.length) : (insL p).take k ++ [(-1, p.ins[k])] <+: thingsL p := by
  rw [← insL_succ p k h]
  exact (List.take_prefix _ _).trans (List.prefix_append _ _)
theorem things_flow (p : Pg) (k : Nat) (h : k < p.flows.length) : (insL p ++ (flowsL p).take k) ++ [((k : Int), p.flows[k].hd)] <+: thingsL p := by
  rw [List.append_assoc, ← flowsL_succ p k h]
  exact (List.prefix_append_right_inj _).2 (List.take_prefix _ _)
theorem results_tmp4 {fn : Func} {t u v x : Tmp} (h : fn.results = #[.tmp t, .tmp u, .tmp v, .tmp x]) (tmps : Array Value) (P : Program) (w : World) :
    (results fn tmps).run P w = .ok (.tuple #[tmps.getD t undef, tmps.getD u undef, tmps.getD v undef, tmps.getD x undef]) w := by
  simp [results, h, go_sem]
set_option maxRecDepth 100000 in
set_option maxHeartbeats 4000000 in
theorem rfind (p : Pg) (name : ByteArray) (w : World) (a b c : Value) (hP : PgAt w p a b c) :
    Calls Tryd.prog 59 #[pgV p a b c, .string name] w fun e W' => e = .returned (.tuple (foV (findT (thingsL p) name))) ∧ Below w.heap.size w W' := by
  obtain ⟨a0, a1, rfl, hlen, _, _, hc⟩ := hP.ins
  obtain ⟨b0, b1, _, rfl, hlen2, _, _, hc2, _⟩ := hP.flows
  obtain ⟨c0, c1, rfl, _⟩ := hP.outs
  have HC := hid hc
  have HC2 := hid hc2
  clear hc hc2 hP
  have B0 := hid ((Below.refl w.heap.size w).alloc (Nat.le_refl _) (.cells (pgC p (.slice a0 p.ins.length a1) (.slice b0 p.flows.length b1) (.slice c0 p.outs.length c1)) 26))
  have bx := fun j v => box_at w (pgC p (.slice a0 p.ins.length a1) (.slice b0 p.flows.length b1) (.slice c0 p.outs.length c1)) 26 j v
  have X1 := hid (bx 1 (.slice a0 p.ins.length a1) rfl)
  have X2 := hid (bx 2 (.slice b0 p.flows.length b1) rfl)
  clear bx
  go_enter Tryd.func59, Tryd.ntmps59
  go_wp2
  generalize w.alloc (.cells (pgC p (.slice a0 p.ins.length a1) (.slice b0 p.flows.length b1) (.slice c0 p.outs.length c1)) 26) = w1 at *
  go_loopw [8] (fun i wr => ∃ k : Nat, k ≤ p.ins.length ∧ i = .int .i64 (k : Int) ∧ Hid (Free ((insL p).take k) name) ∧ Hid (Below w1.heap.size w1 wr)) (fun i _ => p.ins.length - (intOf i).toNat)
  case atStart => exact ⟨0, Nat.zero_le _, rfl, hid (fun x hx => by simp at hx), Below.refl _ _⟩
  case round =>
    obtain ⟨k, hk, rfl, hF, hB⟩ := hrel
    have x1 := cell_kept X1.out hB.out
    by_cases hlt : k < p.ins.length
    · have hlt' : (k : Int) < (p.ins.length : Int) := by omega
      have hk0 : (0 : Int) ≤ (k : Int) := by omega
      obtain ⟨bb, o, rfl, hcc⟩ := HC.out.resolve_left (by omega)
      obtain ⟨v0, v1, v2⟩ := (hcc k hlt).keep (bstep B0.out hB.out)
      have HT := hid (things_in p k hlt)
      have HS := hid (insL_succ p k hlt)
      clear hcc
      generalize p.ins[k] = y at *
      by_cases heq : (y.name.toList == name.toList) = true
      · go_wp2
        go_quiet (fail)
        go_wp2
        refine bodyPost_ret (results_tmp4 rfl _ _ _) rfl ?_
        exact ⟨by rw [findT_some HT.out hF.out heq]; rfl, below_drewN (bstep B0.out hB.out) _⟩
      · have heq' : (y.name.toList == name.toList) = false := by simpa using heq
        go_wp2
        go_roundw
        case rel => exact ⟨k + 1, by omega, by go_num, hid (by rw [HS.out]; exact hF.out.snoc heq'), hB⟩
        case measure => simp [intOf]; omega
    · have hlt' : ¬ (k : Int) < (p.ins.length : Int) := by omega
      have hF' : Hid (Free (insL p) name) := by rw [List.take_of_length_le (by rw [insL_len]; omega)] at hF; exact hF
      go_wp2
      go_loopw [9] (fun i wr => ∃ k : Nat, k ≤ p.flows.length ∧ i = .int .i64 (k : Int) ∧ Hid (Free (insL p ++ (flowsL p).take k) name) ∧ Hid (Below w1.heap.size w1 wr)) (fun i _ => p.flows.length - (intOf i).toNat)
      case atStart => exact ⟨0, Nat.zero_le _, rfl, hid (by simpa using hF'.out), hB⟩
      case round =>
        obtain ⟨j, hj, rfl, hG, hB'⟩ := hrel
        have x2 := cell_kept X2.out hB'.out
        by_cases hjl : j < p.flows.length
        · have hjl' : (j : Int) < (p.flows.length : Int) := by omega
          have hj0 : (0 : Int) ≤ (j : Int) := by omega
          obtain ⟨b2, o2, rfl, hcc⟩ := HC2.out.resolve_left (by omega)
          obtain ⟨v0, v1, v2, v3, v4, v5, v6, v7⟩ := (hcc j hjl).keep (bstep B0.out hB'.out)
          have HT := hid (things_flow p j hjl)
          have HS := hid (flowsL_succ p j hjl)
          clear hcc v7
          generalize p.flows[j] = y at *
          by_cases heq : (y.name.toList == name.toList) = true
          · go_wp2
            go_quiet (fail)
            go_wp2
            refine bodyPost_ret (results_tmp4 rfl _ _ _) rfl ?_
            exact ⟨by rw [findT_some HT.out hG.out heq]; rfl, below_drewN (bstep B0.out hB'.out) _⟩
          · have heq' : (y.name.toList == name.toList) = false := by simpa using heq
            go_wp2
            go_roundw
            case rel => exact ⟨j + 1, by omega, by go_num, hid (by rw [HS.out, ← List.append_assoc]; exact hG.out.snoc heq'), hB'⟩
            case measure => simp [intOf]; omega
        · have hjl' : ¬ (j : Int) < (p.flows.length : Int) := by omega
          go_wp2
          refine bodyPost_ret (results_tmp4 rfl _ _ _) rfl ?_
          exact ⟨by rw [findT_none (by have := hG.out; rw [List.take_of_length_le (by rw [flowsL_len]; omega)] at this; exact this)]; rfl, bstep B0.out hB'.out⟩
end Go.Proofs.YtmlapodhpinhmaaDoor.Lex
namespace Go.Proofs.YtmlapodhpinhmaaDoor.Lex
open Go.ChangeShapes Go.WideShapes Go.ChangeAt Go.RowKit Go.Joins
def lstV (l : List Int) (x : Wi) : Int := (if 0 ≤ x.of then lateAt l x.of else 0) - x.rf.2 + x.way
theorem age_lst (l : List Int) (x : Wi) : ageV l x = lateAt l x.flow - lstV l x := by unfold ageV lstV; omega
set_option maxRecDepth 100000 in
set_option maxHeartbeats 4000000 in
theorem rleast (p : Pg) (l : List Int) (v : Value) (k : Nat) (r : Rf) (w : World) (a b c : Value) (hP : PgAt w p a b c) (hI : IAt w l v) (hk : k < p.flows.length) (hll : l.length = p.flows.length) (hx : WiOk p.flows.length (mkW p k p.flows[k].st r)) (hm : Mild l) :
    Calls Tryd.prog 35 #[pgV p a b c, v, .int .i64 (k : Int), .agg #[.string r.1, .int .i64 (r.2 : Int)]] w fun e w' => e = .returned (.int .i64 (lstV l (mkW p k p.flows[k].st r))) ∧ Below w.heap.size w w' := by
  obtain ⟨a0, a1, rfl, _⟩ := hP.ins
  obtain ⟨b0, b1, SL, rfl, hfl, _, _, hfc, _⟩ := hP.flows
  obtain ⟨c0, c1, rfl, _⟩ := hP.outs
  obtain ⟨ao, cap, rfl, ⟨hcap, hlen⟩, hc⟩ := hI
  obtain ⟨lb, lo, rfl, hcc⟩ := hc.resolve_left (by omega)
  obtain ⟨fb, fo, rfl, hff⟩ := hfc.resolve_left (by omega)
  have hof := hx.of
  have hago : r.2 ≤ 32 := hx.ago
  have HV : Hid (lstV l (mkW p k p.flows[k].st r) = (if 0 ≤ plO (findT (thingsL p) r.1) then lateAt l (plO (findT (thingsL p) r.1)) else 0) - (r.2 : Int) + (((if stO (findT (thingsL p) r.1) = p.flows[k].st then 0 else 1 : Nat)) : Int)) := hid rfl
  have hof2 : plO (findT (thingsL p) r.1) < p.flows.length ∧ -1 ≤ plO (findT (thingsL p) r.1) := hof
  clear hof hx hc hfc
  have A2 := hm.at (plO (findT (thingsL p) r.1))
  have f1 : 0 ≤ plO (findT (thingsL p) r.1) → w.cell? ⟨lb, lo + (plO (findT (thingsL p) r.1)).toNat, none⟩ = some (.int .i64 (lateAt l (plO (findT (thingsL p) r.1)))) := fun h => by
    have hlt : (plO (findT (thingsL p) r.1)).toNat < l.length := by omega
    have : lateAt l (plO (findT (thingsL p) r.1)) = l[(plO (findT (thingsL p) r.1)).toNat] := by unfold lateAt; simp [hlt]
    rw [this]; exact hcc _ hlt
  have f2 := (hff k hk).2.2.1
  obtain ⟨w2, hw2⟩ : ∃ w2, w2 = (w.alloc (.cells (pgC p (.slice a0 p.ins.length a1) (.slice (some ⟨fb, fo, none⟩) p.flows.length b1) (.slice c0 p.outs.length c1)) 26)).alloc (.cells #[.string r.1, .int .i64 (r.2 : Int)] 29) := ⟨_, rfl⟩
  have hb2 : Below w.heap.size w w2 := by rw [hw2]; exact ((Below.refl _ w).alloc (Nat.le_refl _) _).alloc (by simp) _
  have h0 : w2.heap[w.heap.size]? = some (.cells (pgC p (.slice a0 p.ins.length a1) (.slice (some ⟨fb, fo, none⟩) p.flows.length b1) (.slice c0 p.outs.length c1)) 26 (0, 0)) := by rw [hw2, Below.heap_alloc _ _ _ (by simp)]; exact heap_alloc_new w _
  have h1 : w2.heap[w.heap.size + 1]? = some (.cells #[.string r.1, .int .i64 (r.2 : Int)] 29 (0, 0)) := by
    rw [hw2]
    have := heap_alloc_new (w.alloc (.cells (pgC p (.slice a0 p.ins.length a1) (.slice (some ⟨fb, fo, none⟩) p.flows.length b1) (.slice c0 p.outs.length c1)) 26)) (.cells #[.string r.1, .int .i64 (r.2 : Int)] 29)
    rwa [World.size_alloc] at this
  obtain ⟨y0, y1, y2, y3⟩ := row4 h0
  have z0 : w2.cell? ⟨w.heap.size + 1, 0, none⟩ = some (.string r.1) := by rw [cell_of_row _ _ _ _ 29 (0, 0) h1]; rfl
  have z1 : w2.cell? ⟨w.heap.size + 1, 1, none⟩ = some (.int .i64 (r.2 : Int)) := by rw [cell_of_row _ _ _ _ 29 (0, 0) h1]; rfl
  have c59 := rfind p r.1 w2 _ _ _ (hP.keep hb2)
  rw [foV_eq] at c59
  have HB2 := hid hb2
  have HF1 := hid f1
  have HF2 := hid f2
  have HY2 := hid y2
  have HZ1 := hid z1
  rw [hw2] at y0 y1 y2 y3 z0 z1
  clear h0 h1 hm hcc hff f1 f2 hP
  generalize stO (findT (thingsL p) r.1) = S at *
  generalize plO (findT (thingsL p) r.1) = O at *
  generalize tyO (findT (thingsL p) r.1) = TY at *
  generalize (findT (thingsL p) r.1).isSome = SO at *
  generalize lstV l (mkW p k p.flows[k].st r) = LV at *
  generalize lateAt l O = LO at *
  generalize p.flows[k].st = T at *
  go_enter Tryd.func35, Tryd.ntmps35
  go_wp2_with (fail)
  rw [← hw2]
  refine c59.mono ?_
  rintro e w3 ⟨rfl, hb3⟩
  have e1 := cell_kept HZ1.out hb3
  have HB3 := hid hb3
  clear hb3
  have hb3 : Below w.heap.size w w3 := HB2.out.trans (HB3.out.mono HB2.out.size)
  have e2 := cell_kept HY2.out HB3.out
  have e3 := cell_kept HF2.out hb3
  have e4 := fun h => cell_kept (HF1.out h) hb3
  have HB := hid hb3
  have k0 : (0 : Int) ≤ (k : Int) := by omega
  have k1 : (k : Int) < (p.flows.length : Int) := by omega
  have q0' : IntKind.i64.wrap (-(r.2 : Int)) = -(r.2 : Int) := by rw [IntKind.wrap_i64]; omega
  have q1 : IntKind.i64.wrap (-(r.2 : Int) + LO) = -(r.2 : Int) + LO := by rw [IntKind.wrap_i64]; omega
  have q2 : IntKind.i64.wrap (-(r.2 : Int) + LO + 1) = -(r.2 : Int) + LO + 1 := by rw [IntKind.wrap_i64]; omega
  have q3 : IntKind.i64.wrap (-(r.2 : Int) + 1) = -(r.2 : Int) + 1 := by rw [IntKind.wrap_i64]; omega
  clear y0 y1 y2 y3 z0 z1 hw2 hb3
  by_cases h : 0 ≤ O
  · have g4 := e4 h
    have o1 : O < (l.length : Int) := by omega
    by_cases hs : S = T
    · have HL : Hid (LV = -(r.2 : Int) + LO) := hid (by rw [HV.out, if_pos h, if_pos hs]; omega)
      clear HV e4
      go_wp2_with (fail)
      go_ret
      exact ⟨by rw [HL.out]; rfl, HB.out⟩
    · have HL : Hid (LV = -(r.2 : Int) + LO + 1) := hid (by rw [HV.out, if_pos h, if_neg hs]; omega)
      have hs' : (S != T) = true := by simpa using hs
      clear HV e4 hs
      go_wp2_with (fail)
      go_ret
      exact ⟨by rw [HL.out]; rfl, HB.out⟩
  · have h' : ¬ O ≥ 0 := by omega
    by_cases hs : S = T
    · have HL : Hid (LV = -(r.2 : Int)) := hid (by rw [HV.out, if_neg h, if_pos hs]; omega)
      clear HV e4
      go_wp2_with (fail)
      go_ret
      exact ⟨by rw [HL.out]; rfl, HB.out⟩
    · have HL : Hid (LV = -(r.2 : Int) + 1) := hid (by rw [HV.out, if_neg h, if_neg hs]; omega)
      have hs' : (S != T) = true := by simpa using hs
      clear HV e4 hs
      go_wp2_with (fail)
      go_ret
      exact ⟨by rw [HL.out]; rfl, HB.out⟩
end Go.Proofs.YtmlapodhpinhmaaDoor.Lex
