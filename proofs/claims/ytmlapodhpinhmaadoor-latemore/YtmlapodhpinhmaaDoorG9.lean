/-
  The walk of LateLeast.
  Bytes, and rows of yes and no, that came in.
  A flow that nobody asks for, behind all others, makes none of them later: plain mathematics.
  A row of flows that is copied, with one more behind it.
  The walk of LateMore.
-/
import Derived.Test.YtmlapodhpinhmaaDoorG8
import Derived.Test.YtmlapodhpinhmaaDoorG7
import Derived.ProofKit
import Derived.OpenShut
import Derived.ShutString
import Derived.ChangeOld
import Derived.SizedLaws
import Derived.Deep.AppendLies
import Derived.Deep.MidRow
import Derived.Maps.AppendAt
namespace Go.Proofs.YtmlapodhpinhmaaDoor.Lex
open Go.ChangeShapes Go.WideShapes Go.ChangeAt Go.RowKit Go.Joins
/-- Bytes that are read. -/
def BAt (w : World) (f : Nat → Nat) (n : Nat) (v : Value) : Prop := ∃ (ao : Option Addr) (cap : Nat), v = .slice ao n cap ∧ n ≤ 140737488355328 ∧ (n = 0 ∨ ∃ b o, ao = some ⟨b, o, none⟩ ∧ ∀ i, i < n → w.cell? ⟨b, o + i, none⟩ = some (.int .u8 (f i : Int)) ∧ f i < 256)
theorem BAt.keep {w w' : World} {f : Nat → Nat} {n : Nat} {v : Value} (h : BAt w f n v) (hb : Below w.heap.size w w') : BAt w' f n v := by
  obtain ⟨ao, cap, e, h1, h2⟩ := h
  exact ⟨ao, cap, e, h1, h2.imp id (fun ⟨b, o, e, h⟩ => ⟨b, o, e, fun i hi => ⟨cell_kept (h i hi).1 hb, (h i hi).2⟩⟩)⟩
/-- A program in its variable, how late its flows are, bytes, the tables. -/
structure LS (w : World) (p : Pg) (A B C : Value) (b : Nat) (l : List Int) (f : Nat → Nat) (n : Nat) (v : Value) (W : World) : Prop where
  row : W.heap[w.heap.size]? = some (.cells (pgC p A B C) 26 (0, 0))
  P : PgAt W p A B C
  lat : Rowl W b l
  len : l.length = p.flows.length
  few : p.flows.length ≤ 1000000
  M : BAt W f n v
  R : TabR W
  J : TabJ W
  below : Below w.heap.size w W
theorem LS.keep {w W W' : World} {p : Pg} {A B C : Value} {b : Nat} {l : List Int} {f : Nat → Nat} {n : Nat} {v : Value} (h : LS w p A B C b l f n v W) (hb : Below W.heap.size W W') : LS w p A B C b l f n v W' :=
  ⟨keep_row h.row hb, h.P.keep hb, keep_row h.lat hb, h.len, h.few, h.M.keep hb, h.R.below hb, h.J.below hb, h.below.trans (hb.mono h.below.size)⟩
theorem LS.ia {w W : World} {p : Pg} {A B C : Value} {b : Nat} {l : List Int} {f : Nat → Nat} {n : Nat} {v : Value} (h : LS w p A B C b l f n v W) : IAt W l (.slice (some ⟨b, 0, none⟩) p.flows.length p.flows.length) := by
  have := h.lat.at (by have := h.len; have := h.few; omega)
  rwa [h.len] at this
/-- What holds of the copy while it is made later. -/
structure ThirdI (l o : List Int) (k N q : Nat) : Prop where
  len : o.length = N
  own : lateAt o k = lateAt l k
  le : ∀ j : Nat, j < N → lateAt l j ≤ lateAt o j
  todo : ∀ j : Nat, q ≤ j → lateAt o j = lateAt l j
set_option maxRecDepth 100000 in
set_option maxHeartbeats 16000000 in
theorem walk4 (p : Pg) (f : Nat → Nat) (n : Nat) (v : Value) (w : World) (A B C : Value) (hP : PgAt w p A B C) (hM : BAt w f n v) (hR : TabR w) (hJ : TabJ w) : Calls Tryd.prog 4 #[pgV p A B C, v] w fun e w' => e = .returned (.bool true) ∧ Below w.heap.size w w' := by
  obtain ⟨A0, A1, rfl, _⟩ := hP.ins
  obtain ⟨B0, B1, SL, rfl, hfl, _, _, hfc, hfs⟩ := hP.flows
  have HFC := hid hfc
  have HFS := hid hfs
  clear hfc hfs
  obtain ⟨C0, C1, rfl, _⟩ := hP.outs
  have X0 := hid (FV.new hP hR hJ)
  have M0 := hid (hM.keep ((Below.refl w.heap.size w).alloc (Nat.le_refl _) (.cells (pgC p (.slice A0 p.ins.length A1) (.slice B0 p.flows.length B1) (.slice C0 p.outs.length C1)) 26)))
  obtain ⟨ma, mc, rfl, hmn, _⟩ := hM
  clear hP hR hJ
  obtain ⟨W0, hW0⟩ : ∃ W0, W0 = w.alloc (.cells (pgC p (.slice A0 p.ins.length A1) (.slice B0 p.flows.length B1) (.slice C0 p.outs.length C1)) 26) := ⟨_, rfl⟩
  rw [← hW0] at X0 M0
  obtain ⟨r0, r1, r2, r3⟩ := row4 X0.out.row
  rw [hW0] at r0 r1 r2 r3
  go_enter Tryd.func4, Tryd.ntmps4
  go_wp2_with (fail)
  rw [← hW0]
  clear hW0 r0 r1 r2 r3
  refine (great p _ _ _ _ X0.out.P).mono ?_
  rintro e w1 ⟨⟨gr, rfl, hgr⟩, hb1⟩
  have X1 := hid (X0.out.keep hb1)
  have M1 := hid (M0.out.keep hb1)
  have HGR := hid hgr
  clear hb1 X0 M0 hgr
  obtain ⟨s0, s1, s2, s3⟩ := row4 X1.out.row
  cases gr with
  | true =>
    go_wp2_with (fail)
    refine (lives _ X1.out.R X1.out.J).mono ?_
    rintro e w2 ⟨rfl, hb2⟩
    have B2 := hid (X1.out.below.trans (hb2.mono X1.out.below.size))
    clear hb2
    go_wp2_with (fail)
    go_ret
    exact ⟨rfl, B2.out⟩
  | false =>
    have hgs := HGR.out rfl
    go_wp2_with (fail)
    refine (of_l p _ _ _ _ X1.out.P X1.out.R X1.out.J).mono ?_
    rintro e w2 ⟨hO, hb2⟩
    have X2 := hid (X1.out.keep hb2)
    have M2 := hid (M1.out.keep hb2)
    clear hb2 X1 M1 s0 s1 s2 s3 HGR
    obtain ⟨s0, s1, s2, s3⟩ := row4 X2.out.row
    rcases hO with ⟨hE, rfl⟩ | ⟨hE, _, rfl⟩ | ⟨l, b, hE, hl, rfl, hbw, hrw, hlen, hfine⟩
    · have hE' : (nmErr p != 0) = true := by simpa using hE
      have cN := (callsIn_wide (n := 20)).1 (names_check p _ _ _ _ X2.out.P X2.out.R X2.out.J)
      clear hE
      generalize nmErr p = E at *
      go_wp2_with (fail)
      refine cN.mono ?_
      rintro e w3 ⟨rfl, hb3⟩
      have X3 := hid (X2.out.keep hb3)
      clear hb3 cN s0 s1 s2 s3 X2
      go_wp2_with (fail)
      refine (lives _ X3.out.R X3.out.J).mono ?_
      rintro e w4 ⟨rfl, hb4⟩
      have B4 := hid (X3.out.below.trans (hb4.mono X3.out.below.size))
      clear hb4
      go_wp2_with (fail)
      go_ret
      exact ⟨rfl, B4.out⟩
    · have cN := (callsIn_wide (n := 20)).1 (names_check p _ _ _ _ X2.out.P X2.out.R X2.out.J)
      rw [hE] at cN
      have HE := hid hE
      clear hE
      go_wp2_with (fail)
      refine cN.mono ?_
      rintro e w3 ⟨rfl, hb3⟩
      have X3 := hid (X2.out.keep hb3)
      clear hb3 cN s0 s1 s2 s3 X2
      obtain ⟨s0, s1, s2, s3⟩ := row4 X3.out.row
      have cN := (callsIn_wide (n := 20)).1 (names_check p _ _ _ _ X3.out.P X3.out.R X3.out.J)
      rw [HE.out] at cN
      go_wp2_with (fail)
      refine cN.mono ?_
      rintro e w4 ⟨rfl, hb4⟩
      have X4 := hid (X3.out.keep hb4)
      clear hb4 cN s0 s1 s2 s3 X3
      go_wp2_with (fail)
      refine (lives _ X4.out.R X4.out.J).mono ?_
      rintro e w5 ⟨rfl, hb5⟩
      have B5 := hid (X4.out.below.trans (hb5.mono X4.out.below.size))
      clear hb5
      go_wp2_with (fail)
      go_ret
      exact ⟨rfl, B5.out⟩
    · obtain ⟨hok, _, hti, _⟩ := of_late hE hl hfine
      have L2 := hid (LS.mk X2.out.row X2.out.P hrw hlen (by omega) M2.out X2.out.R X2.out.J X2.out.below : LS w p _ _ _ b l f n _ w2)
      have HE := hid hE
      have HOK := hid hok
      have HTI := hid hti
      have HFI := hid hfine
      have HBW := hid hbw
      have HLEN := hid hlen
      clear hE hl hok hti hfine hbw hrw X2 M2 hlen
      go_wp2_with (fail)
      refine ((callsIn_wide (n := 20)).1 (check_ p l _ _ _ _ _ L2.out.P L2.out.ia L2.out.R L2.out.J)).mono ?_
      rintro e w3 ⟨rfl, hb3⟩
      rw [HOK.out]
      have L3 := hid (L2.out.keep hb3)
      clear hb3 L2 s0 s1 s2 s3
      obtain ⟨s0, s1, s2, s3⟩ := row4 L3.out.row
      go_wp2_with (fail)
      clear s0 s1 s2 s3
      go_loopw [7] (fun i wr => ∃ k : Nat, k ≤ p.flows.length ∧ i = .int .i64 (k : Int) ∧ Hid (LS w p (.slice A0 p.ins.length A1) (.slice B0 p.flows.length B1) (.slice C0 p.outs.length C1) b l f n (.slice ma n mc) wr)) (fun i _ => p.flows.length - (intOf i).toNat)
      case atStart => exact ⟨0, Nat.zero_le _, rfl, L3⟩
      case round =>
        obtain ⟨k, hk, rfl, LW⟩ := hrel
        by_cases hkl : k < p.flows.length
        · have hkl' : (k : Int) < (p.flows.length : Int) := by omega
          have hk0 : (0 : Int) ≤ (k : Int) := by omega
          obtain ⟨fb, fo, rfl, hcc⟩ := HFC.out.resolve_left (by omega)
          have FX := (hcc k hkl).keep LW.out.below
          have hSt := (HFS.out k hkl).keep LW.out.below
          obtain ⟨a3, c3, _, e3, _⟩ := (HFS.out k hkl).out
          rw [e3] at FX hSt
          have hnm := chk_nm (nm_chk HE.out _ (List.getElem_mem hkl))
          have HAT : Hid (∀ r ∈ gat 32 p.flows[k].body 0 [], ∃ a : Int, ageF p l k r.1 r.2 = (a, 0) ∧ 0 ≤ a) := hid (fun r hr => age_there HOK.out hkl hr)
          have hGl : (gat 32 p.flows[k].body 0 []).length ≤ 1000000 := by have h1 := gat_len 32 p.flows[k].body 0 []; have h2 := hnm.2; simp at h1; omega
          obtain ⟨q0, q1, q2, q3, q4, q5, q6, q7⟩ := FX
          obtain ⟨s0, s1, s2, s3⟩ := row4 LW.out.row
          have c19 := refs 32 p.flows[k].body _ _ hSt hnm.1 (by omega) (by omega)
          clear hcc e3 hSt hnm
          generalize p.flows[k].body = y at *
          generalize gat 32 y 0 [] = G at *
          go_wp2_with (fail)
          refine c19.mono ?_
          rintro e w4 ⟨rv, rfl, hrow, hb4⟩
          obtain ⟨ra, rc, rfl, hrf⟩ := RfAt.of_own hrow
          have L4 := hid (LW.out.keep hb4)
          have HRF := hid hrf
          clear hrow hrf hb4 c19 q0 q1 q2 q3 q4 q5 q6 q7 s0 s1 s2 s3
          go_wp2_with (fail)
          go_loopw [9] (fun j vr => ∃ m : Nat, m ≤ G.length ∧ j = .int .i64 (m : Int) ∧ Hid (Below w4.heap.size w4 vr)) (fun j _ => G.length - (intOf j).toNat)
          case atStart => exact ⟨0, Nat.zero_le _, rfl, hid (Below.refl _ _)⟩
          case round =>
            obtain ⟨m, hm, rfl, HBV⟩ := hrel
            obtain ⟨vr, rfl⟩ : ∃ vr, vr = wr := ⟨_, rfl⟩
            have XR := hid (L4.out.keep HBV.out)
            by_cases hml : m < G.length
            · have hml' : (m : Int) < (G.length : Int) := by omega
              have hm0 : (0 : Int) ≤ (m : Int) := by omega
              obtain ⟨g, rfl, hcc⟩ := HRF.out.resolve_left (by omega)
              have u0 := cell_kept (hcc m hml).1 HBV.out
              have u1 := cell_kept (hcc m hml).2 HBV.out
              obtain ⟨ag, hag, hag0⟩ := HAT.out _ (List.getElem_mem hml)
              obtain ⟨s0, s1, s2, s3⟩ := row4 XR.out.row
              clear hcc
              generalize G[m] = z at *
              go_wp2_with (fail)
              refine wp_region_held_drew (S := fun W => W.cell? ⟨w.heap.size, 0, none⟩ = some (.int .i64 p.st) ∧ W.cell? ⟨w.heap.size, 1, none⟩ = some (.slice A0 p.ins.length A1) ∧ W.cell? ⟨w.heap.size, 2, none⟩ = some (.slice (some ⟨fb, fo, none⟩) p.flows.length B1) ∧ W.cell? ⟨w.heap.size, 3, none⟩ = some (.slice C0 p.outs.length C1) ∧ W.cell? ⟨g, m * 2, none⟩ = some (.string z.1) ∧ W.cell? ⟨g, m * 2 + 1, none⟩ = some (.int .i64 (z.2 : Int))) (by kernel_rfl) ?_ (fun hHeld => ?_)
              · exact ⟨s0, s1, s2, s3, u0, u1⟩
              refine wpAnyH_take (i := 0) (oi := { dst := some 77, op := Go.Op.load 26 (Go.Operand.tmp 2), type := 26, pos := _, after := #[], guard := none }) (v := ?_) rfl (by kernel_rfl) (by kernel_rfl) (by kernel_rfl) (fun _ _ _ h => h) (Or.inl ⟨by rfl, ?_⟩) (by assumption) ?_
              rotate_left
              · intro w hSw; (try dsimp only at hSw); go_simp <;> first | with_reducible rfl | (rw [if_neg (by first | omega | (simp only [ByteArray.size_append] at *; omega))])
              simp only [Act.put, List.setIfInBounds_toArray, List.set_cons_zero, List.set_cons_succ]
              refine wpAnyH_take (i := 1) (oi := { dst := some 78, op := Go.Op.move (Go.Operand.tmp 5), type := 27, pos := _, after := #[], guard := none }) (v := ?_) rfl (by kernel_rfl) (by kernel_rfl) (by kernel_rfl) (fun _ _ _ h => h) (Or.inl ⟨by rfl, ?_⟩) (by assumption) ?_
              rotate_left
              · intro w hSw; (try dsimp only at hSw); go_simp <;> first | with_reducible rfl | (rw [if_neg (by first | omega | (simp only [ByteArray.size_append] at *; omega))])
              simp only [Act.put, List.setIfInBounds_toArray, List.set_cons_zero, List.set_cons_succ]
              refine wpAnyH_take (i := 2) (oi := { dst := some 79, op := Go.Op.move (Go.Operand.tmp 7), type := 3, pos := _, after := #[], guard := none }) (v := ?_) rfl (by kernel_rfl) (by kernel_rfl) (by kernel_rfl) (fun _ _ _ h => h) (Or.inl ⟨by rfl, ?_⟩) (by assumption) ?_
              rotate_left
              · intro w hSw; (try dsimp only at hSw); go_simp <;> first | with_reducible rfl | (rw [if_neg (by first | omega | (simp only [ByteArray.size_append] at *; omega))])
              simp only [Act.put, List.setIfInBounds_toArray, List.set_cons_zero, List.set_cons_succ]
              refine wpAnyH_take (i := 3) (oi := { dst := some 80, op := Go.Op.move (Go.Operand.tmp 8), type := 47, pos := _, after := #[], guard := none }) (v := ?_) rfl (by kernel_rfl) (by kernel_rfl) (by kernel_rfl) (fun _ _ _ h => h) (Or.inl ⟨by rfl, ?_⟩) (by assumption) ?_
              rotate_left
              · intro w hSw; (try dsimp only at hSw); go_simp <;> first | with_reducible rfl | (rw [if_neg (by first | omega | (simp only [ByteArray.size_append] at *; omega))])
              simp only [Act.put, List.setIfInBounds_toArray, List.set_cons_zero, List.set_cons_succ]
              refine wpAnyH_take (i := 4) (oi := { dst := some 81, op := Go.Op.move (Go.Operand.tmp 9), type := 3, pos := _, after := #[], guard := none }) (v := ?_) rfl (by kernel_rfl) (by kernel_rfl) (by kernel_rfl) (fun _ _ _ h => h) (Or.inl ⟨by rfl, ?_⟩) (by assumption) ?_
              rotate_left
              · intro w hSw; (try dsimp only at hSw); go_simp <;> first | with_reducible rfl | (rw [if_neg (by first | omega | (simp only [ByteArray.size_append] at *; omega))])
              simp only [Act.put, List.setIfInBounds_toArray, List.set_cons_zero, List.set_cons_succ]
              refine wpAnyH_take (i := 5) (oi := { dst := some 82, op := Go.Op.indexAddr 47 (Go.Operand.tmp 80) (Go.Operand.tmp 81), type := 0, pos := _, after := #[{ on := 3, ground := Go.Ground.data }, { on := 4, ground := Go.Ground.data }], guard := none }) (v := ?_) rfl (by kernel_rfl) (by kernel_rfl) (by kernel_rfl) (fun _ _ _ h => h) (Or.inl ⟨by rfl, ?_⟩) (by assumption) ?_
              rotate_left
              · intro w hSw; (try dsimp only at hSw); go_simp <;> first | with_reducible rfl | (rw [if_neg (by first | omega | (simp only [ByteArray.size_append] at *; omega))])
              simp only [Act.put, List.setIfInBounds_toArray, List.set_cons_zero, List.set_cons_succ]
              refine wpAnyH_take (i := 6) (oi := { dst := some 83, op := Go.Op.load 29 (Go.Operand.tmp 82), type := 29, pos := _, after := #[{ on := 5, ground := Go.Ground.data }], guard := none }) (v := ?_) rfl (by kernel_rfl) (by kernel_rfl) (by kernel_rfl) (fun _ _ _ h => h) (Or.inl ⟨by rfl, ?_⟩) (by assumption) ?_
              rotate_left
              · intro w hSw; (try dsimp only at hSw); go_simp <;> first | with_reducible rfl | (rw [if_neg (by first | omega | (simp only [ByteArray.size_append] at *; omega))])
              simp only [Act.put, List.setIfInBounds_toArray, List.set_cons_zero, List.set_cons_succ]
              refine wpAnyH_ready (rs := [7]) (by kernel_rfl) (by simp) ?_
              refine AllReadyH.cons (o := { dst := some 84, op := Go.Op.call { callee := Go.Callee.value (Go.Operand.func 11), args := #[Go.Operand.tmp 77, Go.Operand.tmp 78, Go.Operand.tmp 79, Go.Operand.tmp 83], argTypes := #[26, 27, 3, 29] }, type := 37, pos := _, after := #[{ on := 0, ground := Go.Ground.data }, { on := 1, ground := Go.Ground.data }, { on := 2, ground := Go.Ground.data }, { on := 6, ground := Go.Ground.data }], guard := none }) rfl (fun K hK => ?_) AllReadyH.nil
              go_simp
              refine ((callsIn_wide (n := 22)).1 (age_f p l _ _ _ _ _ _ _ _ (XR.out.P.keep (Below.refl _ _).drew) (XR.out.ia.keep (Below.refl _ _).drew) (XR.out.R.below (Below.refl _ _).drew) (XR.out.J.below (Below.refl _ _).drew))).mono ?_
              rintro e v4 ⟨rfl, hb4⟩
              rw [hag]
              have hb4' := (Below.refl vr.heap.size vr).drew.trans (hb4.mono (Nat.le_refl _))
              have X4 := hid (XR.out.keep hb4')
              have HB4 := hid hb4'
              obtain ⟨n0, n1, n2, n3⟩ := row4 X4.out.row
              have n4 := cell_kept u0 hb4'
              have n5 := cell_kept u1 hb4'
              clear hb4 hb4'
              go_wp2_with fail
              refine hK.out _ _ ?_ (fun hHeld1 => ?_)
              · exact ⟨n0, n1, n2, n3, n4, n5⟩
              clear hK K
              refine wpAnyH_take (i := 8) (oi := { dst := some 76, op := Go.Op.move (Go.Operand.tmp 84), type := 37, pos := _, after := #[{ on := 7, ground := Go.Ground.data }], guard := none }) (v := ?_) rfl (by kernel_rfl) (by kernel_rfl) (by kernel_rfl) (fun _ _ _ h => h) (Or.inl ⟨by rfl, ?_⟩) (by assumption) ?_
              rotate_left
              · intro w hSw; (try dsimp only at hSw); go_simp <;> first | with_reducible rfl | (rw [if_neg (by first | omega | (simp only [ByteArray.size_append] at *; omega))])
              simp only [Act.put, List.setIfInBounds_toArray, List.set_cons_zero, List.set_cons_succ]
              refine wpAnyH_take (i := 9) (oi := { dst := some 85, op := Go.Op.extract (Go.Operand.tmp 76) 0, type := 3, pos := _, after := #[{ on := 8, ground := Go.Ground.data }], guard := none }) (v := ?_) rfl (by kernel_rfl) (by kernel_rfl) (by kernel_rfl) (fun _ _ _ h => h) (Or.inl ⟨by rfl, ?_⟩) (by assumption) ?_
              rotate_left
              · intro w hSw; (try dsimp only at hSw); go_simp <;> first | with_reducible rfl | (rw [if_neg (by first | omega | (simp only [ByteArray.size_append] at *; omega))])
              simp only [Act.put, List.setIfInBounds_toArray, List.set_cons_zero, List.set_cons_succ]
              refine wpAnyH_take (i := 10) (oi := { dst := some 86, op := Go.Op.extract (Go.Operand.tmp 76) 1, type := 36, pos := _, after := #[{ on := 8, ground := Go.Ground.data }, { on := 11, ground := Go.Ground.gcOnly Go.Departure.lateStores }], guard := none }) (v := ?_) rfl (by kernel_rfl) (by kernel_rfl) (by kernel_rfl) (fun _ _ _ h => h) (Or.inl ⟨by rfl, ?_⟩) (by assumption) ?_
              rotate_left
              · intro w hSw; (try dsimp only at hSw); go_simp <;> first | with_reducible rfl | (rw [if_neg (by first | omega | (simp only [ByteArray.size_append] at *; omega))])
              simp only [Act.put, List.setIfInBounds_toArray, List.set_cons_zero, List.set_cons_succ]
              refine wpAnyH_take (i := 11) (oi := { dst := some 10, op := Go.Op.assign (Go.Operand.tmp 85), type := 3, pos := _, after := #[{ on := 9, ground := Go.Ground.data }, { on := 7, ground := Go.Ground.chain }, { on := 0, ground := Go.Ground.phase }, { on := 1, ground := Go.Ground.phase }, { on := 2, ground := Go.Ground.phase }, { on := 3, ground := Go.Ground.phase }, { on := 4, ground := Go.Ground.phase }, { on := 5, ground := Go.Ground.phase }, { on := 6, ground := Go.Ground.phase }, { on := 7, ground := Go.Ground.phase }, { on := 8, ground := Go.Ground.phase }, { on := 9, ground := Go.Ground.phase }, { on := 10, ground := Go.Ground.textOnly Go.Departure.lateStores }], guard := none }) (v := ?_) rfl (by kernel_rfl) (by kernel_rfl) (by kernel_rfl) (fun _ _ _ h => h) (Or.inl ⟨by rfl, ?_⟩) (by assumption) ?_
              rotate_left
              · intro w hSw; (try dsimp only at hSw); go_simp <;> first | with_reducible rfl | (rw [if_neg (by first | omega | (simp only [ByteArray.size_append] at *; omega))])
              simp only [Act.put, List.setIfInBounds_toArray, List.set_cons_zero, List.set_cons_succ]
              refine wpAnyH_take (i := 12) (oi := { dst := some 11, op := Go.Op.assign (Go.Operand.tmp 86), type := 36, pos := _, after := #[{ on := 10, ground := Go.Ground.data }, { on := 11, ground := Go.Ground.chain }, { on := 0, ground := Go.Ground.phase }, { on := 1, ground := Go.Ground.phase }, { on := 2, ground := Go.Ground.phase }, { on := 3, ground := Go.Ground.phase }, { on := 4, ground := Go.Ground.phase }, { on := 5, ground := Go.Ground.phase }, { on := 6, ground := Go.Ground.phase }, { on := 7, ground := Go.Ground.phase }, { on := 8, ground := Go.Ground.phase }, { on := 9, ground := Go.Ground.phase }, { on := 10, ground := Go.Ground.phase }, { on := 11, ground := Go.Ground.phase }], guard := none }) (v := ?_) rfl (by kernel_rfl) (by kernel_rfl) (by kernel_rfl) (fun _ _ _ h => h) (Or.inl ⟨by rfl, ?_⟩) (by assumption) ?_
              rotate_left
              · intro w hSw; (try dsimp only at hSw); go_simp <;> first | with_reducible rfl | (rw [if_neg (by first | omega | (simp only [ByteArray.size_append] at *; omega))])
              simp only [Act.put, List.setIfInBounds_toArray, List.set_cons_zero, List.set_cons_succ]
              refine wpAnyH_done (by kernel_rfl) ?_ _
              clear n0 n1 n2 n3 n4 n5 s0 s1 s2 s3 u0 u1
              have hd : decide (ag < 0) = false := by simp; omega
              go_wp2_with (fail)
              go_roundw
              case rel => exact ⟨m + 1, by omega, by go_num, hid (HBV.out.trans (HB4.out.mono HBV.out.size))⟩
              case measure => simp [intOf]; omega
            · have hml' : ¬ (m : Int) < (G.length : Int) := by omega
              clear HRF HAT hm
              obtain ⟨i0, hi, hz0, hz1, hz2⟩ := info_parts infI
              have hsrc : ∀ j u, (ints l)[j]? = some u → vr.cell? ((⟨b, 0, none⟩ : Addr).add j) = some u := fun j u hj => by
                have hjl : j < l.length := by
                  rcases Nat.lt_or_ge j l.length with h | h
                  · exact h
                  · rw [List.getElem?_eq_none (by rw [ints_len]; exact h)] at hj; cases hj
                rw [ints_at l j hjl] at hj
                obtain rfl := Option.some.inj hj
                have hadd : (⟨b, 0, none⟩ : Addr).add j = ⟨b, j, none⟩ := by unfold Addr.add; split <;> simp_all
                rw [hadd, lateAt_nat l j hjl]
                exact XR.out.lat.cell j hjl
              have HSRC := hid hsrc
              have hone : ∀ u ∈ ints l, u.oneCell' = true := fun u hu => by obtain ⟨x, _, rfl⟩ := List.mem_map.1 hu; rfl
              have HONE := hid hone
              have hil : (ints l).length = p.flows.length * 1 := by rw [ints_len, HLEN.out]; omega
              have HIL := hid hil
              have HFEW := hid XR.out.few
              clear hsrc hone hil
              go_wp2_with
                (at_builtin
                 refine wpList_append_own _ rfl _ _ 27 rfl vr.heap.size 3 i0 (.int .i64 0) 1 8 Tryd.underlying27 hi hz0 hz1 hz2 rfl (by decide) (.slice none 0 0) 0 [] rfl ⟨rfl, .inl ⟨rfl, rfl⟩⟩ ⟨b, 0, none⟩ p.flows.length p.flows.length (ints l) rfl HIL.out HSRC.out HONE.out (by have := HFEW.out; unfold maxLen; omega) (by have := HFEW.out; omega) (Nat.le_refl _) ?_
                 intro v5 w5 hown hgrow _
                 rw [Nat.zero_add, List.nil_append] at hown
                 have hlv := hgrow
                 have HOWN := hid hown
                 have HGR := hid hgrow
                 clear hown hgrow hlv)
              have hN : 0 < p.flows.length := by omega
              have hfull : ∃ ob oc, v5 = .slice (some ⟨ob, 0, none⟩) p.flows.length oc ∧ vr.heap.size ≤ ob := by
                rcases HOWN.out.2 with ⟨_, h0⟩ | ⟨gg, cap, cur, h1, h2, _⟩
                · omega
                · exact ⟨gg, cap, h1, h2⟩
              obtain ⟨ob, oc, rfl, hob⟩ := hfull
              have hb5 : Below vr.heap.size vr w5 := (Below.refl vr.heap.size vr).grown HGR.out (Nat.le_refl _) (fun k e => by cases e)
              have HB5 := hid hb5
              have hOW : OwI w5 vr.heap.size (.slice (some ⟨ob, 0, none⟩) p.flows.length oc) l := by unfold OwI; rw [HLEN.out]; exact HOWN.out
              have OW5 := hid hOW
              clear hi hz0 hz1 hz2 hOW HSRC HONE HIL HOWN HGR hb5 HBV
              go_wp2_with (fail)
              go_loopw [13] (fun j ur => ∃ (q : Nat) (o : List Int), q ≤ p.flows.length ∧ j = .int .i64 (q : Int) ∧ Hid (Below vr.heap.size vr ur) ∧ Hid (OwI ur vr.heap.size (.slice (some ⟨ob, 0, none⟩) p.flows.length oc) o) ∧ Hid (ThirdI l o k p.flows.length q)) (fun j _ => p.flows.length - (intOf j).toNat)
              case atStart => exact ⟨0, l, Nat.zero_le _, rfl, HB5, OW5, hid ⟨HLEN.out, rfl, fun j _ => Int.le_refl _, fun j hj => rfl⟩⟩
              case round =>
                obtain ⟨q, o, hq, rfl, HBQ, OQ, TQ⟩ := hrel
                obtain ⟨ur, rfl⟩ : ∃ ur, ur = wr := ⟨_, rfl⟩
                have LQ := hid (XR.out.keep HBQ.out)
                by_cases hql : q < p.flows.length
                · have hql' : (q : Int) < (p.flows.length : Int) := by omega
                  have hq0 : (0 : Int) ≤ (q : Int) := by omega
                  have HTL := hid TQ.out.len
                  have OQ2 : OwI ur vr.heap.size (.slice (some ⟨ob, 0, none⟩) o.length oc) o := by rw [HTL.out]; exact OQ.out
                  have hqo : q < o.length := by rw [HTL.out]; exact hql
                  obtain ⟨x0, x1⟩ := OQ2.cell q hqo
                  have HOQ := hid OQ2
                  clear OQ2 hqo
                  by_cases hqn : q < n
                  · have hqn' : (q : Int) < (n : Int) := by omega
                    by_cases hqk : q = k
                    · have hqk' : ((q : Int) != (k : Int)) = false := by simp [hqk]
                      have HT2 : Hid (ThirdI l o k p.flows.length (q + 1)) := hid ⟨TQ.out.len, TQ.out.own, TQ.out.le, fun j hj => TQ.out.todo j (by omega)⟩
                      clear hqk
                      go_wp2_with (fail)
                      go_roundw
                      case rel => exact ⟨q + 1, o, by omega, by go_num, HBQ, OQ, HT2⟩
                      case measure => simp [intOf]; omega
                    · have hqk' : ((q : Int) != (k : Int)) = true := by simp; omega
                      obtain ⟨mao, mac, hme, _, hmc⟩ := LQ.out.M
                      injection hme with hm1 _ hm3
                      subst hm1 hm3
                      obtain ⟨mb, mo, rfl, hmcc⟩ := hmc.resolve_left (by omega)
                      obtain ⟨y0, y1⟩ := hmcc q hqn
                      have hfb := HFI.out.at (q : Int)
                      rw [TQ.out.todo q (Nat.le_refl _)] at x0
                      have HNE := hid hqk
                      clear hmc hmcc hqk
                      generalize hF : lateAt l (q : Int) = F at x0 hfb
                      have HF := hid hF
                      clear hF
                      generalize f q = fq at y0 y1
                      have hq1 : IntKind.i64.wrap (F + ((fq % 3 : Nat) : Int)) = F + ((fq % 3 : Nat) : Int) := by rw [IntKind.wrap_i64]; omega
                      go_wp2_with (fail)
                      have hqo2 : q < o.length := by rw [HTL.out]; exact hql
                      have HT2 : Hid (ThirdI l (o.set q (F + (fq : Int) % 3)) k p.flows.length (q + 1)) := hid ⟨by rw [List.length_set]; exact TQ.out.len, by rw [lateAt_set o q _ _ hqo2, if_neg (by have := HNE.out; simpa using fun h => this h.symm)]; exact TQ.out.own, fun j hj => by
                        rw [lateAt_set o q _ _ hqo2]
                        split
                        · rename_i e
                          have e : j = q := by simpa using e
                          rw [e, HF.out]
                          omega
                        · exact TQ.out.le j hj, fun j hj => by rw [lateAt_set o q _ _ hqo2, if_neg (by simp; omega)]; exact TQ.out.todo j (by omega)⟩
                      have hput := HOQ.out.put q (F + (fq : Int) % 3)
                      rw [HTL.out] at hput
                      have HPUT : Hid (OwI (ur.setCell ⟨ob, q, none⟩ (.int .i64 (F + (fq : Int) % 3))).drew vr.heap.size (.slice (some ⟨ob, 0, none⟩) p.flows.length oc) (o.set q (F + (fq : Int) % 3))) := hid (hput.step (Below.refl _ _).drew)
                      have HBP := hid ((HBQ.out.setCell (p := ⟨ob, q, none⟩) hob (.int .i64 (F + (fq : Int) % 3))).drew)
                      clear hput hqo2 TQ OQ
                      go_region
                      go_wp2_with (fail)
                      go_roundw
                      case rel => exact ⟨q + 1, _, by omega, by go_num, HBP, HPUT, HT2⟩
                      case measure => simp [intOf]; omega
                  · have hqn' : ¬ (q : Int) < (n : Int) := by omega
                    have HT2 : Hid (ThirdI l o k p.flows.length (q + 1)) := hid ⟨TQ.out.len, TQ.out.own, TQ.out.le, fun j hj => TQ.out.todo j (by omega)⟩
                    go_wp2_with (fail)
                    go_roundw
                    case rel => exact ⟨q + 1, o, by omega, by go_num, HBQ, OQ, HT2⟩
                    case measure => simp [intOf]; omega
                · have hql' : ¬ (q : Int) < (p.flows.length : Int) := by omega
                  have hqe : q = p.flows.length := by omega
                  have HTL := hid TQ.out.len
                  have OQ2 : OwI ur vr.heap.size (.slice (some ⟨ob, 0, none⟩) o.length oc) o := by rw [HTL.out]; exact OQ.out
                  have hko : k < o.length := by rw [HTL.out]; exact hkl
                  obtain ⟨x0, x1⟩ := OQ2.cell k hko
                  have HKL := hid (show k < l.length by rw [HLEN.out]; exact hkl)
                  have z0 := LQ.out.lat.cell k HKL.out
                  rw [← lateAt_nat l k HKL.out] at z0
                  have hfb := HFI.out.at (k : Int)
                  have HOQ := hid OQ2
                  have HTQ := hid TQ.out
                  have B6 := HBQ.out.setCell (p := ⟨ob, k, none⟩) hob (.int .i64 (lateAt l (k : Int) - 1))
                  have L6 := hid (XR.out.keep B6)
                  obtain ⟨s0, s1, s2, s3⟩ := row4 L6.out.row
                  have OP := OQ2.put k (lateAt l (k : Int) - 1)
                  have hno : lateOk p (o.set k (lateAt l (k : Int) - 1)) = false := by
                    refine less_not HE.out HTI.out HLEN.out HKL.out (by rw [List.length_set, HTL.out, HLEN.out]) ?_ (fun j hj => ?_)
                    · rw [lateAt_set o k _ _ hko, if_pos (by simp)]
                    · rw [lateAt_set o k _ _ hko, if_neg (by simpa using hj)]
                      rcases Nat.lt_or_ge j p.flows.length with h | h
                      · exact TQ.out.le j h
                      · rw [TQ.out.todo j (by omega)]
                        exact Int.le_refl _
                  have hia : IAt (ur.setCell ⟨ob, k, none⟩ (.int .i64 (lateAt l (k : Int) - 1))) (o.set k (lateAt l (k : Int) - 1)) (.slice (some ⟨ob, 0, none⟩) p.flows.length oc) := by
                    have h1 : OwI (ur.setCell ⟨ob, k, none⟩ (.int .i64 (lateAt l (k : Int) - 1))) vr.heap.size (.slice (some ⟨ob, 0, none⟩) p.flows.length oc) (o.set k (lateAt l (k : Int) - 1)) := by
                      rw [← HTL.out]; exact OP
                    exact h1.at (by rw [List.length_set, HTL.out]; exact XR.out.few)
                  have cC := (callsIn_wide (n := 20)).1 (check_ p (o.set k (lateAt l (k : Int) - 1)) _ _ _ _ _ L6.out.P hia L6.out.R L6.out.J)
                  rw [hno] at cC
                  clear OQ2 hko hqe hq OQ TQ HOQ HTQ OP hno hia B6
                  have HBQ2 := hid (HBQ.out.setCell (p := ⟨ob, k, none⟩) hob (.int .i64 (lateAt l (k : Int) - 1)))
                  generalize lateAt l (k : Int) = F at *
                  have hw1 : wrap64 (F - 1) = F - 1 := wrap_in (by omega) (by omega)
                  go_wp2_with (fail)
                  refine cC.mono ?_
                  rintro e w6 ⟨rfl, hb6⟩
                  have L7 := hid (L6.out.keep hb6)
                  clear hb6 cC s0 s1 s2 s3 x0 x1 z0
                  go_wp2_with (fail)
                  go_roundw
                  case rel => exact ⟨k + 1, by omega, by go_num, L7⟩
                  case measure => simp [intOf]; omega
        · have hkl' : ¬ (k : Int) < (p.flows.length : Int) := by omega
          go_wp2_with (fail)
          refine (lives _ LW.out.R LW.out.J).mono ?_
          rintro e w5 ⟨rfl, hb5⟩
          have B5 := hid (LW.out.below.trans (hb5.mono LW.out.below.size))
          clear hb5
          go_wp2_with (fail)
          go_ret
          exact ⟨rfl, B5.out⟩
end Go.Proofs.YtmlapodhpinhmaaDoor.Lex
namespace Go.Proofs.YtmlapodhpinhmaaDoor.Lex
open Go.ChangeShapes Go.WideShapes Go.ChangeAt Go.RowKit Go.Joins
/-- Bytes that came in. -/
def Came (w : World) (a : Option Addr) (len : Nat) (l : List Int) : Prop :=
  l.length = len ∧ len ≤ 140737488355328 ∧ (∀ i, i < len → 0 ≤ l.getD i 0 ∧ l.getD i 0 < 256) ∧ (len = 0 ∨ ∃ b o, a = some ⟨b, o, none⟩ ∧ ∀ i, i < len → w.cell? ⟨b, o + i, none⟩ = some (.int .u8 (l.getD i 0)))
theorem bytesOf5 : Tryd.prog.bytesOf 5 = 1 := by kernel_rfl
theorem cellsOf5 : Tryd.prog.cellsOf 5 = 1 := by kernel_rfl
theorem byte_wf {n : Int} (h : (Lit.int .u8 n).wf = true) : 0 ≤ n ∧ n < 256 := by
  simp [Lit.wf, IntKind.min, IntKind.max, IntKind.signed, IntKind.bits] at h
  omega
theorem nat_c {n : Int} (h : (Lit.int .u8 n).wf = true) : ∃ k : Nat, k < 2 ^ 8 ∧ n = k := by
  simp [Lit.wf, IntKind.min, IntKind.max, IntKind.signed, IntKind.bits] at h
  exact ⟨n.toNat, by omega, by omega⟩
theorem getD_mem' (l : List Int) (k : Nat) (h : k < l.length) : l.getD k 0 ∈ l := by
  simp [h]
/-- A []uint8 that came in, opened once. -/
theorem view {H : Type} {enc : TypeId × Value → H} {W : World} {a0 : Option Addr} {len cap fuel : Nat} {d : DataW H} {p : List MemPlace} {ts : List TypeId} {ds : List (DataW H)} {j : Nat}
    (hf : DataW.trod enc Tryd.prog W 0 (fun _ => true) true fuel 43 [.slice a0 len cap] = some (d, p))
    (hsz : (DataW.weightsEach Tryd.prog ts ds).all (· ≤ reachBytes) = true) (ht : ts[j]? = some 43) (hj : ds[j]? = some d) : ∃ l, Came W a0 len l ∧ len ≤ cap := by
  rcases open_ints Tryd.underlying43 Tryd.underlying5 cellsOf5 hf with ⟨hcs, hx⟩ | ⟨a, len', cap', zs, hcs, _, hl, hm, hz, hx, hcell, hwz⟩
  · simp at hcs
    obtain ⟨rfl, rfl, rfl⟩ := hcs
    exact ⟨[], ⟨rfl, by omega, fun i hi => by omega, .inl rfl⟩, Nat.le_refl _⟩
  · simp at hcs
    obtain ⟨rfl, rfl, rfl⟩ := hcs
    simp only [Prod.mk.injEq] at hx
    obtain ⟨rfl, _⟩ := hx
    simp only [if_true] at hz
    have hr := sized_slice hsz ht hj Tryd.underlying43
    rw [bytesOf5] at hr
    simp only [lits, List.length_map, List.length_take, List.length_drop, reachBytes] at hr
    have hg : ∀ i, i < len → (zs.take len).getD i 0 = zs.getD i 0 := fun i hi => by simp [List.getD, hi]
    refine ⟨zs.take len, ⟨by simp; omega, by omega, fun i hi => ?_, ?_⟩, hl⟩
    · rw [hg i hi]
      exact byte_wf (hwz _ (getD_mem' zs i (by omega)))
    · by_cases h0 : len = 0
      · exact .inl h0
      · obtain ⟨b, o, sp⟩ := a
        have hsp : sp = none := by simpa [Addr.add] using World.cell?_spot (hcell 0 (by omega))
        subst hsp
        refine .inr ⟨b, o, rfl, fun i hi => ?_⟩
        rw [hg i hi, ← Addr.add_mid]
        exact hcell i (by omega)
theorem Came.bat {w : World} {a : Option Addr} {len cap : Nat} {l : List Int} (h : Came w a len l) : BAt w (fun i => (l.getD i 0).toNat) len (.slice a len cap) := by
  obtain ⟨_, h2, h3, h4⟩ := h
  refine ⟨a, cap, rfl, h2, h4.imp id (fun ⟨b, o, e, hc⟩ => ⟨b, o, e, fun i hi => ?_⟩)⟩
  have := h3 i hi
  refine ⟨?_, by show (l.getD i 0).toNat < 256; omega⟩
  rw [hc i hi]
  show some (Value.int .u8 (l.getD i 0)) = some (Value.int .u8 (((l.getD i 0).toNat : Nat) : Int))
  rw [Int.toNat_of_nonneg this.1]
end Go.Proofs.YtmlapodhpinhmaaDoor.Lex
namespace Go.Proofs.YtmlapodhpinhmaaDoor.Lex
abbrev nmE (s : ByteArray) : Ex := ⟨3, 0, s, []⟩
abbrev moreF (st : Int) (s : ByteArray) : Fl := ⟨⟨#[109, 111, 114, 101]⟩, 1, st, 0, nmE s⟩
abbrev moreP (p : Pg) (st : Int) (s : ByteArray) : Pg := { p with flows := p.flows ++ [moreF st s] }
theorem more_len (p : Pg) (st : Int) (s : ByteArray) : (moreP p st s).flows.length = p.flows.length + 1 := by simp
theorem more_old (p : Pg) (st : Int) (s : ByteArray) (i : Nat) (h : i < p.flows.length) : (moreP p st s).flows[i]'(by rw [more_len]; omega) = p.flows[i] := List.getElem_append_left h
theorem more_new (p : Pg) (st : Int) (s : ByteArray) : (moreP p st s).flows[p.flows.length]'(by rw [more_len]; omega) = moreF st s := by
  show (p.flows ++ [moreF st s])[p.flows.length]'_ = _
  simp
theorem things_more (p : Pg) (st : Int) (s : ByteArray) : thingsL (moreP p st s) = thingsL p ++ [((p.flows.length : Int), (moreF st s).hd)] := by
  have h := flowsL_succ (moreP p st s) p.flows.length (by rw [more_len]; omega)
  rw [List.take_of_length_le (by rw [flowsL_len, more_len]; exact Nat.le_refl _), more_new] at h
  have h2 : (flowsL (moreP p st s)).take p.flows.length = flowsL p := by
    unfold flowsL
    rw [← List.map_take, more_len, List.take_range, Nat.min_eq_left (by omega)]
    refine List.map_congr_left fun i hi => ?_
    have hi := List.mem_range.1 hi
    show ((i : Int), (((p.flows ++ [moreF st s])[i]?).map Fl.hd).getD _) = _
    rw [List.getElem?_append_left hi]
  unfold thingsL
  rw [h, h2, List.append_assoc]
  rfl
theorem find_more {p : Pg} {st : Int} {s t : ByteArray} {x : Int × Hd} (h : findT (thingsL p) t = some x) : findT (thingsL (moreP p st s)) t = some x := by
  rw [things_more]
  unfold findT at *
  rw [List.find?_append, h]
  rfl
theorem wish_old {p : Pg} (hE : nmErr p = 0) (st : Int) (s : ByteArray) {i : Nat} (hi : i < p.flows.length) : wishL (moreP p st s) i = wishL p i := by
  rw [wishL_at (show i < (moreP p st s).flows.length by rw [more_len]; omega), wishL_at hi, more_old p st s i hi]
  refine List.map_congr_left fun r hr => ?_
  have hask : r.1 ∈ askedL p := List.mem_flatMap.2 ⟨p.flows[i], List.getElem_mem hi, List.mem_map.2 ⟨r, hr, rfl⟩⟩
  obtain ⟨x, hx⟩ := find_of_asked (nmErr_zero hE).2 hask
  unfold mkW
  rw [hx, find_more hx]
abbrev moreW (p : Pg) (st : Int) (k : Nat) (h : k < p.flows.length) : Wi := ⟨p.flows.length, (p.flows[k].name, 0), k, if p.flows[k].st = st then 0 else 1⟩
theorem gat_name (s : ByteArray) : gat 32 (nmE s) 0 [] = [(s, 0)] := rfl
theorem wish_new {p : Pg} (hE : nmErr p = 0) (st : Int) {k : Nat} (hk : k < p.flows.length) : wishL (moreP p st p.flows[k].name) p.flows.length = [moreW p st k hk] := by
  rw [wishL_at (show p.flows.length < (moreP p st p.flows[k].name).flows.length by rw [more_len]; omega), more_new]
  show (gat 32 (nmE p.flows[k].name) 0 []).map _ = _
  rw [gat_name, List.map_singleton]
  unfold mkW
  rw [find_more (find_flow_ok (nmErr_zero hE).2 k hk)]
  rfl
theorem all_more {p : Pg} (hE : nmErr p = 0) (st : Int) {k : Nat} (hk : k < p.flows.length) : allL (moreP p st p.flows[k].name) = allL p ++ [moreW p st k hk] := by
  unfold allL
  rw [more_len, allN_succ, wish_new hE st hk]
  congr 1
  unfold allN
  have hc : ∀ (L : List Nat), (∀ i ∈ L, i < p.flows.length) → L.flatMap (wishL (moreP p st p.flows[k].name)) = L.flatMap (wishL p) := fun L => by
    induction L with
    | nil => intro _; rfl
    | cons i L ih =>
      intro h
      rw [List.flatMap_cons, List.flatMap_cons, wish_old hE st _ (h i (List.mem_cons_self ..)), ih (fun j hj => h j (List.mem_cons_of_mem _ hj))]
  exact hc _ fun i hi => List.mem_range.1 hi
theorem lateAt_app {l r : List Int} {i : Int} (h : i.toNat < l.length) : lateAt (l ++ r) i = lateAt l i := by
  unfold lateAt; rw [List.getElem?_append_left h]
theorem lateAt_last (l : List Int) (a : Int) : lateAt (l ++ [a]) (l.length : Int) = a := by
  unfold lateAt; simp
theorem lateAt_take {l : List Int} {n : Nat} {i : Int} (h : i.toNat < n) : lateAt (l.take n) i = lateAt l i := by
  unfold lateAt; rw [List.getElem?_take_of_lt h]
theorem ageV_of {l m : List Int} {n : Nat} {x : Wi} (hx : WiOk n x) (h : ∀ i : Int, i.toNat < n → lateAt l i = lateAt m i) : ageV l x = ageV m x := by
  unfold ageV
  have h1 := hx.flow
  have h2 := hx.of
  rw [h x.flow (by omega)]
  split
  · rw [h x.of (by omega)]
  · rfl
/-- None is later, and it is as late as what it asks for, and one more if that is far. -/
theorem more_late {p : Pg} {k : Nat} (hk : k < p.flows.length) {st : Int} {l m : List Int} (hE : nmErr p = 0) (hEq : nmErr (moreP p st p.flows[k].name) = 0) (hl : ofL p = some l) (hfl : Fine l) (hm : ofL (moreP p st p.flows[k].name) = some m) (hfm : Fine m) :
    m.length = l.length + 1 ∧ (∀ i : Nat, i < l.length → lateAt m i = lateAt l i) ∧ lateAt m p.flows.length = lateAt l k + (if p.flows[k].st = st then 0 else 1) := by
  obtain ⟨lo, ll, _, lmin⟩ := of_late hE hl hfl
  obtain ⟨mo, ml, _, mmin⟩ := of_late hEq hm hfm
  rw [more_len] at ml
  have hall := all_more hE st hk
  have hok := allL_ok (nm_chk hE)
  have ages : ∀ {q : Pg} {l : List Int}, lateOk q l = true → ∀ x ∈ allL q, 0 ≤ ageV l x := fun {q l} h => by
    unfold lateOk agesOk at h
    simp only [Bool.and_eq_true, List.all_eq_true, decide_eq_true_eq] at h
    exact h.2.2.2
  have la := ages lo
  have ma := ages mo
  rw [hall] at ma
  obtain ⟨far, hfar⟩ : ∃ far : Int, far = (if p.flows[k].st = st then 0 else 1) := ⟨_, rfl⟩
  have hf0 : 0 ≤ far := by rw [hfar]; split <;> omega
  have hway : ((moreW p st k hk).way : Int) = far := by rw [hfar]; show (((if p.flows[k].st = st then 0 else 1 : Nat)) : Int) = _; split <;> rfl
  rw [← hfar]
  have s1 : Sol (allL (moreP p st p.flows[k].name)) (l ++ [lateAt l k + far]) := by
    refine ⟨fun a ha => ?_, fun x hx => ?_⟩
    · rcases List.mem_append.1 ha with h | h
      · exact (hfl a h).1
      · rw [List.mem_singleton.1 h]
        have := lateAt_nonneg (fun a ha => (hfl a ha).1) (k : Int)
        omega
    · rw [hall] at hx
      rcases List.mem_append.1 hx with h | h
      · rw [ageV_of (hok x h) (fun i hi => lateAt_app (l := l) (r := [lateAt l k + far]) (by omega))]
        exact la x h
      · rw [List.mem_singleton.1 h]
        unfold ageV
        rw [hway, if_pos (show (0 : Int) ≤ (k : Int) by omega), lateAt_app (show ((k : Int)).toNat < l.length by omega)]
        show 0 ≤ lateAt (l ++ [lateAt l k + far]) (p.flows.length : Int) + ((0 : Nat) : Int) - far - lateAt l (k : Int)
        rw [← ll, lateAt_last]
        omega
  have s2 : Sol (allL p) (m.take p.flows.length) := by
    refine ⟨fun a ha => (hfm a (List.mem_of_mem_take ha)).1, fun x hx => ?_⟩
    rw [ageV_of (hok x hx) (fun i hi => lateAt_take (l := m) hi)]
    exact ma x (List.mem_append_left _ hx)
  have g1 := mmin _ (by rw [more_len]; simp; omega) s1
  have g2 := lmin _ (by simp; omega) s2
  have e : ∀ i : Nat, i < l.length → lateAt m i = lateAt l i := fun i hi => by
    have h1 := g1 i
    have h2 := g2 i
    rw [lateAt_app (by omega)] at h1
    rw [lateAt_take (by omega)] at h2
    omega
  refine ⟨by omega, e, ?_⟩
  have h1 := g1 p.flows.length
  rw [← ll, lateAt_last, ll] at h1
  have h2 := ma _ (List.mem_append_right _ (List.mem_singleton.2 rfl))
  unfold ageV at h2
  rw [hway, if_pos (show (0 : Int) ≤ (k : Int) by omega)] at h2
  have h3 : (0 : Int) ≤ lateAt m (p.flows.length : Int) + ((0 : Nat) : Int) - far - lateAt m (k : Int) := h2
  rw [e k (by omega)] at h3
  omega
end Go.Proofs.YtmlapodhpinhmaaDoor.Lex
namespace Go.Proofs.YtmlapodhpinhmaaDoor.Lex
open Go.ChangeShapes Go.WideShapes Go.ChangeAt Go.RowKit Go.Joins
theorem wp_append_at {P : Program} {w : World} {o : Oper} {a : Act} {K : Act → World → Prop} {Q : Exit → Act → World → Prop} (s x : Operand) (t : TypeId)
    (ho : o.op = .call { callee := .builtin .append, args := #[s, x], argTypes := #[t, t] })
    (base : Nat) (e : TypeId) (i : TypeInfo) (z : Value) (size bytes : Nat) (ht : P.underlying t = some (.slice e)) (hi : P.info? e = some i) (hz : i.zero = some z)
    (hsize : i.size = size) (hby : i.bytes = bytes) (hzs : z.cells.size = size) (hsz : 0 < size)
    (v : Value) (n : Nat) (xs : List Value) (hs : a.eval s = v) (hown : w.ownsRow base e size v n xs)
    (ad : Addr) (m c : Nat) (news : List Value) (hx : a.eval x = .slice (some ad) m c) (hl : news.length = m * size) (hnews : ∀ j u, news[j]? = some u → w.cell? (ad.add j) = some u) (h1 : ∀ u ∈ news, u.oneCell' = true)
    (h63 : n + m ≤ maxLen) (hbytes : (n + m) * bytes ≤ 140737488355328) (hbase : base ≤ w.heap.size)
    (h : ∀ v' w', w'.ownsRow base e size v' (n + m) (xs ++ news) → w.grownBy w' v.ownBlock → (v' = .slice none 0 0 ↔ v = .slice none 0 0 ∧ m = 0) → (v'.ownBlock = v.ownBlock ∨ v'.ownBlock = some w.heap.size) → K (a.put o.dst v') w') : o.wp P a w K Q := by
  obtain ⟨v', w', hr, h2, h3, h4, h5⟩ := run_append_own_at (P := P) w base t o.type e i z size bytes ht hi hz hsize hby hzs hsz v n xs hown ad m c news hl hnews h1 h63 hbytes hbase
  unfold Oper.wp execOp
  simp only [ho, resolve, invoke, builtin, Sem.run_bind, Sem.run_pure, Result.andThen_ok, List.map_toArray, List.map_cons, List.map_nil, hs, hx, hr]
  exact h v' w' h2 h3 h4 h5
theorem inf55 : (Tryd.prog.info? 55).map (fun i => (i.zero, i.size, i.bytes)) = some (some (.agg #[.string ByteArray.empty, .int .u8 0, .int .i64 0, .int .i64 0, .int .u8 0, .int .i64 0, .string ByteArray.empty, .slice none 0 0]), 8, 96) := by kernel_rfl
theorem row_pos {W : World} {base e size k : Nat} {v : Value} {xs : List Value} (h : W.ownsRow base e size v k xs) (hk : 0 < k) : ∃ g cap, v = .slice (some ⟨g, 0, none⟩) k cap := by
  rcases h.2 with ⟨_, h0⟩ | ⟨g, cap, _, rfl, _⟩
  · omega
  · exact ⟨g, cap, rfl⟩
theorem own_block9 {w W : World} {base e c n : Nat} {v : Value} {xs : List Value} (h : w.ownsRow base e c v n xs) (hg : ∀ g, v.ownBlock = some g → W.heap[g]? = w.heap[g]?) : W.ownsRow base e c v n xs := by
  refine ⟨h.1, ?_⟩
  rcases h.2 with hn | ⟨g, cap, cur, e, hg0, hh, rest⟩
  · exact .inl hn
  · subst e
    exact .inr ⟨g, cap, cur, rfl, hg0, (hg g rfl).trans hh, rest⟩
/-- The flows, each with the parts of its body. -/
def prs (l : List Fl) (SL : Nat → Value) : List (Fl × Value) := l.mapIdx fun i f => (f, SL i)
theorem prs_len (l : List Fl) (SL : Nat → Value) : (prs l SL).length = l.length := by unfold prs; simp
theorem prs_fst (l : List Fl) (SL : Nat → Value) : (prs l SL).map (·.1) = l := by
  unfold prs
  refine List.ext_getElem (by simp) fun i h1 h2 => ?_
  simp
theorem prs_at (l : List Fl) (SL : Nat → Value) (i : Nat) (h : i < l.length) : (prs l SL)[i]'(by rw [prs_len]; exact h) = (l[i], SL i) := by unfold prs; simp
/-- The cells of so many flows. -/
def flC (l : List (Fl × Value)) : List Value := (l.map fun q => flL q.1 q.2).flatten
theorem flC_len (l : List (Fl × Value)) : (flC l).length = l.length * 8 := by
  unfold flC
  rw [flat_len (c := 8) (fun e he => by obtain ⟨q, _, rfl⟩ := List.mem_map.1 he; rfl), List.length_map]
theorem flC_at (l : List (Fl × Value)) {i j : Nat} (hi : i < l.length) (hj : j < 8) : (flC l)[i * 8 + j]? = (flL l[i].1 l[i].2)[j]? := by
  have := flat_at (c := 8) (es := l.map fun q => flL q.1 q.2) (i := i) (e := flL l[i].1 l[i].2) (j := j) (rest := []) (fun e he => by obtain ⟨q, _, rfl⟩ := List.mem_map.1 he; rfl) (by simp [hi]) hj
  rw [List.append_nil] at this
  exact this
theorem flC_one (l : List (Fl × Value)) (hS : ∀ q ∈ l, q.2.oneCell' = true) : ∀ u ∈ flC l, u.oneCell' = true := fun u hu => by
  obtain ⟨e, he, hu⟩ := List.mem_flatten.1 hu
  obtain ⟨q, hq, rfl⟩ := List.mem_map.1 he
  have := hS q hq
  simp at hu
  rcases hu with rfl | rfl | rfl | rfl | rfl | rfl | rfl | rfl <;> first | rfl | exact this
theorem st_one {W : World} {x : Ex} {s : Value} (h : St W x s) : s.oneCell' = true := by
  obtain ⟨_, _, _, rfl, _⟩ := h.out
  rfl
/-- Flows that lie there are what is copied. -/
theorem news_flows {W : World} {l : List Fl} {SL : Nat → Value} {fb fo : Nat} (h : ∀ i (h : i < l.length), FlCells W fb (fo + i * 8) l[i] (SL i)) : ∀ j u, (flC (prs l SL))[j]? = some u → W.cell? ((⟨fb, fo, none⟩ : Addr).add j) = some u := fun j u hu => by
  have hj : j < l.length * 8 := by
    have := (List.getElem?_eq_some_iff.1 hu).1
    rwa [flC_len, prs_len] at this
  obtain ⟨i, r, hr, rfl⟩ : ∃ i r, r < 8 ∧ j = i * 8 + r := ⟨j / 8, j % 8, Nat.mod_lt _ (by omega), by omega⟩
  have hi : i < l.length := by omega
  rw [flC_at _ (by rw [prs_len]; exact hi) hr, prs_at l SL i hi] at hu
  rw [Addr.add_mid, show fo + (i * 8 + r) = fo + i * 8 + r by omega]
  obtain ⟨q0, q1, q2, q3, q4, q5, q6, q7⟩ := h i hi
  rcases (by omega : r = 0 ∨ r = 1 ∨ r = 2 ∨ r = 3 ∨ r = 4 ∨ r = 5 ∨ r = 6 ∨ r = 7) with rfl | rfl | rfl | rfl | rfl | rfl | rfl | rfl
  · rw [Nat.add_zero, q0]; exact hu
  · rw [q1]; exact hu
  · rw [q2]; exact hu
  · rw [q3]; exact hu
  · rw [q4]; exact hu
  · rw [q5]; exact hu
  · rw [q6]; exact hu
  · rw [q7]; exact hu
/-- Flows that stand in an own row. -/
theorem flows_own {W : World} {base g cap : Nat} (l : List (Fl × Value)) (h : W.ownsRow base 55 8 (.slice (some ⟨g, 0, none⟩) l.length cap) l.length (flC l)) (hok : ∀ q ∈ l, q.1.ok) (hS : ∀ q ∈ l, St W q.1.body q.2) (hl : l.length ≤ 1000000) : FlowsAt W (l.map (·.1)) (.slice (some ⟨g, 0, none⟩) l.length cap) := by
  have hcap : l.length ≤ cap := by
    rcases h.2 with ⟨h, _⟩ | ⟨g', c', cur, e, _, _, h1, _⟩
    · cases h
    · injection e with _ _ e3
      subst e3
      exact h1
  refine ⟨_, cap, fun i => ((l[i]?).map (·.2)).getD N0, by rw [List.length_map], by rw [List.length_map]; omega, by rw [List.length_map]; omega, ?_, .inr ⟨g, 0, rfl, fun i hi => ?_⟩, fun i hi => ?_⟩
  · intro x hx
    obtain ⟨q, hq, rfl⟩ := List.mem_map.1 hx
    exact hok q hq
  · have hi' : i < l.length := by simpa using hi
    have q : ∀ j, j < 8 → W.cell? ⟨g, 0 + i * 8 + j, none⟩ = (flL l[i].1 l[i].2)[j]? := fun j hj => by
      rw [Nat.zero_add]
      exact (h.cellAt (i * 8 + j) (by omega)).trans (flC_at l hi' hj)
    have e : ((l[i]?).map (·.2)).getD N0 = l[i].2 := by simp [hi']
    have e2 : (l.map (·.1))[i] = l[i].1 := by simp
    rw [e2]
    simp only [e]
    exact ⟨q 0 (by omega), q 1 (by omega), q 2 (by omega), q 3 (by omega), q 4 (by omega), q 5 (by omega), q 6 (by omega), q 7 (by omega)⟩
  · have hi' : i < l.length := by simpa using hi
    have e : ((l[i]?).map (·.2)).getD N0 = l[i].2 := by simp [hi']
    have e2 : (l.map (·.1))[i] = l[i].1 := by simp
    rw [e2]
    simp only [e]
    exact hS _ (List.getElem_mem hi')
/-- The flow behind all others. -/
abbrev prsM (l : List Fl) (SL : Nat → Value) (y : Fl) : List (Fl × Value) := prs l SL ++ [(y, N0)]
theorem prsM_len (l : List Fl) (SL : Nat → Value) (y : Fl) : (prsM l SL y).length = l.length + 1 := by simp [prs_len]
theorem prsM_fst (l : List Fl) (SL : Nat → Value) (y : Fl) : (prsM l SL y).map (·.1) = l ++ [y] := by rw [List.map_append, prs_fst]; rfl
theorem flC_app (a : List (Fl × Value)) (y : Fl) (s : Value) : flC (a ++ [(y, s)]) = flC a ++ flL y s := by unfold flC; rw [List.map_append, List.flatten_append]; simp
/-- The copied flows, and one more. -/
theorem flows_more {W : World} {base g cap : Nat} {l : List Fl} {SL : Nat → Value} {y : Fl} (h : W.ownsRow base 55 8 (.slice (some ⟨g, 0, none⟩) (l.length + 1) cap) (l.length + 1) (flC (prs l SL) ++ flL y N0)) (hok : ∀ q ∈ l, q.ok) (hy : y.ok) (hS : ∀ i (h : i < l.length), St W l[i].body (SL i)) (hys : St W y.body N0) (hl : l.length < 1000000) : FlowsAt W (l ++ [y]) (.slice (some ⟨g, 0, none⟩) (l.length + 1) cap) := by
  have hmem : ∀ q ∈ prs l SL, ∃ i, ∃ h : i < l.length, q = (l[i], SL i) := fun q hq => by
    obtain ⟨i, hi, rfl⟩ := List.getElem_of_mem hq
    rw [prs_len] at hi
    exact ⟨i, hi, prs_at l SL i hi⟩
  rw [← prsM_fst l SL y, ← prsM_len l SL y]
  refine flows_own (prsM l SL y) (by rw [prsM_len, flC_app]; exact h) (fun q hq => ?_) (fun q hq => ?_) (by rw [prsM_len]; omega)
  · rcases List.mem_append.1 hq with h | h
    · obtain ⟨i, hi, rfl⟩ := hmem q h
      exact hok _ (List.getElem_mem hi)
    · rw [List.mem_singleton.1 h]; exact hy
  · rcases List.mem_append.1 hq with h | h
    · obtain ⟨i, hi, rfl⟩ := hmem q h
      exact hS i hi
    · rw [List.mem_singleton.1 h]; exact hys
end Go.Proofs.YtmlapodhpinhmaaDoor.Lex
namespace Go.Proofs.YtmlapodhpinhmaaDoor.Lex
open Go.ChangeShapes Go.WideShapes Go.ChangeAt Go.RowKit Go.Joins
/-- The program, the one with a flow more, how late the first one's flows are, the tables. -/
structure MS (w w2 : World) (p q : Pg) (A B C B' : Value) (b : Nat) (l : List Int) (g : Nat) (z : Int) (W : World) : Prop where
  x : FV w p A B C W
  row : W.heap[w2.heap.size]? = some (.cells (pgC q A B' C) 26 (0, 0))
  Q : PgAt W q A B' C
  lat : Rowl W b l
  new : W.cell? ⟨g, p.flows.length * 8 + 2, none⟩ = some (.int .i64 z)
theorem MS.keep {w w2 W W' : World} {p q : Pg} {A B C B' : Value} {b : Nat} {l : List Int} {g : Nat} {z : Int} (h : MS w w2 p q A B C B' b l g z W) (hb : Below W.heap.size W W') : MS w w2 p q A B C B' b l g z W' :=
  ⟨h.x.keep hb, keep_row h.row hb, h.Q.keep hb, keep_row h.lat hb, cell_kept h.new hb⟩
set_option maxRecDepth 100000 in
set_option maxHeartbeats 16000000 in
theorem walk6 (p : Pg) (a o : Nat) (w : World) (A B C : Value) (hP : PgAt w p A B C) (ha : a < 2 ^ 8) (ho : o < 2 ^ 8) (hR : TabR w) (hJ : TabJ w) : Calls Tryd.prog 6 #[pgV p A B C, .int .u8 (a : Int), .int .u8 (o : Int)] w fun e w' => e = .returned (.bool true) ∧ Below w.heap.size w w' := by
  obtain ⟨A0, A1, rfl, _⟩ := hP.ins
  obtain ⟨B0, B1, SL, rfl, hfl, _, hfo, hfc, hfs⟩ := hP.flows
  have HFC := hid hfc
  have HFS := hid hfs
  have HFO := hid hfo
  clear hfc hfs hfo
  obtain ⟨C0, C1, rfl, _⟩ := hP.outs
  have X0 := hid (FV.new hP hR hJ)
  have hpst := hP.st
  clear hP hR hJ
  obtain ⟨W0, hW0⟩ : ∃ W0, W0 = w.alloc (.cells (pgC p (.slice A0 p.ins.length A1) (.slice B0 p.flows.length B1) (.slice C0 p.outs.length C1)) 26) := ⟨_, rfl⟩
  rw [← hW0] at X0
  obtain ⟨r0, r1, r2, r3⟩ := row4 X0.out.row
  rw [hW0] at r0 r1 r2 r3
  go_enter Tryd.func6, Tryd.ntmps6
  go_wp2_with (fail)
  rw [← hW0]
  clear hW0 r0 r1 r2 r3
  refine (great p _ _ _ _ X0.out.P).mono ?_
  rintro e w1 ⟨⟨gr, rfl, hgr⟩, hb1⟩
  have X1 := hid (X0.out.keep hb1)
  have HGR := hid hgr
  clear hb1 X0 hgr
  obtain ⟨s0, s1, s2, s3⟩ := row4 X1.out.row
  cases gr with
  | true =>
    go_wp2_with (fail)
    refine (lives _ X1.out.R X1.out.J).mono ?_
    rintro e wz ⟨rfl, hbz⟩
    have BZ := hid (X1.out.below.trans (hbz.mono X1.out.below.size))
    clear hbz
    go_wp2_with (fail)
    go_ret
    exact ⟨rfl, BZ.out⟩
  | false =>
    obtain ⟨_, hgs, _⟩ := HGR.out rfl
    by_cases hs : p.st < 1
    · -- no station
      go_wp2_with (fail)
      refine (lives _ X1.out.R X1.out.J).mono ?_
      rintro e wz ⟨rfl, hbz⟩
      have BZ := hid (X1.out.below.trans (hbz.mono X1.out.below.size))
      clear hbz
      go_wp2_with (fail)
      go_ret
      exact ⟨rfl, BZ.out⟩
    · go_wp2_with (fail)
      refine (of_l p _ _ _ _ X1.out.P X1.out.R X1.out.J).mono ?_
      rintro e w2 ⟨hO, hb2⟩
      have X2 := hid (X1.out.keep hb2)
      clear hb2 X1 s0 s1 s2 s3 HGR
      obtain ⟨s0, s1, s2, s3⟩ := row4 X2.out.row
      rcases hO with ⟨hE, rfl⟩ | ⟨hE, _, rfl⟩ | ⟨l, b, hE, hl, rfl, hbw, hrw, hlen, hfine⟩
      · have hE' : (nmErr p != 0) = true := by simpa using hE
        clear hE
        generalize nmErr p = E at *
        go_wp2_with (fail)
        refine (lives _ X2.out.R X2.out.J).mono ?_
        rintro e wz ⟨rfl, hbz⟩
        have BZ := hid (X2.out.below.trans (hbz.mono X2.out.below.size))
        clear hbz
        go_wp2_with (fail)
        go_ret
        exact ⟨rfl, BZ.out⟩
      · clear hE
        go_wp2_with (fail)
        refine (lives _ X2.out.R X2.out.J).mono ?_
        rintro e wz ⟨rfl, hbz⟩
        have BZ := hid (X2.out.below.trans (hbz.mono X2.out.below.size))
        clear hbz
        go_wp2_with (fail)
        go_ret
        exact ⟨rfl, BZ.out⟩
      · have HE := hid hE
        have HL := hid hl
        have HBW := hid hbw
        have HRW := hid hrw
        have HLEN := hid hlen
        have HFI := hid hfine
        clear hE hl hbw hrw hlen hfine
        by_cases hn : p.flows.length = 0
        · have hn' : (p.flows.length : Int) = 0 := by omega
          go_wp2_with (fail)
          refine (lives _ X2.out.R X2.out.J).mono ?_
          rintro e wz ⟨rfl, hbz⟩
          have BZ := hid (X2.out.below.trans (hbz.mono X2.out.below.size))
          clear hbz
          go_wp2_with (fail)
          go_ret
          exact ⟨rfl, BZ.out⟩
        · have hn' : ¬ (p.flows.length : Int) = 0 := by omega
          have XA := heap_alloc_new w2 (.cells c26 26)
          have B6 := (Below.refl w2.heap.size w2).alloc (Nat.le_refl _) (.cells c26 26)
          go_wp2_with (refine wpList_store_row rfl 26 _ _ rfl w2.heap.size (pgC p (.slice A0 p.ins.length A1) (.slice B0 p.flows.length B1) (.slice C0 p.outs.length C1)) rfl rfl 26 _ XA info26 rfl (by simp [Value.oneCell']) ?_)
          have XR : ((w2.alloc (.cells c26 26)).setRow w2.heap.size (pgC p (.slice A0 p.ins.length A1) (.slice B0 p.flows.length B1) (.slice C0 p.outs.length C1))).heap[w2.heap.size]? = some (.cells (pgC p (.slice A0 p.ins.length A1) (.slice B0 p.flows.length B1) (.slice C0 p.outs.length C1)) 26 (0, 0)) := setRow_heap _ _ _ _ _ _ XA
          have b6 := below_row B6 (by simp) (Nat.le_refl _) (pgC p (.slice A0 p.ins.length A1) (.slice B0 p.flows.length B1) (.slice C0 p.outs.length C1))
          generalize (w2.alloc (.cells c26 26)).setRow w2.heap.size (pgC p (.slice A0 p.ins.length A1) (.slice B0 p.flows.length B1) (.slice C0 p.outs.length C1)) = V6 at *
          have X6 := hid (X2.out.keep b6)
          have HB6 := hid b6
          have HXR := hid XR
          clear b6 B6 XA XR s0 s1 s2 s3
          obtain ⟨s0, s1, s2, s3⟩ := row4 X6.out.row
          obtain ⟨fb, fo, rfl, hcc⟩ := HFC.out.resolve_left hn
          obtain ⟨i0, hi, hz0, hz1, hz2⟩ := info_parts inf55
          obtain ⟨k, hk⟩ : ∃ k, k = o % p.flows.length := ⟨_, rfl⟩
          have hkl : k < p.flows.length := by rw [hk]; exact Nat.mod_lt _ (by omega)
          obtain ⟨st, hst⟩ : ∃ st : Nat, p.st = (st : Int) := ⟨p.st.toNat, by omega⟩
          have hast : a % st < st := Nat.mod_lt _ (by omega)
          have HNW := hid (news_flows (fun i hi => (hcc i hi).keep X6.out.below.drew))
          have HN1 := hid (flC_one (prs p.flows SL) (fun q hq => by obtain ⟨i, hi, rfl⟩ := List.getElem_of_mem hq; rw [prs_len] at hi; rw [prs_at p.flows SL i hi]; exact st_one (HFS.out i hi)))
          have hmx1 : 0 + p.flows.length ≤ maxLen := by unfold maxLen; omega
          obtain ⟨q0, q1, q2, q3, q4, q5, q6, q7⟩ := (hcc k hkl).keep X6.out.below
          have q0' := q0
          generalize hnm : p.flows[k].name = nm at q0
          have hwa : IntKind.i64.wrap (a : Int) = (a : Int) := by rw [IntKind.wrap_i64]; omega
          have hwo : IntKind.i64.wrap (o : Int) = (o : Int) := by rw [IntKind.wrap_i64]; omega
          obtain ⟨sr, hsr⟩ : ∃ sr, sr = a % st := ⟨_, rfl⟩
          rw [← hsr] at hast
          obtain ⟨ST, hSTe⟩ : ∃ ST : Int, ST = 1 + (sr : Int) := ⟨_, rfl⟩
          have hST : IntKind.i64.wrap (1 + (sr : Int)) = ST := by rw [hSTe, IntKind.wrap_i64]; omega
          have hidx : Int.tmod (o : Int) (p.flows.length : Int) = (k : Int) := by rw [hk]; exact (Int.ofNat_tmod o p.flows.length).symm
          have hstn : Int.tmod (a : Int) p.st = (sr : Int) := by rw [hst, hsr]; exact (Int.ofNat_tmod a st).symm
          have hidx2 : (o : Int) % (p.flows.length : Int) = (k : Int) := by rw [hk]; exact (Int.natCast_emod o p.flows.length).symm
          have hstn2 : (a : Int) % p.st = (sr : Int) := by rw [hst, hsr]; exact (Int.natCast_emod a st).symm
          have hst0 : ¬ p.st = 0 := by omega
          have HSTE := hid hSTe
          have HK := hid hk
          have HST := hid hst
          clear hsr hk hSTe hst
          refine wp_region_held_drew (S := fun W => W.cell? ⟨w.heap.size, 0, none⟩ = some (.int .i64 p.st) ∧ W.cell? ⟨w.heap.size, 2, none⟩ = some (.slice (some ⟨fb, fo, none⟩) p.flows.length B1) ∧ W.cell? ⟨fb, fo + k * 8, none⟩ = some (.string nm)) (by kernel_rfl) ?_ (fun hHeld => ?_)
          · exact ⟨s0, s2, q0⟩
          refine wpAnyH_take (i := 0) (oi := { dst := some 38, op := Go.Op.fieldAddr 26 (Go.Operand.tmp 3) 2, type := 0, pos := _, after := #[], guard := none }) (v := ?_) rfl (by kernel_rfl) (by kernel_rfl) (by kernel_rfl) (fun _ _ _ h => h) (Or.inl ⟨by rfl, ?_⟩) (by assumption) ?_
          rotate_left
          · intro w hSw; (try dsimp only at hSw); go_simp <;> first | with_reducible rfl | (rw [if_neg (by first | omega | (simp only [ByteArray.size_append] at *; omega))])
          simp only [Act.put, List.setIfInBounds_toArray, List.set_cons_zero, List.set_cons_succ]
          refine wpAnyH_take (i := 1) (oi := { dst := some 39, op := Go.Op.load 23 (Go.Operand.tmp 38), type := 23, pos := _, after := #[{ on := 0, ground := Go.Ground.data }], guard := none }) (v := ?_) rfl (by kernel_rfl) (by kernel_rfl) (by kernel_rfl) (fun _ _ _ h => h) (Or.inl ⟨by rfl, ?_⟩) (by assumption) ?_
          rotate_left
          · intro w hSw; (try dsimp only at hSw); go_simp <;> first | with_reducible rfl | (rw [if_neg (by first | omega | (simp only [ByteArray.size_append] at *; omega))])
          simp only [Act.put, List.setIfInBounds_toArray, List.set_cons_zero, List.set_cons_succ]
          refine wpAnyH_take (i := 3) (oi := { dst := some 41, op := Go.Op.move (Go.Operand.tmp 1), type := 5, pos := _, after := #[], guard := none }) (v := ?_) rfl (by kernel_rfl) (by kernel_rfl) (by kernel_rfl) (fun _ _ _ h => h) (Or.inl ⟨by rfl, ?_⟩) (by assumption) ?_
          rotate_left
          · intro w hSw; (try dsimp only at hSw); go_simp <;> first | with_reducible rfl | (rw [if_neg (by first | omega | (simp only [ByteArray.size_append] at *; omega))])
          simp only [Act.put, List.setIfInBounds_toArray, List.set_cons_zero, List.set_cons_succ]
          refine wpAnyH_take (i := 4) (oi := { dst := some 42, op := Go.Op.convert 5 3 (Go.Operand.tmp 41), type := 3, pos := _, after := #[{ on := 3, ground := Go.Ground.data }], guard := none }) (v := ?_) rfl (by kernel_rfl) (by kernel_rfl) (by kernel_rfl) (fun _ _ _ h => h) (Or.inl ⟨by rfl, ?_⟩) (by assumption) ?_
          rotate_left
          · intro w hSw; (try dsimp only at hSw); go_simp <;> first | with_reducible rfl | (rw [if_neg (by first | omega | (simp only [ByteArray.size_append] at *; omega))])
          simp only [Act.put, List.setIfInBounds_toArray, List.set_cons_zero, List.set_cons_succ]
          refine wpAnyH_take (i := 5) (oi := { dst := some 43, op := Go.Op.fieldAddr 26 (Go.Operand.tmp 3) 0, type := 0, pos := _, after := #[], guard := none }) (v := ?_) rfl (by kernel_rfl) (by kernel_rfl) (by kernel_rfl) (fun _ _ _ h => h) (Or.inl ⟨by rfl, ?_⟩) (by assumption) ?_
          rotate_left
          · intro w hSw; (try dsimp only at hSw); go_simp <;> first | with_reducible rfl | (rw [if_neg (by first | omega | (simp only [ByteArray.size_append] at *; omega))])
          simp only [Act.put, List.setIfInBounds_toArray, List.set_cons_zero, List.set_cons_succ]
          refine wpAnyH_take (i := 6) (oi := { dst := some 44, op := Go.Op.load 3 (Go.Operand.tmp 43), type := 3, pos := _, after := #[{ on := 5, ground := Go.Ground.data }], guard := none }) (v := ?_) rfl (by kernel_rfl) (by kernel_rfl) (by kernel_rfl) (fun _ _ _ h => h) (Or.inl ⟨by rfl, ?_⟩) (by assumption) ?_
          rotate_left
          · intro w hSw; (try dsimp only at hSw); go_simp <;> first | with_reducible rfl | (rw [if_neg (by first | omega | (simp only [ByteArray.size_append] at *; omega))])
          simp only [Act.put, List.setIfInBounds_toArray, List.set_cons_zero, List.set_cons_succ]
          refine wpAnyH_take (i := 7) (oi := { dst := some 45, op := Go.Op.binOp Go.BinOp.rem 3 (Go.Operand.tmp 42) (Go.Operand.tmp 44) 3, type := 3, pos := _, after := #[{ on := 4, ground := Go.Ground.data }, { on := 6, ground := Go.Ground.data }], guard := none }) (v := ?_) rfl (by kernel_rfl) (by kernel_rfl) (by kernel_rfl) (fun _ _ _ h => h) (Or.inl ⟨by rfl, ?_⟩) (by assumption) ?_
          rotate_left
          · intro w hSw; (try dsimp only at hSw); go_simp <;> first | with_reducible rfl | (rw [if_neg (by first | omega | (simp only [ByteArray.size_append] at *; omega))])
          simp only [Act.put, List.setIfInBounds_toArray, List.set_cons_zero, List.set_cons_succ]
          (try rw [hwa])
          (try rw [hstn])
          (try rw [hstn2])
          refine wpAnyH_take (i := 8) (oi := { dst := some 46, op := Go.Op.binOp Go.BinOp.add 3 (Go.Operand.const (Go.Value.int Go.IntKind.i64 1)) (Go.Operand.tmp 45) 3, type := 3, pos := _, after := #[{ on := 7, ground := Go.Ground.data }], guard := none }) (v := ?_) rfl (by kernel_rfl) (by kernel_rfl) (by kernel_rfl) (fun _ _ _ h => h) (Or.inl ⟨by rfl, ?_⟩) (by assumption) ?_
          rotate_left
          · intro w hSw; (try dsimp only at hSw); go_simp <;> first | with_reducible rfl | (rw [if_neg (by first | omega | (simp only [ByteArray.size_append] at *; omega))])
          simp only [Act.put, List.setIfInBounds_toArray, List.set_cons_zero, List.set_cons_succ]
          (try rw [hST])
          refine wpAnyH_take (i := 9) (oi := { dst := some 47, op := Go.Op.fieldAddr 26 (Go.Operand.tmp 3) 2, type := 0, pos := _, after := #[], guard := none }) (v := ?_) rfl (by kernel_rfl) (by kernel_rfl) (by kernel_rfl) (fun _ _ _ h => h) (Or.inl ⟨by rfl, ?_⟩) (by assumption) ?_
          rotate_left
          · intro w hSw; (try dsimp only at hSw); go_simp <;> first | with_reducible rfl | (rw [if_neg (by first | omega | (simp only [ByteArray.size_append] at *; omega))])
          simp only [Act.put, List.setIfInBounds_toArray, List.set_cons_zero, List.set_cons_succ]
          refine wpAnyH_take (i := 10) (oi := { dst := some 48, op := Go.Op.load 23 (Go.Operand.tmp 47), type := 23, pos := _, after := #[{ on := 9, ground := Go.Ground.data }], guard := none }) (v := ?_) rfl (by kernel_rfl) (by kernel_rfl) (by kernel_rfl) (fun _ _ _ h => h) (Or.inl ⟨by rfl, ?_⟩) (by assumption) ?_
          rotate_left
          · intro w hSw; (try dsimp only at hSw); go_simp <;> first | with_reducible rfl | (rw [if_neg (by first | omega | (simp only [ByteArray.size_append] at *; omega))])
          simp only [Act.put, List.setIfInBounds_toArray, List.set_cons_zero, List.set_cons_succ]
          refine wpAnyH_take (i := 11) (oi := { dst := some 49, op := Go.Op.move (Go.Operand.tmp 2), type := 5, pos := _, after := #[], guard := none }) (v := ?_) rfl (by kernel_rfl) (by kernel_rfl) (by kernel_rfl) (fun _ _ _ h => h) (Or.inl ⟨by rfl, ?_⟩) (by assumption) ?_
          rotate_left
          · intro w hSw; (try dsimp only at hSw); go_simp <;> first | with_reducible rfl | (rw [if_neg (by first | omega | (simp only [ByteArray.size_append] at *; omega))])
          simp only [Act.put, List.setIfInBounds_toArray, List.set_cons_zero, List.set_cons_succ]
          refine wpAnyH_take (i := 12) (oi := { dst := some 50, op := Go.Op.convert 5 3 (Go.Operand.tmp 49), type := 3, pos := _, after := #[{ on := 11, ground := Go.Ground.data }], guard := none }) (v := ?_) rfl (by kernel_rfl) (by kernel_rfl) (by kernel_rfl) (fun _ _ _ h => h) (Or.inl ⟨by rfl, ?_⟩) (by assumption) ?_
          rotate_left
          · intro w hSw; (try dsimp only at hSw); go_simp <;> first | with_reducible rfl | (rw [if_neg (by first | omega | (simp only [ByteArray.size_append] at *; omega))])
          simp only [Act.put, List.setIfInBounds_toArray, List.set_cons_zero, List.set_cons_succ]
          refine wpAnyH_take (i := 13) (oi := { dst := some 51, op := Go.Op.fieldAddr 26 (Go.Operand.tmp 3) 2, type := 0, pos := _, after := #[], guard := none }) (v := ?_) rfl (by kernel_rfl) (by kernel_rfl) (by kernel_rfl) (fun _ _ _ h => h) (Or.inl ⟨by rfl, ?_⟩) (by assumption) ?_
          rotate_left
          · intro w hSw; (try dsimp only at hSw); go_simp <;> first | with_reducible rfl | (rw [if_neg (by first | omega | (simp only [ByteArray.size_append] at *; omega))])
          simp only [Act.put, List.setIfInBounds_toArray, List.set_cons_zero, List.set_cons_succ]
          refine wpAnyH_take (i := 14) (oi := { dst := some 52, op := Go.Op.load 23 (Go.Operand.tmp 51), type := 23, pos := _, after := #[{ on := 13, ground := Go.Ground.data }], guard := none }) (v := ?_) rfl (by kernel_rfl) (by kernel_rfl) (by kernel_rfl) (fun _ _ _ h => h) (Or.inl ⟨by rfl, ?_⟩) (by assumption) ?_
          rotate_left
          · intro w hSw; (try dsimp only at hSw); go_simp <;> first | with_reducible rfl | (rw [if_neg (by first | omega | (simp only [ByteArray.size_append] at *; omega))])
          simp only [Act.put, List.setIfInBounds_toArray, List.set_cons_zero, List.set_cons_succ]
          refine wpAnyH_take (i := 15) (oi := { dst := some 53, op := Go.Op.call { callee := Go.Callee.builtin Go.Builtin.len, args := #[Go.Operand.tmp 52], argTypes := #[23] }, type := 3, pos := _, after := #[{ on := 14, ground := Go.Ground.data }], guard := none }) (v := ?_) rfl (by kernel_rfl) (by kernel_rfl) (by kernel_rfl) (fun _ _ _ h => h) (Or.inl ⟨by rfl, ?_⟩) (by assumption) ?_
          rotate_left
          · intro w hSw; (try dsimp only at hSw); go_simp <;> first | with_reducible rfl | (rw [if_neg (by first | omega | (simp only [ByteArray.size_append] at *; omega))])
          simp only [Act.put, List.setIfInBounds_toArray, List.set_cons_zero, List.set_cons_succ]
          refine wpAnyH_take (i := 16) (oi := { dst := some 54, op := Go.Op.binOp Go.BinOp.rem 3 (Go.Operand.tmp 50) (Go.Operand.tmp 53) 3, type := 3, pos := _, after := #[{ on := 12, ground := Go.Ground.data }, { on := 15, ground := Go.Ground.data }], guard := none }) (v := ?_) rfl (by kernel_rfl) (by kernel_rfl) (by kernel_rfl) (fun _ _ _ h => h) (Or.inl ⟨by rfl, ?_⟩) (by assumption) ?_
          rotate_left
          · intro w hSw; (try dsimp only at hSw); go_simp <;> first | with_reducible rfl | (rw [if_neg (by first | omega | (simp only [ByteArray.size_append] at *; omega))])
          simp only [Act.put, List.setIfInBounds_toArray, List.set_cons_zero, List.set_cons_succ]
          (try rw [hwo])
          (try rw [hidx])
          (try rw [hidx2])
          refine wpAnyH_take (i := 17) (oi := { dst := some 55, op := Go.Op.indexAddr 23 (Go.Operand.tmp 48) (Go.Operand.tmp 54), type := 0, pos := _, after := #[{ on := 10, ground := Go.Ground.data }, { on := 16, ground := Go.Ground.data }], guard := none }) (v := ?_) rfl (by kernel_rfl) (by kernel_rfl) (by kernel_rfl) (fun _ _ _ h => h) (Or.inl ⟨by rfl, ?_⟩) (by assumption) ?_
          rotate_left
          · intro w hSw; (try dsimp only at hSw); go_simp <;> first | with_reducible rfl | (rw [if_neg (by first | omega | (simp only [ByteArray.size_append] at *; omega))])
          simp only [Act.put, List.setIfInBounds_toArray, List.set_cons_zero, List.set_cons_succ]
          refine wpAnyH_take (i := 18) (oi := { dst := some 56, op := Go.Op.fieldAddr 55 (Go.Operand.tmp 55) 0, type := 0, pos := _, after := #[{ on := 17, ground := Go.Ground.data }], guard := none }) (v := ?_) rfl (by kernel_rfl) (by kernel_rfl) (by kernel_rfl) (fun _ _ _ h => h) (Or.inl ⟨by rfl, ?_⟩) (by assumption) ?_
          rotate_left
          · intro w hSw; (try dsimp only at hSw); go_simp <;> first | with_reducible rfl | (rw [if_neg (by first | omega | (simp only [ByteArray.size_append] at *; omega))])
          simp only [Act.put, List.setIfInBounds_toArray, List.set_cons_zero, List.set_cons_succ]
          refine wpAnyH_take (i := 19) (oi := { dst := some 57, op := Go.Op.load 9 (Go.Operand.tmp 56), type := 9, pos := _, after := #[{ on := 18, ground := Go.Ground.data }], guard := none }) (v := ?_) rfl (by kernel_rfl) (by kernel_rfl) (by kernel_rfl) (fun _ _ _ h => h) (Or.inl ⟨by rfl, ?_⟩) (by assumption) ?_
          rotate_left
          · intro w hSw; (try dsimp only at hSw); go_simp <;> first | with_reducible rfl | (rw [if_neg (by first | omega | (simp only [ByteArray.size_append] at *; omega))])
          simp only [Act.put, List.setIfInBounds_toArray, List.set_cons_zero, List.set_cons_succ]
          refine wpAnyH_ready (rs := [2]) (by kernel_rfl) (by simp) ?_
          refine AllReadyH.cons (o := { dst := some 40, op := Go.Op.call { callee := Go.Callee.builtin Go.Builtin.append, args := #[Go.Operand.const (Go.Value.slice none 0 0), Go.Operand.tmp 39], argTypes := #[23, 23] }, type := 23, pos := _, after := #[{ on := 1, ground := Go.Ground.data }], guard := none }) rfl (fun K hK => ?_) AllReadyH.nil
          refine if_take (by rfl) ?_
          refine wp_append_at (.const (.slice none 0 0)) (.tmp 39) 23 rfl V6.heap.size 55 i0 _ 8 96 Tryd.underlying23 hi hz0 hz1 hz2 rfl (by decide) (.slice none 0 0) 0 [] rfl (World.ownsRow_nil _ _ _ _) ⟨fb, fo, none⟩ p.flows.length B1 (flC (prs p.flows SL)) rfl (by rw [flC_len, prs_len]) HNW.out HN1.out hmx1 (by omega) (by simp) ?_
          intro va Wa hRa hga _ hata
          obtain ⟨g1, cap1, rfl⟩ := row_pos hRa (by omega)
          have hba : Below V6.heap.size V6 Wa := (Below.refl _ V6).drew.grown hga (by simp) (fun j e => by cases e)
          have HRA := hid hRa
          have HBA := hid hba
          have hg1 : g1 = V6.heap.size := by
            rcases hata with h | h
            · cases h
            · injection h
          have HG1 := hid hg1
          clear hRa hga hata
          have s0a := cell_kept s0 hba
          have s2a := cell_kept s2 hba
          have q0a := cell_kept q0 hba
          clear hba hg1
          refine hK.out _ _ ?_ (fun hHeld1 => ?_)
          · exact ⟨s0a, s2a, q0a⟩
          clear hK K
          (try simp only [Act.put, List.setIfInBounds_toArray, List.set_cons_zero, List.set_cons_succ])
          refine wpAnyH_ready (rs := [20]) (by kernel_rfl) (by simp) ?_
          refine AllReadyH.cons (o := { dst := some 58, op := Go.Op.call { callee := Go.Callee.value (Go.Operand.func 20), args := #[Go.Operand.tmp 57], argTypes := #[9] }, type := 53, pos := _, after := #[{ on := 19, ground := Go.Ground.data }, { on := 2, ground := Go.Ground.chain }], guard := none }) rfl (fun K hK => ?_) AllReadyH.nil
          go_simp
          refine (name_at nm Wa).mono ?_
          rintro e wb ⟨rfl, hbb⟩
          have HBB := hid hbb
          have s0b := cell_kept s0a hbb
          have s2b := cell_kept s2a hbb
          have q0b := cell_kept q0a hbb
          clear hbb
          go_wp2_with fail
          refine hK.out _ _ ?_ (fun hHeld2 => ?_)
          · exact ⟨s0b, s2b, q0b⟩
          clear hK K
          (try simp only [Act.put, List.setIfInBounds_toArray, List.set_cons_zero, List.set_cons_succ])
          refine wpAnyH_take (i := 21) (oi := { dst := some 59, op := Go.Op.build 55 #[(0, Go.Operand.const (Go.Value.string { data := #[109, 111, 114, 101] })), (1, Go.Operand.const (Go.Value.int Go.IntKind.u8 1)), (2, Go.Operand.tmp 46), (4, Go.Operand.tmp 58)], type := 55, pos := _, after := #[{ on := 8, ground := Go.Ground.data }, { on := 20, ground := Go.Ground.data }], guard := none }) (v := ?_) rfl (by kernel_rfl) (by kernel_rfl) (by kernel_rfl) (fun _ _ _ h => h) (Or.inl ⟨by rfl, ?_⟩) (by assumption) ?_
          rotate_left
          · intro w hSw; (try dsimp only at hSw); go_simp <;> first | with_reducible rfl | (rw [if_neg (by first | omega | (simp only [ByteArray.size_append] at *; omega))])
          simp only [Act.put, List.setIfInBounds_toArray, List.set_cons_zero, List.set_cons_succ]
          refine wpAnyH_ready (rs := [22]) (by kernel_rfl) (by simp) ?_
          refine AllReadyH.cons (o := { dst := some 60, op := Go.Op.buildSlice 23 1 #[(0, Go.Operand.tmp 59)], type := 23, pos := _, after := #[{ on := 21, ground := Go.Ground.data }], guard := none }) rfl (fun K hK => ?_) AllReadyH.nil
          go_simp
          obtain ⟨wc, hwc⟩ : ∃ wc, wc = wb.alloc (.cells #[.string ⟨#[109, 111, 114, 101]⟩, .int .u8 1, .int .i64 ST, .int .i64 0, .int .u8 3, .int .i64 0, .string nm, .slice none 0 0] 55) := ⟨_, rfl⟩
          have hbc : Below wb.heap.size wb wc := by rw [hwc]; exact (Below.refl _ wb).alloc (Nat.le_refl _) _
          have hrc : wc.heap[wb.heap.size]? = some (.cells #[.string ⟨#[109, 111, 114, 101]⟩, .int .u8 1, .int .i64 ST, .int .i64 0, .int .u8 3, .int .i64 0, .string nm, .slice none 0 0] 55 (0, 0)) := by rw [hwc]; exact heap_alloc_new wb _
          rw [← hwc]
          clear hwc
          have s0c := cell_kept s0b hbc
          have s2c := cell_kept s2b hbc
          have q0c := cell_kept q0b hbc
          have HBC := hid hbc
          have HRC := hid hrc
          clear hbc hrc
          refine hK.out _ _ ?_ (fun hHeld3 => ?_)
          · exact ⟨s0c, s2c, q0c⟩
          clear hK K
          (try simp only [Act.put, List.setIfInBounds_toArray, List.set_cons_zero, List.set_cons_succ])
          refine wpAnyH_ready (rs := [23]) (by kernel_rfl) (by simp) ?_
          refine AllReadyH.cons (o := { dst := some 61, op := Go.Op.call { callee := Go.Callee.builtin Go.Builtin.append, args := #[Go.Operand.tmp 40, Go.Operand.tmp 60], argTypes := #[23, 23] }, type := 23, pos := _, after := #[{ on := 2, ground := Go.Ground.data }, { on := 22, ground := Go.Ground.data }, { on := 20, ground := Go.Ground.chain }], guard := none }) rfl (fun K hK => ?_) AllReadyH.nil
          have hra := HRA.out
          rw [Nat.zero_add, List.nil_append] at hra
          have hbac : Below Wa.heap.size Wa wc := HBB.out.trans (HBC.out.mono HBB.out.size)
          have HRA2 := hid (own_block9 hra (fun g hg => hbac.block g (hra.lt g hg).2))
          have HBVC := hid (HBA.out.trans (hbac.mono HBA.out.size))
          clear hra hbac
          have HNX := hid (World.news_of_block HRC.out)
          refine if_take (by rfl) ?_
          refine wp_append_at (.tmp 40) (.tmp 60) 23 rfl V6.heap.size 55 i0 _ 8 96 Tryd.underlying23 hi hz0 hz1 hz2 rfl (by decide) (.slice (some ⟨g1, 0, none⟩) p.flows.length cap1) p.flows.length (flC (prs p.flows SL)) (by go_simp) HRA2.out ⟨wb.heap.size, 0, none⟩ 1 1 (flL (moreF ST nm) N0) rfl rfl HNX.out (by simp [Value.oneCell']) (by unfold maxLen; omega) (by omega) HBVC.out.size ?_
          intro vb Wb hRb hgb _ hatb
          obtain ⟨g2, cap2, rfl⟩ := row_pos hRb (by omega)
          have hlt6 : w2.heap.size < V6.heap.size := (Array.getElem?_eq_some_iff.1 HXR.out).1
          have hsz6 := HBVC.out.size
          have hb2c : Below w2.heap.size w2 wc := HB6.out.trans (HBVC.out.mono HB6.out.size)
          have hb2b : Below w2.heap.size w2 Wb := hb2c.grown hgb hb2c.size (fun j e => by
            have e' : some g1 = some j := e
            injection e' with e'
            have := HG1.out
            omega)
          have hg2 : g2 ≠ w2.heap.size := by
            have := HG1.out
            rcases hatb with e | e
            · have e' : some g2 = some g1 := e
              injection e' with e'
              omega
            · have e' : some g2 = some wc.heap.size := e
              injection e' with e'
              omega
          have hqB : Wb.heap[w2.heap.size]? = some (.cells (pgC p (.slice A0 p.ins.length A1) (.slice (some ⟨fb, fo, none⟩) p.flows.length B1) (.slice C0 p.outs.length C1)) 26 (0, 0)) := by
            refine (hgb.block w2.heap.size (by omega) (fun e => ?_)).trans ((HBVC.out.block _ hlt6).trans HXR.out)
            have e' : some w2.heap.size = some g1 := e
            injection e' with e'
            have := HG1.out
            omega
          have c8 := (cell_of_row Wb w2.heap.size 2 _ 26 (0, 0) hqB).trans (show _ = some (.slice (some ⟨fb, fo, none⟩) p.flows.length B1) from rfl)
          have f8 := frozen_of_row Wb w2.heap.size 2 _ 26 hqB
          have HRB := hid hRb
          have HQB := hid hqB
          have HG2 := hid hg2
          have HB2B := hid hb2b
          clear hRb hgb hatb hlt6 hsz6 hb2c hg2 hqB
          obtain ⟨t0, t1, t2, t3⟩ := row4 (X2.out.keep hb2b).row
          have u0 := ((hcc k hkl).keep (X2.out.below.trans (hb2b.mono X2.out.below.size))).1
          rw [hnm] at u0
          clear hb2b
          refine hK.out _ _ ?_ (fun hHeld4 => ?_)
          · exact ⟨t0, t2, u0⟩
          clear hK K
          (try simp only [Act.put, List.setIfInBounds_toArray, List.set_cons_zero, List.set_cons_succ])
          refine wpAnyH_take (i := 24) (oi := { dst := some 62, op := Go.Op.fieldAddr 26 (Go.Operand.tmp 9) 2, type := 0, pos := _, after := #[{ on := 0, ground := Go.Ground.phase }, { on := 1, ground := Go.Ground.phase }, { on := 2, ground := Go.Ground.phase }, { on := 3, ground := Go.Ground.phase }, { on := 4, ground := Go.Ground.phase }, { on := 5, ground := Go.Ground.phase }, { on := 6, ground := Go.Ground.phase }, { on := 7, ground := Go.Ground.phase }, { on := 8, ground := Go.Ground.phase }, { on := 9, ground := Go.Ground.phase }, { on := 10, ground := Go.Ground.phase }, { on := 11, ground := Go.Ground.phase }, { on := 12, ground := Go.Ground.phase }, { on := 13, ground := Go.Ground.phase }, { on := 14, ground := Go.Ground.phase }, { on := 15, ground := Go.Ground.phase }, { on := 16, ground := Go.Ground.phase }, { on := 17, ground := Go.Ground.phase }, { on := 18, ground := Go.Ground.phase }, { on := 19, ground := Go.Ground.phase }, { on := 20, ground := Go.Ground.phase }, { on := 21, ground := Go.Ground.phase }, { on := 22, ground := Go.Ground.phase }, { on := 23, ground := Go.Ground.phase }], guard := none }) (v := ?_) rfl (by kernel_rfl) (by kernel_rfl) (by kernel_rfl) (fun _ _ _ h => h) (Or.inl ⟨by rfl, ?_⟩) (by assumption) ?_
          rotate_left
          · intro w hSw; (try dsimp only at hSw); go_simp <;> first | with_reducible rfl | (rw [if_neg (by first | omega | (simp only [ByteArray.size_append] at *; omega))])
          simp only [Act.put, List.setIfInBounds_toArray, List.set_cons_zero, List.set_cons_succ]
          refine wpAnyH_ready (rs := [25]) (by kernel_rfl) (by simp) ?_
          refine AllReadyH.cons (o := { dst := none, op := Go.Op.store 23 (Go.Operand.tmp 62) (Go.Operand.tmp 61), type := 0, pos := _, after := #[{ on := 24, ground := Go.Ground.data }, { on := 23, ground := Go.Ground.data }, { on := 23, ground := Go.Ground.chain }, { on := 0, ground := Go.Ground.phase }, { on := 1, ground := Go.Ground.phase }, { on := 2, ground := Go.Ground.phase }, { on := 3, ground := Go.Ground.phase }, { on := 4, ground := Go.Ground.phase }, { on := 5, ground := Go.Ground.phase }, { on := 6, ground := Go.Ground.phase }, { on := 7, ground := Go.Ground.phase }, { on := 8, ground := Go.Ground.phase }, { on := 9, ground := Go.Ground.phase }, { on := 10, ground := Go.Ground.phase }, { on := 11, ground := Go.Ground.phase }, { on := 12, ground := Go.Ground.phase }, { on := 13, ground := Go.Ground.phase }, { on := 14, ground := Go.Ground.phase }, { on := 15, ground := Go.Ground.phase }, { on := 16, ground := Go.Ground.phase }, { on := 17, ground := Go.Ground.phase }, { on := 18, ground := Go.Ground.phase }, { on := 19, ground := Go.Ground.phase }, { on := 20, ground := Go.Ground.phase }, { on := 21, ground := Go.Ground.phase }, { on := 22, ground := Go.Ground.phase }, { on := 23, ground := Go.Ground.phase }], guard := none }) rfl (fun K hK => ?_) AllReadyH.nil
          go_simp
          go_wp2_with fail
          have hb2v := HB2B.out.setCell (p := ⟨w2.heap.size, 2, none⟩) (Nat.le_refl _) (.slice (some ⟨g2, 0, none⟩) (p.flows.length + 1) cap2)
          obtain ⟨v0, v1, v2, v3⟩ := row4 (X2.out.keep hb2v).row
          have y0 := ((hcc k hkl).keep (X2.out.below.trans (hb2v.mono X2.out.below.size))).1
          rw [hnm] at y0
          refine hK.out _ _ ?_ (fun hHeld5 => ?_)
          · exact ⟨v0, v2, y0⟩
          clear hK K
          (try simp only [Act.put, List.setIfInBounds_toArray, List.set_cons_zero, List.set_cons_succ])
          refine wpAnyH_done (by kernel_rfl) ?_ _
          have XV := hid (X2.out.keep hb2v)
          have hR7 : (Wb.setCell ⟨w2.heap.size, 2, none⟩ (.slice (some ⟨g2, 0, none⟩) (p.flows.length + 1) cap2)).ownsRow V6.heap.size 55 8 (.slice (some ⟨g2, 0, none⟩) (p.flows.length + 1) cap2) (p.flows.length + 1) (flC (prs p.flows SL) ++ flL (moreF ST nm) N0) := own_block9 HRB.out (fun g hg => by
            have e : some g2 = some g := hg
            injection e with e
            exact Below.heap_setCell _ _ _ _ (by show g ≠ w2.heap.size; have := HG2.out; omega))
          have hq7 := heap_setCell_same Wb w2.heap.size 2 _ 26 (.slice (some ⟨g2, 0, none⟩) (p.flows.length + 1) cap2) HQB.out
          have hname : nm.size ≤ 140737488355328 := by
            have := (HFO.out _ (List.getElem_mem hkl)).1
            rwa [hnm] at this
          have hST64 : (-9223372036854775808 : Int) ≤ ST ∧ ST ≤ 9223372036854775807 := by
            have h1 := HSTE.out
            have h2 := HST.out
            omega
          have hPq : PgAt (Wb.setCell ⟨w2.heap.size, 2, none⟩ (.slice (some ⟨g2, 0, none⟩) (p.flows.length + 1) cap2)) (moreP p ST nm) (.slice A0 p.ins.length A1) (.slice (some ⟨g2, 0, none⟩) (p.flows.length + 1) cap2) (.slice C0 p.outs.length C1) :=
            ⟨XV.out.P.st, XV.out.P.ins, flows_more hR7 HFO.out ⟨by show (4 : Nat) ≤ _; omega, by show (1 : Nat) < _; omega, hST64, by show (-9223372036854775808 : Int) ≤ 0; omega, by show (0 : Int) ≤ _; omega⟩ (fun i hi => (HFS.out i hi).keep XV.out.below) (st_leaf _ (nmE nm) rfl (by show (3 : Nat) < _; omega) ⟨by show (-9223372036854775808 : Int) ≤ 0; omega, by show (0 : Int) ≤ _; omega⟩ hname) (by omega), XV.out.P.outs⟩
          have hnw : (Wb.setCell ⟨w2.heap.size, 2, none⟩ (.slice (some ⟨g2, 0, none⟩) (p.flows.length + 1) cap2)).cell? ⟨g2, p.flows.length * 8 + 2, none⟩ = some (.int .i64 ST) := by
            rw [hR7.cellAt _ (by omega), List.getElem?_append_right (by rw [flC_len, prs_len]; omega), flC_len, prs_len, show p.flows.length * 8 + 2 - p.flows.length * 8 = 2 by omega]
            rfl
          have M7 := hid (MS.mk XV.out hq7 hPq (keep_row HRW.out hb2v) hnw : MS w w2 p (moreP p ST nm) (.slice A0 p.ins.length A1) (.slice (some ⟨fb, fo, none⟩) p.flows.length B1) (.slice C0 p.outs.length C1) (.slice (some ⟨g2, 0, none⟩) (p.flows.length + 1) cap2) b l g2 ST _)
          clear XV hR7 hq7 hname hST64 hPq hnw hb2v c8 f8 t0 t1 t2 t3 u0 v0 v1 v2 v3 y0 s0 s1 s2 s3 s0a s2a q0a s0b s2b q0b s0c s2c q0c q0 q1 q2 q3 q4 q5 q6 q7 q0' HNW HN1 HNX HRA HRA2 HBA HBB HBC HRC HBVC HRB HQB HB2B HG1 HG2 HXR HB6 X6 hHeld hHeld1 hHeld2 hHeld3 hHeld4 hHeld5
          generalize Wb.setCell ⟨w2.heap.size, 2, none⟩ (.slice (some ⟨g2, 0, none⟩) (p.flows.length + 1) cap2) = V7 at *
          obtain ⟨y0, y1, y2, y3⟩ := row4 M7.out.row
          go_wp2_with (fail)
          refine (of_l (moreP p ST nm) _ _ _ _ M7.out.Q M7.out.x.R M7.out.x.J).mono ?_
          rintro e w8 ⟨hO, hb8⟩
          have M8 := hid (M7.out.keep hb8)
          clear hb8 M7 y0 y1 y2 y3
          obtain ⟨y0, y1, y2, y3⟩ := row4 M8.out.row
          rcases hO with ⟨hE2, rfl⟩ | ⟨hE2, _, rfl⟩ | ⟨m, b2, hE2, hm, he, _, hrw2, hlen2, hfine2⟩
          · have hE' : (nmErr (moreP p ST nm) != 0) = true := by simpa using hE2
            have cN := (callsIn_wide (n := 20)).1 (names_check (moreP p ST nm) _ _ _ _ M8.out.Q M8.out.x.R M8.out.x.J)
            clear hE2
            generalize nmErr (moreP p ST nm) = E at *
            go_wp2_with (fail)
            refine cN.mono ?_
            rintro e w9 ⟨rfl, hb9⟩
            have M9 := hid (M8.out.keep hb9).x
            clear hb9 cN M8 y0 y1 y2 y3
            go_wp2_with (fail)
            refine (lives _ M9.out.R M9.out.J).mono ?_
            rintro e wz ⟨rfl, hbz⟩
            have BZ := hid (M9.out.below.trans (hbz.mono M9.out.below.size))
            clear hbz
            go_wp2_with (fail)
            go_ret
            exact ⟨rfl, BZ.out⟩
          · have cN := (callsIn_wide (n := 20)).1 (names_check (moreP p ST nm) _ _ _ _ M8.out.Q M8.out.x.R M8.out.x.J)
            rw [hE2] at cN
            clear hE2
            go_wp2_with (fail)
            refine cN.mono ?_
            rintro e w9 ⟨rfl, hb9⟩
            have M9 := hid (M8.out.keep hb9).x
            clear hb9 cN M8 y0 y1 y2 y3
            go_wp2_with (fail)
            refine (lives _ M9.out.R M9.out.J).mono ?_
            rintro e wz ⟨rfl, hbz⟩
            have BZ := hid (M9.out.below.trans (hbz.mono M9.out.below.size))
            clear hbz
            go_wp2_with (fail)
            go_ret
            exact ⟨rfl, BZ.out⟩
          · rw [more_len] at he hlen2
            subst he
            obtain ⟨h1, h2, h3⟩ := more_late (st := ST) hkl HE.out (by rw [hnm]; exact hE2) HL.out HFI.out (by rw [hnm]; exact hm) hfine2
            have H2 := hid h2
            have H3 := hid h3
            have HR2 := hid hrw2
            have HLN2 := hid hlen2
            have HFM := hid hfine2
            clear hE2 hm h1 h2 h3 hrw2 hlen2 hfine2 y0 y1 y2 y3
            have hn1 : ((p.flows.length + 1 : Nat) : Int) = (p.flows.length : Int) + 1 := by omega
            have hwn : IntKind.i64.wrap ((p.flows.length : Int) + 1) = (p.flows.length : Int) + 1 := by rw [IntKind.wrap_i64]; omega
            go_wp2_with (fail)
            go_loopw [12] (fun i wr => ∃ j : Nat, j ≤ p.flows.length ∧ i = .int .i64 (j : Int) ∧ Hid (Below w8.heap.size w8 wr)) (fun i _ => p.flows.length - (intOf i).toNat)
            case atStart => exact ⟨0, Nat.zero_le _, rfl, hid (Below.refl _ _)⟩
            case round =>
              obtain ⟨j, hj, rfl, HBJ⟩ := hrel
              obtain ⟨vr, rfl⟩ : ∃ vr, vr = wr := ⟨_, rfl⟩
              have MR := hid (M8.out.keep HBJ.out)
              have HR3 : Hid (Rowl vr b2 m) := hid (keep_row HR2.out HBJ.out)
              by_cases hjl : j < p.flows.length
              · have hjl' : (j : Int) < (p.flows.length : Int) := by omega
                have hjl2 : (j : Int) < (p.flows.length : Int) + 1 := by omega
                have hj0 : (0 : Int) ≤ (j : Int) := by omega
                have HJL := hid (show j < l.length by rw [HLEN.out]; exact hjl)
                have HJM := hid (show j < m.length by rw [HLN2.out]; omega)
                have z0 := MR.out.lat.cell j HJL.out
                have z1 := HR3.out.cell j HJM.out
                rw [← lateAt_nat l j HJL.out] at z0
                rw [← lateAt_nat m j HJM.out, H2.out j HJL.out] at z1
                generalize lateAt l (j : Int) = F at z0 z1
                go_wp2_with (fail)
                go_region
                go_wp2_with (fail)
                go_roundw
                case rel => exact ⟨j + 1, by omega, by go_num, hid HBJ.out.drew⟩
                case measure => simp [intOf]; omega
              · have hjl' : ¬ (j : Int) < (p.flows.length : Int) := by omega
                have hkl' : (k : Int) < (p.flows.length : Int) := by omega
                have hk0 : (0 : Int) ≤ (k : Int) := by omega
                have hnn : (p.flows.length : Int) < (p.flows.length : Int) + 1 := by omega
                have hnn0 : (0 : Int) ≤ (p.flows.length : Int) := by omega
                have HKL := hid (show k < l.length by rw [HLEN.out]; exact hkl)
                have HNM := hid (show p.flows.length < m.length by rw [HLN2.out]; omega)
                have z0 := MR.out.lat.cell k HKL.out
                have z1 := HR3.out.cell p.flows.length HNM.out
                rw [← lateAt_nat l k HKL.out] at z0
                rw [← lateAt_nat m p.flows.length HNM.out, H3.out] at z1
                have hfb := HFI.out.at (k : Int)
                have z2 := MR.out.new
                have z3 := ((hcc k hkl).keep MR.out.x.below).2.2.1
                obtain ⟨y0, y1, y2, y3⟩ := row4 MR.out.row
                obtain ⟨s0, s1, s2, s3⟩ := row4 MR.out.x.row
                clear hj hjl
                generalize lateAt l (k : Int) = F at z0 z1 hfb
                have hF0 : IntKind.i64.wrap F = F := by rw [IntKind.wrap_i64]; omega
                have hF1 : IntKind.i64.wrap (F + 1) = F + 1 := by rw [IntKind.wrap_i64]; omega
                by_cases hfs : p.flows[k].st = ST
                · rw [if_pos hfs] at z1
                  rw [hfs] at z3
                  go_wp2_with (fail)
                  go_region
                  go_wp2_with (fail)
                  refine wp_region_held_drew (S := fun W => W.cell? ⟨b, k, none⟩ = some (.int .i64 F) ∧ W.cell? ⟨b2, p.flows.length, none⟩ = some (.int .i64 (F + 0))) (by kernel_rfl) ?_ (fun hHeld => ?_)
                  · exact ⟨z0, z1⟩
                  refine wpAnyH_take (i := 0) (oi := { dst := some 120, op := Go.Op.move (Go.Operand.tmp 10), type := 27, pos := _, after := #[], guard := none }) (v := ?_) rfl (by kernel_rfl) (by kernel_rfl) (by kernel_rfl) (fun _ _ _ h => h) (Or.inl ⟨by rfl, ?_⟩) (by assumption) ?_
                  rotate_left
                  · intro w hSw; (try dsimp only at hSw); go_simp <;> first | with_reducible rfl | (rw [if_neg (by first | omega | (simp only [ByteArray.size_append] at *; omega))])
                  simp only [Act.put, List.setIfInBounds_toArray, List.set_cons_zero, List.set_cons_succ]
                  refine wpAnyH_take (i := 1) (oi := { dst := some 121, op := Go.Op.move (Go.Operand.tmp 7), type := 27, pos := _, after := #[], guard := none }) (v := ?_) rfl (by kernel_rfl) (by kernel_rfl) (by kernel_rfl) (fun _ _ _ h => h) (Or.inl ⟨by rfl, ?_⟩) (by assumption) ?_
                  rotate_left
                  · intro w hSw; (try dsimp only at hSw); go_simp <;> first | with_reducible rfl | (rw [if_neg (by first | omega | (simp only [ByteArray.size_append] at *; omega))])
                  simp only [Act.put, List.setIfInBounds_toArray, List.set_cons_zero, List.set_cons_succ]
                  refine wpAnyH_take (i := 2) (oi := { dst := some 122, op := Go.Op.call { callee := Go.Callee.builtin Go.Builtin.len, args := #[Go.Operand.tmp 121], argTypes := #[27] }, type := 3, pos := _, after := #[{ on := 1, ground := Go.Ground.data }], guard := none }) (v := ?_) rfl (by kernel_rfl) (by kernel_rfl) (by kernel_rfl) (fun _ _ _ h => h) (Or.inl ⟨by rfl, ?_⟩) (by assumption) ?_
                  rotate_left
                  · intro w hSw; (try dsimp only at hSw); go_simp <;> first | with_reducible rfl | (rw [if_neg (by first | omega | (simp only [ByteArray.size_append] at *; omega))])
                  simp only [Act.put, List.setIfInBounds_toArray, List.set_cons_zero, List.set_cons_succ]
                  refine wpAnyH_take (i := 3) (oi := { dst := some 123, op := Go.Op.indexAddr 27 (Go.Operand.tmp 120) (Go.Operand.tmp 122), type := 0, pos := _, after := #[{ on := 0, ground := Go.Ground.data }, { on := 2, ground := Go.Ground.data }], guard := none }) (v := ?_) rfl (by kernel_rfl) (by kernel_rfl) (by kernel_rfl) (fun _ _ _ h => h) (Or.inl ⟨by rfl, ?_⟩) (by assumption) ?_
                  rotate_left
                  · intro w hSw; (try dsimp only at hSw); go_simp <;> first | with_reducible rfl | (rw [if_neg (by first | omega | (simp only [ByteArray.size_append] at *; omega))])
                  simp only [Act.put, List.setIfInBounds_toArray, List.set_cons_zero, List.set_cons_succ]
                  refine wpAnyH_take (i := 4) (oi := { dst := some 124, op := Go.Op.load 3 (Go.Operand.tmp 123), type := 3, pos := _, after := #[{ on := 3, ground := Go.Ground.data }], guard := none }) (v := ?_) rfl (by kernel_rfl) (by kernel_rfl) (by kernel_rfl) (fun _ _ _ h => h) (Or.inl ⟨by rfl, ?_⟩) (by assumption) ?_
                  rotate_left
                  · intro w hSw; (try dsimp only at hSw); go_simp <;> first | with_reducible rfl | (rw [if_neg (by first | omega | (simp only [ByteArray.size_append] at *; omega))])
                  simp only [Act.put, List.setIfInBounds_toArray, List.set_cons_zero, List.set_cons_succ]
                  refine wpAnyH_take (i := 5) (oi := { dst := some 125, op := Go.Op.move (Go.Operand.tmp 7), type := 27, pos := _, after := #[], guard := none }) (v := ?_) rfl (by kernel_rfl) (by kernel_rfl) (by kernel_rfl) (fun _ _ _ h => h) (Or.inl ⟨by rfl, ?_⟩) (by assumption) ?_
                  rotate_left
                  · intro w hSw; (try dsimp only at hSw); go_simp <;> first | with_reducible rfl | (rw [if_neg (by first | omega | (simp only [ByteArray.size_append] at *; omega))])
                  simp only [Act.put, List.setIfInBounds_toArray, List.set_cons_zero, List.set_cons_succ]
                  refine wpAnyH_take (i := 6) (oi := { dst := some 126, op := Go.Op.move (Go.Operand.tmp 13), type := 3, pos := _, after := #[], guard := none }) (v := ?_) rfl (by kernel_rfl) (by kernel_rfl) (by kernel_rfl) (fun _ _ _ h => h) (Or.inl ⟨by rfl, ?_⟩) (by assumption) ?_
                  rotate_left
                  · intro w hSw; (try dsimp only at hSw); go_simp <;> first | with_reducible rfl | (rw [if_neg (by first | omega | (simp only [ByteArray.size_append] at *; omega))])
                  simp only [Act.put, List.setIfInBounds_toArray, List.set_cons_zero, List.set_cons_succ]
                  refine wpAnyH_take (i := 7) (oi := { dst := some 127, op := Go.Op.indexAddr 27 (Go.Operand.tmp 125) (Go.Operand.tmp 126), type := 0, pos := _, after := #[{ on := 5, ground := Go.Ground.data }, { on := 6, ground := Go.Ground.data }], guard := none }) (v := ?_) rfl (by kernel_rfl) (by kernel_rfl) (by kernel_rfl) (fun _ _ _ h => h) (Or.inl ⟨by rfl, ?_⟩) (by assumption) ?_
                  rotate_left
                  · intro w hSw; (try dsimp only at hSw); go_simp <;> first | with_reducible rfl | (rw [if_neg (by first | omega | (simp only [ByteArray.size_append] at *; omega))])
                  simp only [Act.put, List.setIfInBounds_toArray, List.set_cons_zero, List.set_cons_succ]
                  refine wpAnyH_take (i := 8) (oi := { dst := some 128, op := Go.Op.load 3 (Go.Operand.tmp 127), type := 3, pos := _, after := #[{ on := 7, ground := Go.Ground.data }], guard := none }) (v := ?_) rfl (by kernel_rfl) (by kernel_rfl) (by kernel_rfl) (fun _ _ _ h => h) (Or.inl ⟨by rfl, ?_⟩) (by assumption) ?_
                  rotate_left
                  · intro w hSw; (try dsimp only at hSw); go_simp <;> first | with_reducible rfl | (rw [if_neg (by first | omega | (simp only [ByteArray.size_append] at *; omega))])
                  simp only [Act.put, List.setIfInBounds_toArray, List.set_cons_zero, List.set_cons_succ]
                  refine wpAnyH_take (i := 9) (oi := { dst := some 129, op := Go.Op.move (Go.Operand.tmp 14), type := 3, pos := _, after := #[], guard := none }) (v := ?_) rfl (by kernel_rfl) (by kernel_rfl) (by kernel_rfl) (fun _ _ _ h => h) (Or.inl ⟨by rfl, ?_⟩) (by assumption) ?_
                  rotate_left
                  · intro w hSw; (try dsimp only at hSw); go_simp <;> first | with_reducible rfl | (rw [if_neg (by first | omega | (simp only [ByteArray.size_append] at *; omega))])
                  simp only [Act.put, List.setIfInBounds_toArray, List.set_cons_zero, List.set_cons_succ]
                  refine wpAnyH_take (i := 10) (oi := { dst := some 130, op := Go.Op.binOp Go.BinOp.add 3 (Go.Operand.tmp 128) (Go.Operand.tmp 129) 3, type := 3, pos := _, after := #[{ on := 8, ground := Go.Ground.data }, { on := 9, ground := Go.Ground.data }], guard := none }) (v := ?_) rfl (by kernel_rfl) (by kernel_rfl) (by kernel_rfl) (fun _ _ _ h => h) (Or.inl ⟨by rfl, ?_⟩) (by assumption) ?_
                  rotate_left
                  · intro w hSw; (try dsimp only at hSw); go_simp <;> first | with_reducible rfl | (rw [if_neg (by first | omega | (simp only [ByteArray.size_append] at *; omega))])
                  simp only [Act.put, List.setIfInBounds_toArray, List.set_cons_zero, List.set_cons_succ]
                  refine wpAnyH_take (i := 11) (oi := { dst := some 131, op := Go.Op.binOp Go.BinOp.eql 3 (Go.Operand.tmp 124) (Go.Operand.tmp 130) 3, type := 4, pos := _, after := #[{ on := 4, ground := Go.Ground.data }, { on := 10, ground := Go.Ground.data }], guard := none }) (v := ?_) rfl (by kernel_rfl) (by kernel_rfl) (by kernel_rfl) (fun _ _ _ h => h) (Or.inl ⟨by rfl, ?_⟩) (by assumption) ?_
                  rotate_left
                  · intro w hSw; (try dsimp only at hSw); go_simp <;> first | with_reducible rfl | (rw [if_neg (by first | omega | (simp only [ByteArray.size_append] at *; omega))])
                  simp only [Act.put, List.setIfInBounds_toArray, List.set_cons_zero, List.set_cons_succ]
                  refine wpAnyH_take (i := 12) (oi := { dst := some 132, op := Go.Op.move (Go.Operand.tmp 131), type := 4, pos := _, after := #[{ on := 11, ground := Go.Ground.data }], guard := none }) (v := ?_) rfl (by kernel_rfl) (by kernel_rfl) (by kernel_rfl) (fun _ _ _ h => h) (Or.inl ⟨by rfl, ?_⟩) (by assumption) ?_
                  rotate_left
                  · intro w hSw; (try dsimp only at hSw); go_simp <;> first | with_reducible rfl | (rw [if_neg (by first | omega | (simp only [ByteArray.size_append] at *; omega))])
                  simp only [Act.put, List.setIfInBounds_toArray, List.set_cons_zero, List.set_cons_succ]
                  refine wpAnyH_ready (rs := [13]) (by kernel_rfl) (by simp) ?_
                  refine AllReadyH.cons (o := { dst := some 133, op := Go.Op.call { callee := Go.Callee.value (Go.Operand.func 8), args := #[], argTypes := #[] }, type := 4, pos := _, after := #[{ on := 12, ground := Go.Ground.chain }, { on := 12, ground := Go.Ground.guard }], guard := some (12, true) }) rfl (fun K hK => ?_) AllReadyH.nil
                  go_simp
                  have HDD := hid ((Below.refl vr.heap.size vr).drew.drew)
                  have MR2 := hid (MR.out.keep HDD.out)
                  refine (lives _ MR2.out.x.R MR2.out.x.J).mono ?_
                  rintro e wz ⟨rfl, hbz⟩
                  have BZ := hid (MR2.out.x.below.trans (hbz.mono MR2.out.x.below.size))
                  have z0z := cell_kept (cell_kept z0 HDD.out) hbz
                  have z1z := cell_kept (cell_kept z1 HDD.out) hbz
                  clear hbz
                  go_wp2_with fail
                  refine hK.out _ _ ?_ (fun hHeld1 => ?_)
                  · exact ⟨z0z, z1z⟩
                  clear hK K
                  (try simp only [Act.put, List.setIfInBounds_toArray, List.set_cons_zero, List.set_cons_succ])
                  refine wpAnyH_take (i := 14) (oi := { dst := some 134, op := Go.Op.pick (Go.Operand.tmp 132) (Go.Operand.tmp 133) (Go.Operand.const (Go.Value.bool false)), type := 4, pos := _, after := #[{ on := 12, ground := Go.Ground.data }, { on := 13, ground := Go.Ground.data }], guard := none }) (v := ?_) rfl (by kernel_rfl) (by kernel_rfl) (by kernel_rfl) (fun _ _ _ h => h) (Or.inl ⟨by rfl, ?_⟩) (by assumption) ?_
                  rotate_left
                  · intro w hSw; (try dsimp only at hSw); go_simp <;> first | with_reducible rfl | (rw [if_neg (by first | omega | (simp only [ByteArray.size_append] at *; omega))])
                  simp only [Act.put, List.setIfInBounds_toArray, List.set_cons_zero, List.set_cons_succ]
                  refine wpAnyH_take (i := 15) (oi := { dst := some 6, op := Go.Op.assign (Go.Operand.tmp 134), type := 4, pos := _, after := #[{ on := 14, ground := Go.Ground.data }, { on := 13, ground := Go.Ground.chain }, { on := 0, ground := Go.Ground.phase }, { on := 1, ground := Go.Ground.phase }, { on := 2, ground := Go.Ground.phase }, { on := 3, ground := Go.Ground.phase }, { on := 4, ground := Go.Ground.phase }, { on := 5, ground := Go.Ground.phase }, { on := 6, ground := Go.Ground.phase }, { on := 7, ground := Go.Ground.phase }, { on := 8, ground := Go.Ground.phase }, { on := 9, ground := Go.Ground.phase }, { on := 10, ground := Go.Ground.phase }, { on := 11, ground := Go.Ground.phase }, { on := 12, ground := Go.Ground.phase }, { on := 13, ground := Go.Ground.phase }, { on := 14, ground := Go.Ground.phase }], guard := none }) (v := ?_) rfl (by kernel_rfl) (by kernel_rfl) (by kernel_rfl) (fun _ _ _ h => h) (Or.inl ⟨by rfl, ?_⟩) (by assumption) ?_
                  rotate_left
                  · intro w hSw; (try dsimp only at hSw); go_simp <;> first | with_reducible rfl | (rw [if_neg (by first | omega | (simp only [ByteArray.size_append] at *; omega))])
                  simp only [Act.put, List.setIfInBounds_toArray, List.set_cons_zero, List.set_cons_succ]
                  refine wpAnyH_done (by kernel_rfl) ?_ _
                  go_wp2_with (fail)
                  go_ret
                  exact ⟨rfl, BZ.out⟩
                · rw [if_neg hfs] at z1
                  have hfs' : (ST != p.flows[k].st) = true := by simpa using fun h => hfs h.symm
                  clear hfs
                  generalize p.flows[k].st = fs at *
                  go_wp2_with (fail)
                  go_region
                  go_wp2_with (fail)
                  refine wp_region_held_drew (S := fun W => W.cell? ⟨b, k, none⟩ = some (.int .i64 F) ∧ W.cell? ⟨b2, p.flows.length, none⟩ = some (.int .i64 (F + 1))) (by kernel_rfl) ?_ (fun hHeld => ?_)
                  · exact ⟨z0, z1⟩
                  refine wpAnyH_take (i := 0) (oi := { dst := some 120, op := Go.Op.move (Go.Operand.tmp 10), type := 27, pos := _, after := #[], guard := none }) (v := ?_) rfl (by kernel_rfl) (by kernel_rfl) (by kernel_rfl) (fun _ _ _ h => h) (Or.inl ⟨by rfl, ?_⟩) (by assumption) ?_
                  rotate_left
                  · intro w hSw; (try dsimp only at hSw); go_simp <;> first | with_reducible rfl | (rw [if_neg (by first | omega | (simp only [ByteArray.size_append] at *; omega))])
                  simp only [Act.put, List.setIfInBounds_toArray, List.set_cons_zero, List.set_cons_succ]
                  refine wpAnyH_take (i := 1) (oi := { dst := some 121, op := Go.Op.move (Go.Operand.tmp 7), type := 27, pos := _, after := #[], guard := none }) (v := ?_) rfl (by kernel_rfl) (by kernel_rfl) (by kernel_rfl) (fun _ _ _ h => h) (Or.inl ⟨by rfl, ?_⟩) (by assumption) ?_
                  rotate_left
                  · intro w hSw; (try dsimp only at hSw); go_simp <;> first | with_reducible rfl | (rw [if_neg (by first | omega | (simp only [ByteArray.size_append] at *; omega))])
                  simp only [Act.put, List.setIfInBounds_toArray, List.set_cons_zero, List.set_cons_succ]
                  refine wpAnyH_take (i := 2) (oi := { dst := some 122, op := Go.Op.call { callee := Go.Callee.builtin Go.Builtin.len, args := #[Go.Operand.tmp 121], argTypes := #[27] }, type := 3, pos := _, after := #[{ on := 1, ground := Go.Ground.data }], guard := none }) (v := ?_) rfl (by kernel_rfl) (by kernel_rfl) (by kernel_rfl) (fun _ _ _ h => h) (Or.inl ⟨by rfl, ?_⟩) (by assumption) ?_
                  rotate_left
                  · intro w hSw; (try dsimp only at hSw); go_simp <;> first | with_reducible rfl | (rw [if_neg (by first | omega | (simp only [ByteArray.size_append] at *; omega))])
                  simp only [Act.put, List.setIfInBounds_toArray, List.set_cons_zero, List.set_cons_succ]
                  refine wpAnyH_take (i := 3) (oi := { dst := some 123, op := Go.Op.indexAddr 27 (Go.Operand.tmp 120) (Go.Operand.tmp 122), type := 0, pos := _, after := #[{ on := 0, ground := Go.Ground.data }, { on := 2, ground := Go.Ground.data }], guard := none }) (v := ?_) rfl (by kernel_rfl) (by kernel_rfl) (by kernel_rfl) (fun _ _ _ h => h) (Or.inl ⟨by rfl, ?_⟩) (by assumption) ?_
                  rotate_left
                  · intro w hSw; (try dsimp only at hSw); go_simp <;> first | with_reducible rfl | (rw [if_neg (by first | omega | (simp only [ByteArray.size_append] at *; omega))])
                  simp only [Act.put, List.setIfInBounds_toArray, List.set_cons_zero, List.set_cons_succ]
                  refine wpAnyH_take (i := 4) (oi := { dst := some 124, op := Go.Op.load 3 (Go.Operand.tmp 123), type := 3, pos := _, after := #[{ on := 3, ground := Go.Ground.data }], guard := none }) (v := ?_) rfl (by kernel_rfl) (by kernel_rfl) (by kernel_rfl) (fun _ _ _ h => h) (Or.inl ⟨by rfl, ?_⟩) (by assumption) ?_
                  rotate_left
                  · intro w hSw; (try dsimp only at hSw); go_simp <;> first | with_reducible rfl | (rw [if_neg (by first | omega | (simp only [ByteArray.size_append] at *; omega))])
                  simp only [Act.put, List.setIfInBounds_toArray, List.set_cons_zero, List.set_cons_succ]
                  refine wpAnyH_take (i := 5) (oi := { dst := some 125, op := Go.Op.move (Go.Operand.tmp 7), type := 27, pos := _, after := #[], guard := none }) (v := ?_) rfl (by kernel_rfl) (by kernel_rfl) (by kernel_rfl) (fun _ _ _ h => h) (Or.inl ⟨by rfl, ?_⟩) (by assumption) ?_
                  rotate_left
                  · intro w hSw; (try dsimp only at hSw); go_simp <;> first | with_reducible rfl | (rw [if_neg (by first | omega | (simp only [ByteArray.size_append] at *; omega))])
                  simp only [Act.put, List.setIfInBounds_toArray, List.set_cons_zero, List.set_cons_succ]
                  refine wpAnyH_take (i := 6) (oi := { dst := some 126, op := Go.Op.move (Go.Operand.tmp 13), type := 3, pos := _, after := #[], guard := none }) (v := ?_) rfl (by kernel_rfl) (by kernel_rfl) (by kernel_rfl) (fun _ _ _ h => h) (Or.inl ⟨by rfl, ?_⟩) (by assumption) ?_
                  rotate_left
                  · intro w hSw; (try dsimp only at hSw); go_simp <;> first | with_reducible rfl | (rw [if_neg (by first | omega | (simp only [ByteArray.size_append] at *; omega))])
                  simp only [Act.put, List.setIfInBounds_toArray, List.set_cons_zero, List.set_cons_succ]
                  refine wpAnyH_take (i := 7) (oi := { dst := some 127, op := Go.Op.indexAddr 27 (Go.Operand.tmp 125) (Go.Operand.tmp 126), type := 0, pos := _, after := #[{ on := 5, ground := Go.Ground.data }, { on := 6, ground := Go.Ground.data }], guard := none }) (v := ?_) rfl (by kernel_rfl) (by kernel_rfl) (by kernel_rfl) (fun _ _ _ h => h) (Or.inl ⟨by rfl, ?_⟩) (by assumption) ?_
                  rotate_left
                  · intro w hSw; (try dsimp only at hSw); go_simp <;> first | with_reducible rfl | (rw [if_neg (by first | omega | (simp only [ByteArray.size_append] at *; omega))])
                  simp only [Act.put, List.setIfInBounds_toArray, List.set_cons_zero, List.set_cons_succ]
                  refine wpAnyH_take (i := 8) (oi := { dst := some 128, op := Go.Op.load 3 (Go.Operand.tmp 127), type := 3, pos := _, after := #[{ on := 7, ground := Go.Ground.data }], guard := none }) (v := ?_) rfl (by kernel_rfl) (by kernel_rfl) (by kernel_rfl) (fun _ _ _ h => h) (Or.inl ⟨by rfl, ?_⟩) (by assumption) ?_
                  rotate_left
                  · intro w hSw; (try dsimp only at hSw); go_simp <;> first | with_reducible rfl | (rw [if_neg (by first | omega | (simp only [ByteArray.size_append] at *; omega))])
                  simp only [Act.put, List.setIfInBounds_toArray, List.set_cons_zero, List.set_cons_succ]
                  refine wpAnyH_take (i := 9) (oi := { dst := some 129, op := Go.Op.move (Go.Operand.tmp 14), type := 3, pos := _, after := #[], guard := none }) (v := ?_) rfl (by kernel_rfl) (by kernel_rfl) (by kernel_rfl) (fun _ _ _ h => h) (Or.inl ⟨by rfl, ?_⟩) (by assumption) ?_
                  rotate_left
                  · intro w hSw; (try dsimp only at hSw); go_simp <;> first | with_reducible rfl | (rw [if_neg (by first | omega | (simp only [ByteArray.size_append] at *; omega))])
                  simp only [Act.put, List.setIfInBounds_toArray, List.set_cons_zero, List.set_cons_succ]
                  refine wpAnyH_take (i := 10) (oi := { dst := some 130, op := Go.Op.binOp Go.BinOp.add 3 (Go.Operand.tmp 128) (Go.Operand.tmp 129) 3, type := 3, pos := _, after := #[{ on := 8, ground := Go.Ground.data }, { on := 9, ground := Go.Ground.data }], guard := none }) (v := ?_) rfl (by kernel_rfl) (by kernel_rfl) (by kernel_rfl) (fun _ _ _ h => h) (Or.inl ⟨by rfl, ?_⟩) (by assumption) ?_
                  rotate_left
                  · intro w hSw; (try dsimp only at hSw); go_simp <;> first | with_reducible rfl | (rw [if_neg (by first | omega | (simp only [ByteArray.size_append] at *; omega))])
                  simp only [Act.put, List.setIfInBounds_toArray, List.set_cons_zero, List.set_cons_succ]
                  refine wpAnyH_take (i := 11) (oi := { dst := some 131, op := Go.Op.binOp Go.BinOp.eql 3 (Go.Operand.tmp 124) (Go.Operand.tmp 130) 3, type := 4, pos := _, after := #[{ on := 4, ground := Go.Ground.data }, { on := 10, ground := Go.Ground.data }], guard := none }) (v := ?_) rfl (by kernel_rfl) (by kernel_rfl) (by kernel_rfl) (fun _ _ _ h => h) (Or.inl ⟨by rfl, ?_⟩) (by assumption) ?_
                  rotate_left
                  · intro w hSw; (try dsimp only at hSw); go_simp <;> first | with_reducible rfl | (rw [if_neg (by first | omega | (simp only [ByteArray.size_append] at *; omega))])
                  simp only [Act.put, List.setIfInBounds_toArray, List.set_cons_zero, List.set_cons_succ]
                  refine wpAnyH_take (i := 12) (oi := { dst := some 132, op := Go.Op.move (Go.Operand.tmp 131), type := 4, pos := _, after := #[{ on := 11, ground := Go.Ground.data }], guard := none }) (v := ?_) rfl (by kernel_rfl) (by kernel_rfl) (by kernel_rfl) (fun _ _ _ h => h) (Or.inl ⟨by rfl, ?_⟩) (by assumption) ?_
                  rotate_left
                  · intro w hSw; (try dsimp only at hSw); go_simp <;> first | with_reducible rfl | (rw [if_neg (by first | omega | (simp only [ByteArray.size_append] at *; omega))])
                  simp only [Act.put, List.setIfInBounds_toArray, List.set_cons_zero, List.set_cons_succ]
                  refine wpAnyH_ready (rs := [13]) (by kernel_rfl) (by simp) ?_
                  refine AllReadyH.cons (o := { dst := some 133, op := Go.Op.call { callee := Go.Callee.value (Go.Operand.func 8), args := #[], argTypes := #[] }, type := 4, pos := _, after := #[{ on := 12, ground := Go.Ground.chain }, { on := 12, ground := Go.Ground.guard }], guard := some (12, true) }) rfl (fun K hK => ?_) AllReadyH.nil
                  go_simp
                  have HDD := hid ((Below.refl vr.heap.size vr).drew.drew)
                  have MR2 := hid (MR.out.keep HDD.out)
                  refine (lives _ MR2.out.x.R MR2.out.x.J).mono ?_
                  rintro e wz ⟨rfl, hbz⟩
                  have BZ := hid (MR2.out.x.below.trans (hbz.mono MR2.out.x.below.size))
                  have z0z := cell_kept (cell_kept z0 HDD.out) hbz
                  have z1z := cell_kept (cell_kept z1 HDD.out) hbz
                  clear hbz
                  go_wp2_with fail
                  refine hK.out _ _ ?_ (fun hHeld1 => ?_)
                  · exact ⟨z0z, z1z⟩
                  clear hK K
                  (try simp only [Act.put, List.setIfInBounds_toArray, List.set_cons_zero, List.set_cons_succ])
                  refine wpAnyH_take (i := 14) (oi := { dst := some 134, op := Go.Op.pick (Go.Operand.tmp 132) (Go.Operand.tmp 133) (Go.Operand.const (Go.Value.bool false)), type := 4, pos := _, after := #[{ on := 12, ground := Go.Ground.data }, { on := 13, ground := Go.Ground.data }], guard := none }) (v := ?_) rfl (by kernel_rfl) (by kernel_rfl) (by kernel_rfl) (fun _ _ _ h => h) (Or.inl ⟨by rfl, ?_⟩) (by assumption) ?_
                  rotate_left
                  · intro w hSw; (try dsimp only at hSw); go_simp <;> first | with_reducible rfl | (rw [if_neg (by first | omega | (simp only [ByteArray.size_append] at *; omega))])
                  simp only [Act.put, List.setIfInBounds_toArray, List.set_cons_zero, List.set_cons_succ]
                  refine wpAnyH_take (i := 15) (oi := { dst := some 6, op := Go.Op.assign (Go.Operand.tmp 134), type := 4, pos := _, after := #[{ on := 14, ground := Go.Ground.data }, { on := 13, ground := Go.Ground.chain }, { on := 0, ground := Go.Ground.phase }, { on := 1, ground := Go.Ground.phase }, { on := 2, ground := Go.Ground.phase }, { on := 3, ground := Go.Ground.phase }, { on := 4, ground := Go.Ground.phase }, { on := 5, ground := Go.Ground.phase }, { on := 6, ground := Go.Ground.phase }, { on := 7, ground := Go.Ground.phase }, { on := 8, ground := Go.Ground.phase }, { on := 9, ground := Go.Ground.phase }, { on := 10, ground := Go.Ground.phase }, { on := 11, ground := Go.Ground.phase }, { on := 12, ground := Go.Ground.phase }, { on := 13, ground := Go.Ground.phase }, { on := 14, ground := Go.Ground.phase }], guard := none }) (v := ?_) rfl (by kernel_rfl) (by kernel_rfl) (by kernel_rfl) (fun _ _ _ h => h) (Or.inl ⟨by rfl, ?_⟩) (by assumption) ?_
                  rotate_left
                  · intro w hSw; (try dsimp only at hSw); go_simp <;> first | with_reducible rfl | (rw [if_neg (by first | omega | (simp only [ByteArray.size_append] at *; omega))])
                  simp only [Act.put, List.setIfInBounds_toArray, List.set_cons_zero, List.set_cons_succ]
                  refine wpAnyH_done (by kernel_rfl) ?_ _
                  go_wp2_with (fail)
                  go_ret
                  exact ⟨rfl, BZ.out⟩
end Go.Proofs.YtmlapodhpinhmaaDoor.Lex
