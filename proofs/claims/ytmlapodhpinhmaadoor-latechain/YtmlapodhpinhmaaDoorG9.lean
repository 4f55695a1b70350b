/-
  The walk of LateLeast.
  Bytes, and rows of yes and no, that came in.
  A chain of flows: its names, and how late they are, as plain mathematics.
  A flow that nobody asks for, behind all others, makes none of them later: plain mathematics.
  A row of flows that is copied, with one more behind it.
  A drawn region whose last operation waits for all others: each of these is met once, whatever the order, and then the last one.
  A chain that grows: rows of yes and no that came in, the chain in memory, and slots that were filled in any order.
  A chain that is one flow longer.
-/
import Derived.Test.YtmlapodhpinhmaaDoorG8
import Derived.Test.YtmlapodhpinhmaaDoorG7
import Derived.ProofKit
import Derived.OpenShut
import Derived.ShutString
import Derived.ChangeOld
import Derived.SizedLaws
import Derived.Deep.AppendLies
import Derived.Deep.MidRow
import Derived.Maps.AppendAt
import Derived.Deep.Grids
namespace Go.Proofs.YtmlapodhpinhmaaDoor.Lex
open Go.ChangeShapes Go.WideShapes Go.ChangeAt Go.RowKit Go.Joins
/-- Bytes that are read. -/
def BAt (w : World) (f : Nat → Nat) (n : Nat) (v : Value) : Prop := ∃ (ao : Option Addr) (cap : Nat), v = .slice ao n cap ∧ n ≤ 140737488355328 ∧ (n = 0 ∨ ∃ b o, ao = some ⟨b, o, none⟩ ∧ ∀ i, i < n → w.cell? ⟨b, o + i, none⟩ = some (.int .u8 (f i : Int)) ∧ f i < 256)
theorem BAt.keep {w w' : World} {f : Nat → Nat} {n : Nat} {v : Value} (h : BAt w f n v) (hb : Below w.heap.size w w') : BAt w' f n v := by
  obtain ⟨ao, cap, e, h1, h2⟩ := h
  exact ⟨ao, cap, e, h1, h2.imp id (fun ⟨b, o, e, h⟩ => ⟨b, o, e, fun i hi => ⟨cell_kept (h i hi).1 hb, (h i hi).2⟩⟩)⟩
/-- A program in its variable, how late its flows are, bytes, the tables. -/
structure LS (w : World) (p : Pg) (A B C : Value) (b : Nat) (l : List Int) (f : Nat → Nat) (n : Nat) (v : Value) (W : World) : Prop where
  row : W.heap[w.heap.size]? = some (.cells (pgC p A B C) 26 (0, 0))
  P : PgAt W p A B C
  lat : Rowl W b l
  len : l.length = p.flows.length
  few : p.flows.length ≤ 1000000
  M : BAt W f n v
  R : TabR W
  J : TabJ W
  below : Below w.heap.size w W
theorem LS.keep {w W W' : World} {p : Pg} {A B C : Value} {b : Nat} {l : List Int} {f : Nat → Nat} {n : Nat} {v : Value} (h : LS w p A B C b l f n v W) (hb : Below W.heap.size W W') : LS w p A B C b l f n v W' :=
  ⟨keep_row h.row hb, h.P.keep hb, keep_row h.lat hb, h.len, h.few, h.M.keep hb, h.R.below hb, h.J.below hb, h.below.trans (hb.mono h.below.size)⟩
theorem LS.ia {w W : World} {p : Pg} {A B C : Value} {b : Nat} {l : List Int} {f : Nat → Nat} {n : Nat} {v : Value} (h : LS w p A B C b l f n v W) : IAt W l (.slice (some ⟨b, 0, none⟩) p.flows.length p.flows.length) := by
  have := h.lat.at (by have := h.len; have := h.few; omega)
  rwa [h.len] at this
/-- What holds of the copy while it is made later. -/
structure ThirdI (l o : List Int) (k N q : Nat) : Prop where
  len : o.length = N
  own : lateAt o k = lateAt l k
  le : ∀ j : Nat, j < N → lateAt l j ≤ lateAt o j
  todo : ∀ j : Nat, q ≤ j → lateAt o j = lateAt l j
set_option maxRecDepth 100000 in
set_option maxHeartbeats 16000000 in
theorem walk4 (p : Pg) (f : Nat → Nat) (n : Nat) (v : Value) (w : World) (A B C : Value) (hP : PgAt w p A B C) (hM : BAt w f n v) (hR : TabR w) (hJ : TabJ w) : Calls Tryd.prog 4 #[pgV p A B C, v] w fun e w' => e = .returned (.bool true) ∧ Below w.heap.size w w' := by
  obtain ⟨A0, A1, rfl, _⟩ := hP.ins
  obtain ⟨B0, B1, SL, rfl, hfl, _, _, hfc, hfs⟩ := hP.flows
  have HFC := hid hfc
  have HFS := hid hfs
  clear hfc hfs
  obtain ⟨C0, C1, rfl, _⟩ := hP.outs
  have X0 := hid (FV.new hP hR hJ)
  have M0 := hid (hM.keep ((Below.refl w.heap.size w).alloc (Nat.le_refl _) (.cells (pgC p (.slice A0 p.ins.length A1) (.slice B0 p.flows.length B1) (.slice C0 p.outs.length C1)) 26)))
  obtain ⟨ma, mc, rfl, hmn, _⟩ := hM
  clear hP hR hJ
  obtain ⟨W0, hW0⟩ : ∃ W0, W0 = w.alloc (.cells (pgC p (.slice A0 p.ins.length A1) (.slice B0 p.flows.length B1) (.slice C0 p.outs.length C1)) 26) := ⟨_, rfl⟩
  rw [← hW0] at X0 M0
  obtain ⟨r0, r1, r2, r3⟩ := row4 X0.out.row
  rw [hW0] at r0 r1 r2 r3
  go_enter Tryd.func4, Tryd.ntmps4
  go_wp2_with (fail)
  rw [← hW0]
  clear hW0 r0 r1 r2 r3
  refine (great p _ _ _ _ X0.out.P).mono ?_
  rintro e w1 ⟨⟨gr, rfl, hgr⟩, hb1⟩
  have X1 := hid (X0.out.keep hb1)
  have M1 := hid (M0.out.keep hb1)
  have HGR := hid hgr
  clear hb1 X0 M0 hgr
  obtain ⟨s0, s1, s2, s3⟩ := row4 X1.out.row
  cases gr with
  | true =>
    go_wp2_with (fail)
    refine (lives _ X1.out.R X1.out.J).mono ?_
    rintro e w2 ⟨rfl, hb2⟩
    have B2 := hid (X1.out.below.trans (hb2.mono X1.out.below.size))
    clear hb2
    go_wp2_with (fail)
    go_ret
    exact ⟨rfl, B2.out⟩
  | false =>
    have hgs := HGR.out rfl
    go_wp2_with (fail)
    refine (of_l p _ _ _ _ X1.out.P X1.out.R X1.out.J).mono ?_
    rintro e w2 ⟨hO, hb2⟩
    have X2 := hid (X1.out.keep hb2)
    have M2 := hid (M1.out.keep hb2)
    clear hb2 X1 M1 s0 s1 s2 s3 HGR
    obtain ⟨s0, s1, s2, s3⟩ := row4 X2.out.row
    rcases hO with ⟨hE, rfl⟩ | ⟨hE, _, rfl⟩ | ⟨l, b, hE, hl, rfl, hbw, hrw, hlen, hfine⟩
    · have hE' : (nmErr p != 0) = true := by simpa using hE
      have cN := (callsIn_wide (n := 20)).1 (names_check p _ _ _ _ X2.out.P X2.out.R X2.out.J)
      clear hE
      generalize nmErr p = E at *
      go_wp2_with (fail)
      refine cN.mono ?_
      rintro e w3 ⟨rfl, hb3⟩
      have X3 := hid (X2.out.keep hb3)
      clear hb3 cN s0 s1 s2 s3 X2
      go_wp2_with (fail)
      refine (lives _ X3.out.R X3.out.J).mono ?_
      rintro e w4 ⟨rfl, hb4⟩
      have B4 := hid (X3.out.below.trans (hb4.mono X3.out.below.size))
      clear hb4
      go_wp2_with (fail)
      go_ret
      exact ⟨rfl, B4.out⟩
    · have cN := (callsIn_wide (n := 20)).1 (names_check p _ _ _ _ X2.out.P X2.out.R X2.out.J)
      rw [hE] at cN
      have HE := hid hE
      clear hE
      go_wp2_with (fail)
      refine cN.mono ?_
      rintro e w3 ⟨rfl, hb3⟩
      have X3 := hid (X2.out.keep hb3)
      clear hb3 cN s0 s1 s2 s3 X2
      obtain ⟨s0, s1, s2, s3⟩ := row4 X3.out.row
      have cN := (callsIn_wide (n := 20)).1 (names_check p _ _ _ _ X3.out.P X3.out.R X3.out.J)
      rw [HE.out] at cN
      go_wp2_with (fail)
      refine cN.mono ?_
      rintro e w4 ⟨rfl, hb4⟩
      have X4 := hid (X3.out.keep hb4)
      clear hb4 cN s0 s1 s2 s3 X3
      go_wp2_with (fail)
      refine (lives _ X4.out.R X4.out.J).mono ?_
      rintro e w5 ⟨rfl, hb5⟩
      have B5 := hid (X4.out.below.trans (hb5.mono X4.out.below.size))
      clear hb5
      go_wp2_with (fail)
      go_ret
      exact ⟨rfl, B5.out⟩
    · obtain ⟨hok, _, hti, _⟩ := of_late hE hl hfine
      have L2 := hid (LS.mk X2.out.row X2.out.P hrw hlen (by omega) M2.out X2.out.R X2.out.J X2.out.below : LS w p _ _ _ b l f n _ w2)
      have HE := hid hE
      have HOK := hid hok
      have HTI := hid hti
      have HFI := hid hfine
      have HBW := hid hbw
      have HLEN := hid hlen
      clear hE hl hok hti hfine hbw hrw X2 M2 hlen
      go_wp2_with (fail)
      refine ((callsIn_wide (n := 20)).1 (check_ p l _ _ _ _ _ L2.out.P L2.out.ia L2.out.R L2.out.J)).mono ?_
      rintro e w3 ⟨rfl, hb3⟩
      rw [HOK.out]
      have L3 := hid (L2.out.keep hb3)
      clear hb3 L2 s0 s1 s2 s3
      obtain ⟨s0, s1, s2, s3⟩ := row4 L3.out.row
      go_wp2_with (fail)
      clear s0 s1 s2 s3
      go_loopw [7] (fun i wr => ∃ k : Nat, k ≤ p.flows.length ∧ i = .int .i64 (k : Int) ∧ Hid (LS w p (.slice A0 p.ins.length A1) (.slice B0 p.flows.length B1) (.slice C0 p.outs.length C1) b l f n (.slice ma n mc) wr)) (fun i _ => p.flows.length - (intOf i).toNat)
      case atStart => exact ⟨0, Nat.zero_le _, rfl, L3⟩
      case round =>
        obtain ⟨k, hk, rfl, LW⟩ := hrel
        by_cases hkl : k < p.flows.length
        · have hkl' : (k : Int) < (p.flows.length : Int) := by omega
          have hk0 : (0 : Int) ≤ (k : Int) := by omega
          obtain ⟨fb, fo, rfl, hcc⟩ := HFC.out.resolve_left (by omega)
          have FX := (hcc k hkl).keep LW.out.below
          have hSt := (HFS.out k hkl).keep LW.out.below
          obtain ⟨a3, c3, _, e3, _⟩ := (HFS.out k hkl).out
          rw [e3] at FX hSt
          have hnm := chk_nm (nm_chk HE.out _ (List.getElem_mem hkl))
          have HAT : Hid (∀ r ∈ gat 32 p.flows[k].body 0 [], ∃ a : Int, ageF p l k r.1 r.2 = (a, 0) ∧ 0 ≤ a) := hid (fun r hr => age_there HOK.out hkl hr)
          have hGl : (gat 32 p.flows[k].body 0 []).length ≤ 1000000 := by have h1 := gat_len 32 p.flows[k].body 0 []; have h2 := hnm.2; simp at h1; omega
          obtain ⟨q0, q1, q2, q3, q4, q5, q6, q7⟩ := FX
          obtain ⟨s0, s1, s2, s3⟩ := row4 LW.out.row
          have c19 := refs 32 p.flows[k].body _ _ hSt hnm.1 (by omega) (by omega)
          clear hcc e3 hSt hnm
          generalize p.flows[k].body = y at *
          generalize gat 32 y 0 [] = G at *
          go_wp2_with (fail)
          refine c19.mono ?_
          rintro e w4 ⟨rv, rfl, hrow, hb4⟩
          obtain ⟨ra, rc, rfl, hrf⟩ := RfAt.of_own hrow
          have L4 := hid (LW.out.keep hb4)
          have HRF := hid hrf
          clear hrow hrf hb4 c19 q0 q1 q2 q3 q4 q5 q6 q7 s0 s1 s2 s3
          go_wp2_with (fail)
          go_loopw [9] (fun j vr => ∃ m : Nat, m ≤ G.length ∧ j = .int .i64 (m : Int) ∧ Hid (Below w4.heap.size w4 vr)) (fun j _ => G.length - (intOf j).toNat)
          case atStart => exact ⟨0, Nat.zero_le _, rfl, hid (Below.refl _ _)⟩
          case round =>
            obtain ⟨m, hm, rfl, HBV⟩ := hrel
            obtain ⟨vr, rfl⟩ : ∃ vr, vr = wr := ⟨_, rfl⟩
            have XR := hid (L4.out.keep HBV.out)
            by_cases hml : m < G.length
            · have hml' : (m : Int) < (G.length : Int) := by omega
              have hm0 : (0 : Int) ≤ (m : Int) := by omega
              obtain ⟨g, rfl, hcc⟩ := HRF.out.resolve_left (by omega)
              have u0 := cell_kept (hcc m hml).1 HBV.out
              have u1 := cell_kept (hcc m hml).2 HBV.out
              obtain ⟨ag, hag, hag0⟩ := HAT.out _ (List.getElem_mem hml)
              obtain ⟨s0, s1, s2, s3⟩ := row4 XR.out.row
              clear hcc
              generalize G[m] = z at *
              go_wp2_with (fail)
              refine wp_region_held_drew (S := fun W => W.cell? ⟨w.heap.size, 0, none⟩ = some (.int .i64 p.st) ∧ W.cell? ⟨w.heap.size, 1, none⟩ = some (.slice A0 p.ins.length A1) ∧ W.cell? ⟨w.heap.size, 2, none⟩ = some (.slice (some ⟨fb, fo, none⟩) p.flows.length B1) ∧ W.cell? ⟨w.heap.size, 3, none⟩ = some (.slice C0 p.outs.length C1) ∧ W.cell? ⟨g, m * 2, none⟩ = some (.string z.1) ∧ W.cell? ⟨g, m * 2 + 1, none⟩ = some (.int .i64 (z.2 : Int))) (by kernel_rfl) ?_ (fun hHeld => ?_)
              · exact ⟨s0, s1, s2, s3, u0, u1⟩
              refine wpAnyH_take (i := 0) (oi := { dst := some 77, op := Go.Op.load 26 (Go.Operand.tmp 2), type := 26, pos := _, after := #[], guard := none }) (v := ?_) rfl (by kernel_rfl) (by kernel_rfl) (by kernel_rfl) (fun _ _ _ h => h) (Or.inl ⟨by rfl, ?_⟩) (by assumption) ?_
              rotate_left
              · intro w hSw; (try dsimp only at hSw); go_simp <;> first | with_reducible rfl | (rw [if_neg (by first | omega | (simp only [ByteArray.size_append] at *; omega))])
              simp only [Act.put, List.setIfInBounds_toArray, List.set_cons_zero, List.set_cons_succ]
              refine wpAnyH_take (i := 1) (oi := { dst := some 78, op := Go.Op.move (Go.Operand.tmp 5), type := 27, pos := _, after := #[], guard := none }) (v := ?_) rfl (by kernel_rfl) (by kernel_rfl) (by kernel_rfl) (fun _ _ _ h => h) (Or.inl ⟨by rfl, ?_⟩) (by assumption) ?_
              rotate_left
              · intro w hSw; (try dsimp only at hSw); go_simp <;> first | with_reducible rfl | (rw [if_neg (by first | omega | (simp only [ByteArray.size_append] at *; omega))])
              simp only [Act.put, List.setIfInBounds_toArray, List.set_cons_zero, List.set_cons_succ]
              refine wpAnyH_take (i := 2) (oi := { dst := some 79, op := Go.Op.move (Go.Operand.tmp 7), type := 3, pos := _, after := #[], guard := none }) (v := ?_) rfl (by kernel_rfl) (by kernel_rfl) (by kernel_rfl) (fun _ _ _ h => h) (Or.inl ⟨by rfl, ?_⟩) (by assumption) ?_
              rotate_left
              · intro w hSw; (try dsimp only at hSw); go_simp <;> first | with_reducible rfl | (rw [if_neg (by first | omega | (simp only [ByteArray.size_append] at *; omega))])
              simp only [Act.put, List.setIfInBounds_toArray, List.set_cons_zero, List.set_cons_succ]
              refine wpAnyH_take (i := 3) (oi := { dst := some 80, op := Go.Op.move (Go.Operand.tmp 8), type := 47, pos := _, after := #[], guard := none }) (v := ?_) rfl (by kernel_rfl) (by kernel_rfl) (by kernel_rfl) (fun _ _ _ h => h) (Or.inl ⟨by rfl, ?_⟩) (by assumption) ?_
              rotate_left
              · intro w hSw; (try dsimp only at hSw); go_simp <;> first | with_reducible rfl | (rw [if_neg (by first | omega | (simp only [ByteArray.size_append] at *; omega))])
              simp only [Act.put, List.setIfInBounds_toArray, List.set_cons_zero, List.set_cons_succ]
              refine wpAnyH_take (i := 4) (oi := { dst := some 81, op := Go.Op.move (Go.Operand.tmp 9), type := 3, pos := _, after := #[], guard := none }) (v := ?_) rfl (by kernel_rfl) (by kernel_rfl) (by kernel_rfl) (fun _ _ _ h => h) (Or.inl ⟨by rfl, ?_⟩) (by assumption) ?_
              rotate_left
              · intro w hSw; (try dsimp only at hSw); go_simp <;> first | with_reducible rfl | (rw [if_neg (by first | omega | (simp only [ByteArray.size_append] at *; omega))])
              simp only [Act.put, List.setIfInBounds_toArray, List.set_cons_zero, List.set_cons_succ]
              refine wpAnyH_take (i := 5) (oi := { dst := some 82, op := Go.Op.indexAddr 47 (Go.Operand.tmp 80) (Go.Operand.tmp 81), type := 0, pos := _, after := #[{ on := 3, ground := Go.Ground.data }, { on := 4, ground := Go.Ground.data }], guard := none }) (v := ?_) rfl (by kernel_rfl) (by kernel_rfl) (by kernel_rfl) (fun _ _ _ h => h) (Or.inl ⟨by rfl, ?_⟩) (by assumption) ?_
              rotate_left
              · intro w hSw; (try dsimp only at hSw); go_simp <;> first | with_reducible rfl | (rw [if_neg (by first | omega | (simp only [ByteArray.size_append] at *; omega))])
              simp only [Act.put, List.setIfInBounds_toArray, List.set_cons_zero, List.set_cons_succ]
              refine wpAnyH_take (i := 6) (oi := { dst := some 83, op := Go.Op.load 29 (Go.Operand.tmp 82), type := 29, pos := _, after := #[{ on := 5, ground := Go.Ground.data }], guard := none }) (v := ?_) rfl (by kernel_rfl) (by kernel_rfl) (by kernel_rfl) (fun _ _ _ h => h) (Or.inl ⟨by rfl, ?_⟩) (by assumption) ?_
              rotate_left
              · intro w hSw; (try dsimp only at hSw); go_simp <;> first | with_reducible rfl | (rw [if_neg (by first | omega | (simp only [ByteArray.size_append] at *; omega))])
              simp only [Act.put, List.setIfInBounds_toArray, List.set_cons_zero, List.set_cons_succ]
              refine wpAnyH_ready (rs := [7]) (by kernel_rfl) (by simp) ?_
              refine AllReadyH.cons (o := { dst := some 84, op := Go.Op.call { callee := Go.Callee.value (Go.Operand.func 11), args := #[Go.Operand.tmp 77, Go.Operand.tmp 78, Go.Operand.tmp 79, Go.Operand.tmp 83], argTypes := #[26, 27, 3, 29] }, type := 37, pos := _, after := #[{ on := 0, ground := Go.Ground.data }, { on := 1, ground := Go.Ground.data }, { on := 2, ground := Go.Ground.data }, { on := 6, ground := Go.Ground.data }], guard := none }) rfl (fun K hK => ?_) AllReadyH.nil
              go_simp
              refine ((callsIn_wide (n := 22)).1 (age_f p l _ _ _ _ _ _ _ _ (XR.out.P.keep (Below.refl _ _).drew) (XR.out.ia.keep (Below.refl _ _).drew) (XR.out.R.below (Below.refl _ _).drew) (XR.out.J.below (Below.refl _ _).drew))).mono ?_
              rintro e v4 ⟨rfl, hb4⟩
              rw [hag]
              have hb4' := (Below.refl vr.heap.size vr).drew.trans (hb4.mono (Nat.le_refl _))
              have X4 := hid (XR.out.keep hb4')
              have HB4 := hid hb4'
              obtain ⟨n0, n1, n2, n3⟩ := row4 X4.out.row
              have n4 := cell_kept u0 hb4'
              have n5 := cell_kept u1 hb4'
              clear hb4 hb4'
              go_wp2_with fail
              refine hK.out _ _ ?_ (fun hHeld1 => ?_)
              · exact ⟨n0, n1, n2, n3, n4, n5⟩
              clear hK K
              refine wpAnyH_take (i := 8) (oi := { dst := some 76, op := Go.Op.move (Go.Operand.tmp 84), type := 37, pos := _, after := #[{ on := 7, ground := Go.Ground.data }], guard := none }) (v := ?_) rfl (by kernel_rfl) (by kernel_rfl) (by kernel_rfl) (fun _ _ _ h => h) (Or.inl ⟨by rfl, ?_⟩) (by assumption) ?_
              rotate_left
              · intro w hSw; (try dsimp only at hSw); go_simp <;> first | with_reducible rfl | (rw [if_neg (by first | omega | (simp only [ByteArray.size_append] at *; omega))])
              simp only [Act.put, List.setIfInBounds_toArray, List.set_cons_zero, List.set_cons_succ]
              refine wpAnyH_take (i := 9) (oi := { dst := some 85, op := Go.Op.extract (Go.Operand.tmp 76) 0, type := 3, pos := _, after := #[{ on := 8, ground := Go.Ground.data }], guard := none }) (v := ?_) rfl (by kernel_rfl) (by kernel_rfl) (by kernel_rfl) (fun _ _ _ h => h) (Or.inl ⟨by rfl, ?_⟩) (by assumption) ?_
              rotate_left
              · intro w hSw; (try dsimp only at hSw); go_simp <;> first | with_reducible rfl | (rw [if_neg (by first | omega | (simp only [ByteArray.size_append] at *; omega))])
              simp only [Act.put, List.setIfInBounds_toArray, List.set_cons_zero, List.set_cons_succ]
              refine wpAnyH_take (i := 10) (oi := { dst := some 86, op := Go.Op.extract (Go.Operand.tmp 76) 1, type := 36, pos := _, after := #[{ on := 8, ground := Go.Ground.data }, { on := 11, ground := Go.Ground.gcOnly Go.Departure.lateStores }], guard := none }) (v := ?_) rfl (by kernel_rfl) (by kernel_rfl) (by kernel_rfl) (fun _ _ _ h => h) (Or.inl ⟨by rfl, ?_⟩) (by assumption) ?_
              rotate_left
              · intro w hSw; (try dsimp only at hSw); go_simp <;> first | with_reducible rfl | (rw [if_neg (by first | omega | (simp only [ByteArray.size_append] at *; omega))])
              simp only [Act.put, List.setIfInBounds_toArray, List.set_cons_zero, List.set_cons_succ]
              refine wpAnyH_take (i := 11) (oi := { dst := some 10, op := Go.Op.assign (Go.Operand.tmp 85), type := 3, pos := _, after := #[{ on := 9, ground := Go.Ground.data }, { on := 7, ground := Go.Ground.chain }, { on := 0, ground := Go.Ground.phase }, { on := 1, ground := Go.Ground.phase }, { on := 2, ground := Go.Ground.phase }, { on := 3, ground := Go.Ground.phase }, { on := 4, ground := Go.Ground.phase }, { on := 5, ground := Go.Ground.phase }, { on := 6, ground := Go.Ground.phase }, { on := 7, ground := Go.Ground.phase }, { on := 8, ground := Go.Ground.phase }, { on := 9, ground := Go.Ground.phase }, { on := 10, ground := Go.Ground.textOnly Go.Departure.lateStores }], guard := none }) (v := ?_) rfl (by kernel_rfl) (by kernel_rfl) (by kernel_rfl) (fun _ _ _ h => h) (Or.inl ⟨by rfl, ?_⟩) (by assumption) ?_
              rotate_left
              · intro w hSw; (try dsimp only at hSw); go_simp <;> first | with_reducible rfl | (rw [if_neg (by first | omega | (simp only [ByteArray.size_append] at *; omega))])
              simp only [Act.put, List.setIfInBounds_toArray, List.set_cons_zero, List.set_cons_succ]
              refine wpAnyH_take (i := 12) (oi := { dst := some 11, op := Go.Op.assign (Go.Operand.tmp 86), type := 36, pos := _, after := #[{ on := 10, ground := Go.Ground.data }, { on := 11, ground := Go.Ground.chain }, { on := 0, ground := Go.Ground.phase }, { on := 1, ground := Go.Ground.phase }, { on := 2, ground := Go.Ground.phase }, { on := 3, ground := Go.Ground.phase }, { on := 4, ground := Go.Ground.phase }, { on := 5, ground := Go.Ground.phase }, { on := 6, ground := Go.Ground.phase }, { on := 7, ground := Go.Ground.phase }, { on := 8, ground := Go.Ground.phase }, { on := 9, ground := Go.Ground.phase }, { on := 10, ground := Go.Ground.phase }, { on := 11, ground := Go.Ground.phase }], guard := none }) (v := ?_) rfl (by kernel_rfl) (by kernel_rfl) (by kernel_rfl) (fun _ _ _ h => h) (Or.inl ⟨by rfl, ?_⟩) (by assumption) ?_
              rotate_left
              · intro w hSw; (try dsimp only at hSw); go_simp <;> first | with_reducible rfl | (rw [if_neg (by first | omega | (simp only [ByteArray.size_append] at *; omega))])
              simp only [Act.put, List.setIfInBounds_toArray, List.set_cons_zero, List.set_cons_succ]
              refine wpAnyH_done (by kernel_rfl) ?_ _
              clear n0 n1 n2 n3 n4 n5 s0 s1 s2 s3 u0 u1
              have hd : decide (ag < 0) = false := by simp; omega
              go_wp2_with (fail)
              go_roundw
              case rel => exact ⟨m + 1, by omega, by go_num, hid (HBV.out.trans (HB4.out.mono HBV.out.size))⟩
              case measure => simp [intOf]; omega
            · have hml' : ¬ (m : Int) < (G.length : Int) := by omega
              clear HRF HAT hm
              obtain ⟨i0, hi, hz0, hz1, hz2⟩ := info_parts infI
              have hsrc : ∀ j u, (ints l)[j]? = some u → vr.cell? ((⟨b, 0, none⟩ : Addr).add j) = some u := fun j u hj => by
                have hjl : j < l.length := by
                  rcases Nat.lt_or_ge j l.length with h | h
                  · exact h
                  · rw [List.getElem?_eq_none (by rw [ints_len]; exact h)] at hj; cases hj
                rw [ints_at l j hjl] at hj
                obtain rfl := Option.some.inj hj
                have hadd : (⟨b, 0, none⟩ : Addr).add j = ⟨b, j, none⟩ := by unfold Addr.add; split <;> simp_all
                rw [hadd, lateAt_nat l j hjl]
                exact XR.out.lat.cell j hjl
              have HSRC := hid hsrc
              have hone : ∀ u ∈ ints l, u.oneCell' = true := fun u hu => by obtain ⟨x, _, rfl⟩ := List.mem_map.1 hu; rfl
              have HONE := hid hone
              have hil : (ints l).length = p.flows.length * 1 := by rw [ints_len, HLEN.out]; omega
              have HIL := hid hil
              have HFEW := hid XR.out.few
              clear hsrc hone hil
              go_wp2_with
                (at_builtin
                 refine wpList_append_own _ rfl _ _ 27 rfl vr.heap.size 3 i0 (.int .i64 0) 1 8 Tryd.underlying27 hi hz0 hz1 hz2 rfl (by decide) (.slice none 0 0) 0 [] rfl ⟨rfl, .inl ⟨rfl, rfl⟩⟩ ⟨b, 0, none⟩ p.flows.length p.flows.length (ints l) rfl HIL.out HSRC.out HONE.out (by have := HFEW.out; unfold maxLen; omega) (by have := HFEW.out; omega) (Nat.le_refl _) ?_
                 intro v5 w5 hown hgrow _
                 rw [Nat.zero_add, List.nil_append] at hown
                 have hlv := hgrow
                 have HOWN := hid hown
                 have HGR := hid hgrow
                 clear hown hgrow hlv)
              have hN : 0 < p.flows.length := by omega
              have hfull : ∃ ob oc, v5 = .slice (some ⟨ob, 0, none⟩) p.flows.length oc ∧ vr.heap.size ≤ ob := by
                rcases HOWN.out.2 with ⟨_, h0⟩ | ⟨gg, cap, cur, h1, h2, _⟩
                · omega
                · exact ⟨gg, cap, h1, h2⟩
              obtain ⟨ob, oc, rfl, hob⟩ := hfull
              have hb5 : Below vr.heap.size vr w5 := (Below.refl vr.heap.size vr).grown HGR.out (Nat.le_refl _) (fun k e => by cases e)
              have HB5 := hid hb5
              have hOW : OwI w5 vr.heap.size (.slice (some ⟨ob, 0, none⟩) p.flows.length oc) l := by unfold OwI; rw [HLEN.out]; exact HOWN.out
              have OW5 := hid hOW
              clear hi hz0 hz1 hz2 hOW HSRC HONE HIL HOWN HGR hb5 HBV
              go_wp2_with (fail)
              go_loopw [13] (fun j ur => ∃ (q : Nat) (o : List Int), q ≤ p.flows.length ∧ j = .int .i64 (q : Int) ∧ Hid (Below vr.heap.size vr ur) ∧ Hid (OwI ur vr.heap.size (.slice (some ⟨ob, 0, none⟩) p.flows.length oc) o) ∧ Hid (ThirdI l o k p.flows.length q)) (fun j _ => p.flows.length - (intOf j).toNat)
              case atStart => exact ⟨0, l, Nat.zero_le _, rfl, HB5, OW5, hid ⟨HLEN.out, rfl, fun j _ => Int.le_refl _, fun j hj => rfl⟩⟩
              case round =>
                obtain ⟨q, o, hq, rfl, HBQ, OQ, TQ⟩ := hrel
                obtain ⟨ur, rfl⟩ : ∃ ur, ur = wr := ⟨_, rfl⟩
                have LQ := hid (XR.out.keep HBQ.out)
                by_cases hql : q < p.flows.length
                · have hql' : (q : Int) < (p.flows.length : Int) := by omega
                  have hq0 : (0 : Int) ≤ (q : Int) := by omega
                  have HTL := hid TQ.out.len
                  have OQ2 : OwI ur vr.heap.size (.slice (some ⟨ob, 0, none⟩) o.length oc) o := by rw [HTL.out]; exact OQ.out
                  have hqo : q < o.length := by rw [HTL.out]; exact hql
                  obtain ⟨x0, x1⟩ := OQ2.cell q hqo
                  have HOQ := hid OQ2
                  clear OQ2 hqo
                  by_cases hqn : q < n
                  · have hqn' : (q : Int) < (n : Int) := by omega
                    by_cases hqk : q = k
                    · have hqk' : ((q : Int) != (k : Int)) = false := by simp [hqk]
                      have HT2 : Hid (ThirdI l o k p.flows.length (q + 1)) := hid ⟨TQ.out.len, TQ.out.own, TQ.out.le, fun j hj => TQ.out.todo j (by omega)⟩
                      clear hqk
                      go_wp2_with (fail)
                      go_roundw
                      case rel => exact ⟨q + 1, o, by omega, by go_num, HBQ, OQ, HT2⟩
                      case measure => simp [intOf]; omega
                    · have hqk' : ((q : Int) != (k : Int)) = true := by simp; omega
                      obtain ⟨mao, mac, hme, _, hmc⟩ := LQ.out.M
                      injection hme with hm1 _ hm3
                      subst hm1 hm3
                      obtain ⟨mb, mo, rfl, hmcc⟩ := hmc.resolve_left (by omega)
                      obtain ⟨y0, y1⟩ := hmcc q hqn
                      have hfb := HFI.out.at (q : Int)
                      rw [TQ.out.todo q (Nat.le_refl _)] at x0
                      have HNE := hid hqk
                      clear hmc hmcc hqk
                      generalize hF : lateAt l (q : Int) = F at x0 hfb
                      have HF := hid hF
                      clear hF
                      generalize f q = fq at y0 y1
                      have hq1 : IntKind.i64.wrap (F + ((fq % 3 : Nat) : Int)) = F + ((fq % 3 : Nat) : Int) := by rw [IntKind.wrap_i64]; omega
                      go_wp2_with (fail)
                      have hqo2 : q < o.length := by rw [HTL.out]; exact hql
                      have HT2 : Hid (ThirdI l (o.set q (F + (fq : Int) % 3)) k p.flows.length (q + 1)) := hid ⟨by rw [List.length_set]; exact TQ.out.len, by rw [lateAt_set o q _ _ hqo2, if_neg (by have := HNE.out; simpa using fun h => this h.symm)]; exact TQ.out.own, fun j hj => by
                        rw [lateAt_set o q _ _ hqo2]
                        split
                        · rename_i e
                          have e : j = q := by simpa using e
                          rw [e, HF.out]
                          omega
                        · exact TQ.out.le j hj, fun j hj => by rw [lateAt_set o q _ _ hqo2, if_neg (by simp; omega)]; exact TQ.out.todo j (by omega)⟩
                      have hput := HOQ.out.put q (F + (fq : Int) % 3)
                      rw [HTL.out] at hput
                      have HPUT : Hid (OwI (ur.setCell ⟨ob, q, none⟩ (.int .i64 (F + (fq : Int) % 3))).drew vr.heap.size (.slice (some ⟨ob, 0, none⟩) p.flows.length oc) (o.set q (F + (fq : Int) % 3))) := hid (hput.step (Below.refl _ _).drew)
                      have HBP := hid ((HBQ.out.setCell (p := ⟨ob, q, none⟩) hob (.int .i64 (F + (fq : Int) % 3))).drew)
                      clear hput hqo2 TQ OQ
                      go_region
                      go_wp2_with (fail)
                      go_roundw
                      case rel => exact ⟨q + 1, _, by omega, by go_num, HBP, HPUT, HT2⟩
                      case measure => simp [intOf]; omega
                  · have hqn' : ¬ (q : Int) < (n : Int) := by omega
                    have HT2 : Hid (ThirdI l o k p.flows.length (q + 1)) := hid ⟨TQ.out.len, TQ.out.own, TQ.out.le, fun j hj => TQ.out.todo j (by omega)⟩
                    go_wp2_with (fail)
                    go_roundw
                    case rel => exact ⟨q + 1, o, by omega, by go_num, HBQ, OQ, HT2⟩
                    case measure => simp [intOf]; omega
                · have hql' : ¬ (q : Int) < (p.flows.length : Int) := by omega
                  have hqe : q = p.flows.length := by omega
                  have HTL := hid TQ.out.len
                  have OQ2 : OwI ur vr.heap.size (.slice (some ⟨ob, 0, none⟩) o.length oc) o := by rw [HTL.out]; exact OQ.out
                  have hko : k < o.length := by rw [HTL.out]; exact hkl
                  obtain ⟨x0, x1⟩ := OQ2.cell k hko
                  have HKL := hid (show k < l.length by rw [HLEN.out]; exact hkl)
                  have z0 := LQ.out.lat.cell k HKL.out
                  rw [← lateAt_nat l k HKL.out] at z0
                  have hfb := HFI.out.at (k : Int)
                  have HOQ := hid OQ2
                  have HTQ := hid TQ.out
                  have B6 := HBQ.out.setCell (p := ⟨ob, k, none⟩) hob (.int .i64 (lateAt l (k : Int) - 1))
                  have L6 := hid (XR.out.keep B6)
                  obtain ⟨s0, s1, s2, s3⟩ := row4 L6.out.row
                  have OP := OQ2.put k (lateAt l (k : Int) - 1)
                  have hno : lateOk p (o.set k (lateAt l (k : Int) - 1)) = false := by
                    refine less_not HE.out HTI.out HLEN.out HKL.out (by rw [List.length_set, HTL.out, HLEN.out]) ?_ (fun j hj => ?_)
                    · rw [lateAt_set o k _ _ hko, if_pos (by simp)]
                    · rw [lateAt_set o k _ _ hko, if_neg (by simpa using hj)]
                      rcases Nat.lt_or_ge j p.flows.length with h | h
                      · exact TQ.out.le j h
                      · rw [TQ.out.todo j (by omega)]
                        exact Int.le_refl _
                  have hia : IAt (ur.setCell ⟨ob, k, none⟩ (.int .i64 (lateAt l (k : Int) - 1))) (o.set k (lateAt l (k : Int) - 1)) (.slice (some ⟨ob, 0, none⟩) p.flows.length oc) := by
                    have h1 : OwI (ur.setCell ⟨ob, k, none⟩ (.int .i64 (lateAt l (k : Int) - 1))) vr.heap.size (.slice (some ⟨ob, 0, none⟩) p.flows.length oc) (o.set k (lateAt l (k : Int) - 1)) := by
                      rw [← HTL.out]; exact OP
                    exact h1.at (by rw [List.length_set, HTL.out]; exact XR.out.few)
                  have cC := (callsIn_wide (n := 20)).1 (check_ p (o.set k (lateAt l (k : Int) - 1)) _ _ _ _ _ L6.out.P hia L6.out.R L6.out.J)
                  rw [hno] at cC
                  clear OQ2 hko hqe hq OQ TQ HOQ HTQ OP hno hia B6
                  have HBQ2 := hid (HBQ.out.setCell (p := ⟨ob, k, none⟩) hob (.int .i64 (lateAt l (k : Int) - 1)))
                  generalize lateAt l (k : Int) = F at *
                  have hw1 : wrap64 (F - 1) = F - 1 := wrap_in (by omega) (by omega)
                  go_wp2_with (fail)
                  refine cC.mono ?_
                  rintro e w6 ⟨rfl, hb6⟩
                  have L7 := hid (L6.out.keep hb6)
                  clear hb6 cC s0 s1 s2 s3 x0 x1 z0
                  go_wp2_with (fail)
                  go_roundw
                  case rel => exact ⟨k + 1, by omega, by go_num, L7⟩
                  case measure => simp [intOf]; omega
        · have hkl' : ¬ (k : Int) < (p.flows.length : Int) := by omega
          go_wp2_with (fail)
          refine (lives _ LW.out.R LW.out.J).mono ?_
          rintro e w5 ⟨rfl, hb5⟩
          have B5 := hid (LW.out.below.trans (hb5.mono LW.out.below.size))
          clear hb5
          go_wp2_with (fail)
          go_ret
          exact ⟨rfl, B5.out⟩
end Go.Proofs.YtmlapodhpinhmaaDoor.Lex
namespace Go.Proofs.YtmlapodhpinhmaaDoor.Lex
open Go.ChangeShapes Go.WideShapes Go.ChangeAt Go.RowKit Go.Joins
/-- Bytes that came in. -/
def Came (w : World) (a : Option Addr) (len : Nat) (l : List Int) : Prop :=
  l.length = len ∧ len ≤ 140737488355328 ∧ (∀ i, i < len → 0 ≤ l.getD i 0 ∧ l.getD i 0 < 256) ∧ (len = 0 ∨ ∃ b o, a = some ⟨b, o, none⟩ ∧ ∀ i, i < len → w.cell? ⟨b, o + i, none⟩ = some (.int .u8 (l.getD i 0)))
theorem bytesOf5 : Tryd.prog.bytesOf 5 = 1 := by kernel_rfl
theorem cellsOf5 : Tryd.prog.cellsOf 5 = 1 := by kernel_rfl
theorem byte_wf {n : Int} (h : (Lit.int .u8 n).wf = true) : 0 ≤ n ∧ n < 256 := by
  simp [Lit.wf, IntKind.min, IntKind.max, IntKind.signed, IntKind.bits] at h
  omega
theorem nat_c {n : Int} (h : (Lit.int .u8 n).wf = true) : ∃ k : Nat, k < 2 ^ 8 ∧ n = k := by
  simp [Lit.wf, IntKind.min, IntKind.max, IntKind.signed, IntKind.bits] at h
  exact ⟨n.toNat, by omega, by omega⟩
theorem getD_mem' (l : List Int) (k : Nat) (h : k < l.length) : l.getD k 0 ∈ l := by
  simp [h]
/-- A []uint8 that came in, opened once. -/
theorem view {H : Type} {enc : TypeId × Value → H} {W : World} {a0 : Option Addr} {len cap fuel : Nat} {d : DataW H} {p : List MemPlace} {ts : List TypeId} {ds : List (DataW H)} {j : Nat}
    (hf : DataW.trod enc Tryd.prog W 0 (fun _ => true) true fuel 43 [.slice a0 len cap] = some (d, p))
    (hsz : (DataW.weightsEach Tryd.prog ts ds).all (· ≤ reachBytes) = true) (ht : ts[j]? = some 43) (hj : ds[j]? = some d) : ∃ l, Came W a0 len l ∧ len ≤ cap := by
  rcases open_ints Tryd.underlying43 Tryd.underlying5 cellsOf5 hf with ⟨hcs, hx⟩ | ⟨a, len', cap', zs, hcs, _, hl, hm, hz, hx, hcell, hwz⟩
  · simp at hcs
    obtain ⟨rfl, rfl, rfl⟩ := hcs
    exact ⟨[], ⟨rfl, by omega, fun i hi => by omega, .inl rfl⟩, Nat.le_refl _⟩
  · simp at hcs
    obtain ⟨rfl, rfl, rfl⟩ := hcs
    simp only [Prod.mk.injEq] at hx
    obtain ⟨rfl, _⟩ := hx
    simp only [if_true] at hz
    have hr := sized_slice hsz ht hj Tryd.underlying43
    rw [bytesOf5] at hr
    simp only [lits, List.length_map, List.length_take, List.length_drop, reachBytes] at hr
    have hg : ∀ i, i < len → (zs.take len).getD i 0 = zs.getD i 0 := fun i hi => by simp [List.getD, hi]
    refine ⟨zs.take len, ⟨by simp; omega, by omega, fun i hi => ?_, ?_⟩, hl⟩
    · rw [hg i hi]
      exact byte_wf (hwz _ (getD_mem' zs i (by omega)))
    · by_cases h0 : len = 0
      · exact .inl h0
      · obtain ⟨b, o, sp⟩ := a
        have hsp : sp = none := by simpa [Addr.add] using World.cell?_spot (hcell 0 (by omega))
        subst hsp
        refine .inr ⟨b, o, rfl, fun i hi => ?_⟩
        rw [hg i hi, ← Addr.add_mid]
        exact hcell i (by omega)
theorem Came.bat {w : World} {a : Option Addr} {len cap : Nat} {l : List Int} (h : Came w a len l) : BAt w (fun i => (l.getD i 0).toNat) len (.slice a len cap) := by
  obtain ⟨_, h2, h3, h4⟩ := h
  refine ⟨a, cap, rfl, h2, h4.imp id (fun ⟨b, o, e, hc⟩ => ⟨b, o, e, fun i hi => ?_⟩)⟩
  have := h3 i hi
  refine ⟨?_, by show (l.getD i 0).toNat < 256; omega⟩
  rw [hc i hi]
  show some (Value.int .u8 (l.getD i 0)) = some (Value.int .u8 (((l.getD i 0).toNat : Nat) : Int))
  rw [Int.toNat_of_nonneg this.1]
end Go.Proofs.YtmlapodhpinhmaaDoor.Lex
namespace Go.Proofs.YtmlapodhpinhmaaDoor.Lex
def nmC (i : Nat) : ByteArray := if i = 0 then ⟨#[120]⟩ else ⟨#[102, UInt8.ofNat (96 + i)]⟩
def bdC (i : Nat) (b : Bool) : Ex := if b then twE 18 exZ (preE ⟨3, 0, nmC i, []⟩) else ⟨3, 0, nmC i, []⟩
def stC (f : Nat → Nat) (i : Nat) : Int := ((1 + f i % 4 : Nat) : Int)
def flCh (f : Nat → Nat) (g : Nat → Bool) (i : Nat) : Fl := ⟨nmC (i + 1), 1, stC f i, 0, bdC i (g i)⟩
/-- A chain of so many flows. -/
def chP (f : Nat → Nat) (g : Nat → Bool) (n : Nat) : Pg := ⟨4, [⟨nmC 0, 1, 1⟩], (List.range n).map (flCh f g), []⟩
theorem ch_fl_all : ∀ i < 20, ∀ b : Bool, ∀ s < 4, flOk ⟨nmC (i + 1), 1, ((1 + s : Nat) : Int), 0, bdC i b⟩ 4 = true := by decide +kernel
theorem ch_inj : ∀ i < 21, ∀ j < 21, (nmC i).data.toList = (nmC j).data.toList → i = j := by decide +kernel
theorem ch_hd : hdOk ⟨nmC 0, 1, 1⟩ 4 = true := by decide +kernel
theorem gat_bd (i : Nat) (b : Bool) : gat 32 (bdC i b) 0 [] = [(nmC i, if b then 1 else 0)] := by cases b <;> rfl
section
variable (f : Nat → Nat) (g : Nat → Bool)
theorem ch_len (n : Nat) : (chP f g n).flows.length = n := by unfold chP; simp
theorem ch_at (n i : Nat) (h : i < (chP f g n).flows.length) : (chP f g n).flows[i] = flCh f g i := by
  have h' : i < n := by rwa [ch_len] at h
  have e : (chP f g n).flows[i]? = some (flCh f g i) := by
    show ((List.range n).map (flCh f g))[i]? = _
    simp [h']
  exact (List.getElem?_eq_some_iff.1 e).2
theorem ch_pgOk {n : Nat} (hn : n ≤ 20) : pgOk (chP f g n) = true := by
  have h1 : roomOk (chP f g n) = true := by
    unfold roomOk
    rw [ch_len]
    unfold chP
    simp
    omega
  have h2 : (chP f g n).flows.all (fun x => flOk x 4) = true := by
    rw [List.all_eq_true]
    intro x hx
    obtain ⟨i, hi, rfl⟩ := List.getElem_of_mem hx
    have hi' : i < n := by rwa [ch_len] at hi
    rw [ch_at]
    exact ch_fl_all i (by omega) (g i) (f i % 4) (Nat.mod_lt _ (by omega))
  unfold pgOk
  show ((inR 4 8 && roomOk (chP f g n)) && (([⟨nmC 0, 1, 1⟩] : List Hd).all (fun x => hdOk x 4) && ((chP f g n).flows.all (fun x => flOk x 4) && ([] : List ByteArray).all isName))) = true
  rw [h1, h2]
  simp [ch_hd, inR]
/-- The head of each thing. -/
def chH (i : Nat) : Int × Hd := if i = 0 then (-1, ⟨nmC 0, 1, 1⟩) else (((i - 1 : Nat) : Int), ⟨nmC i, 1, stC f (i - 1)⟩)
theorem chH_name (i : Nat) : (chH f i).2.name = nmC i := by unfold chH; split <;> simp_all
theorem ch_things (n : Nat) : thingsL (chP f g n) = (List.range (n + 1)).map (chH f) := by
  rw [List.range_succ_eq_map, List.map_cons, List.map_map]
  have h1 : insL (chP f g n) = [chH f 0] := rfl
  have h2 : flowsL (chP f g n) = (List.range n).map (chH f ∘ Nat.succ) := by
    unfold flowsL
    rw [ch_len]
    refine List.map_congr_left fun i hi => ?_
    have hi := List.mem_range.1 hi
    have e : (chP f g n).flows[i]? = some (flCh f g i) := by
      rw [List.getElem?_eq_getElem (by rw [ch_len]; exact hi), ch_at]
    rw [e]
    rfl
  unfold thingsL
  rw [h1, h2]
  rfl
theorem range_one (j : Nat) : ∀ m : Nat, ((List.range m).filter fun i => decide (j = i)).length = if j < m then 1 else 0
  | 0 => rfl
  | m + 1 => by
    rw [List.range_succ, List.filter_append, List.length_append, range_one j m]
    by_cases h : j = m
    · subst h; simp
    · have : ([m].filter fun i => decide (j = i)) = [] := by simp [h]
      rw [this]
      by_cases h2 : j < m
      · rw [if_pos h2, if_pos (by omega)]; rfl
      · rw [if_neg h2, if_neg (by omega)]; rfl
theorem ch_cnt {n j : Nat} (hn : n ≤ 20) (hj : j ≤ n) : cntT (thingsL (chP f g n)) (nmC j).data.toList = 1 := by
  rw [ch_things]
  unfold cntT
  rw [List.filter_map, List.length_map]
  have : ((List.range (n + 1)).filter ((fun x : Int × Hd => decide ((nmC j).data.toList = x.2.name.data.toList)) ∘ chH f)) = (List.range (n + 1)).filter fun i => decide (j = i) := by
    refine List.filter_congr fun i hi => ?_
    have hi := List.mem_range.1 hi
    show decide ((nmC j).data.toList = (chH f i).2.name.data.toList) = _
    rw [chH_name]
    by_cases e : j = i
    · subst e; simp
    · rw [decide_eq_false e, decide_eq_false (fun h => e (ch_inj j (by omega) i (by omega) h))]
  rw [this, range_one, if_pos (by omega)]
theorem ch_nmErr {n : Nat} (hn : n ≤ 20) : nmErr (chP f g n) = 0 := by
  have h : nmOk (chP f g n) = true := by
    unfold nmOk
    simp only [Bool.and_eq_true, List.all_eq_true]
    refine ⟨fun x hx => ?_, fun s hs => ?_, fun s hs => ?_⟩
    · rw [ch_things] at hx
      obtain ⟨i, hi, rfl⟩ := List.mem_map.1 hx
      have hi := List.mem_range.1 hi
      unfold twice
      rw [chH_name, ch_cnt f g hn (by omega)]
      rfl
    · obtain ⟨x, hx, hs⟩ := List.mem_flatMap.1 hs
      obtain ⟨i, hi, rfl⟩ := List.getElem_of_mem hx
      have hi' : i < n := by rwa [ch_len] at hi
      rw [ch_at] at hs
      have e : asksOf (flCh f g i) = [nmC i] := by unfold asksOf flCh; rw [gat_bd]; rfl
      rw [e] at hs
      rw [List.mem_singleton.1 hs]
      unfold none_
      rw [ch_cnt f g hn (by omega)]
      rfl
    · cases hs
  unfold nmErr
  rw [ch_pgOk f g hn, h]
  rfl
/-- Where that which flow i asks for stands. -/
def atC (i : Nat) : Int := if i = 0 then 1 else stC f (i - 1)
def backC (i : Nat) : Nat := if g i then 1 else 0
def wayC (i : Nat) : Nat := if atC f i = stC f i then 0 else 1
theorem ch_find {n i : Nat} (hn : n ≤ 20) (hi : i < n) : findT (thingsL (chP f g n)) (nmC i) = some (chH f i) := by
  have hok := (nmErr_zero (ch_nmErr f g hn)).2
  cases i with
  | zero => exact find_in_ok hok 0 (by unfold chP; simp)
  | succ i =>
    have := find_flow_ok hok i (by rw [ch_len]; omega)
    rw [ch_at] at this
    exact this
theorem ch_wish {n i : Nat} (hn : n ≤ 20) (hi : i < n) : wishL (chP f g n) i = [⟨i, (nmC i, backC g i), (i : Int) - 1, wayC f i⟩] := by
  rw [wishL_at (by rw [ch_len]; exact hi), ch_at]
  show (gat 32 (bdC i (g i)) 0 []).map (mkW (chP f g n) i (stC f i)) = _
  rw [gat_bd, List.map_singleton]
  unfold mkW
  rw [ch_find f g hn hi]
  have h1 : plO (some (chH f i)) = (i : Int) - 1 := by
    show (chH f i).1 = _
    unfold chH
    split
    · simp_all
    · show ((i - 1 : Nat) : Int) = _
      omega
  have h2 : stO (some (chH f i)) = atC f i := by
    show (chH f i).2.st = _
    unfold chH atC
    split <;> rfl
  rw [h1, h2]
  rfl
/-- How late the last of so many flows is. -/
def wvC : Nat → Int
  | 0 => 0
  | i + 1 => max (wvC i - backC g i + wayC f i) 0
theorem wv_low : ∀ i, 0 ≤ wvC f g i ∧ wvC f g i ≤ i
  | 0 => ⟨Int.le_refl _, Int.le_refl _⟩
  | i + 1 => by
    have := wv_low i
    have h1 : backC g i ≤ 1 := by unfold backC; split <;> omega
    have h2 : wayC f i ≤ 1 := by unfold wayC; split <;> omega
    show 0 ≤ max (wvC f g i - backC g i + wayC f i) 0 ∧ max (wvC f g i - backC g i + wayC f i) 0 ≤ _
    omega
/-- The list, when so many flows were gone through. -/
def lsC (n i : Nat) : List Int := (List.range n).map fun j => if j < i then wvC f g (j + 1) else 0
theorem ls_len (n i : Nat) : (lsC f g n i).length = n := by unfold lsC; simp
theorem ls_get {n i j : Nat} (h : j < (lsC f g n i).length) : (lsC f g n i)[j] = if j < i then wvC f g (j + 1) else 0 := by
  have h' : j < n := by rwa [ls_len] at h
  have e : (lsC f g n i)[j]? = some (if j < i then wvC f g (j + 1) else 0) := by
    show ((List.range n).map fun j => if j < i then wvC f g (j + 1) else 0)[j]? = _
    simp [h']
  exact (List.getElem?_eq_some_iff.1 e).2
theorem ls_at {n i j : Nat} (h : j < n) : lateAt (lsC f g n i) (j : Int) = if j < i then wvC f g (j + 1) else 0 := by
  unfold lateAt lsC
  simp [h]
theorem ls_set {n i : Nat} (_h : i < n) : (lsC f g n i).set i (wvC f g (i + 1)) = lsC f g n (i + 1) := by
  refine List.ext_getElem (by rw [List.length_set, ls_len, ls_len]) fun j h1 h2 => ?_
  rw [List.getElem_set, ls_get, ls_get]
  by_cases e : i = j
  · subst e; rw [if_pos rfl, if_pos (by omega)]
  · rw [if_neg e]
    by_cases e2 : j < i
    · rw [if_pos e2, if_pos (by omega)]
    · rw [if_neg e2, if_neg (by omega)]
theorem ls_same {n i : Nat} (h : wvC f g (i + 1) = 0) : lsC f g n (i + 1) = lsC f g n i := by
  unfold lsC
  refine List.map_congr_left fun j _ => ?_
  by_cases e : j = i
  · subst e; rw [if_pos (by omega), if_neg (by omega), h]
  · by_cases e2 : j < i
    · rw [if_pos e2, if_pos (by omega)]
    · rw [if_neg e2, if_neg (by omega)]
theorem ls_zero (n : Nat) : lsC f g n 0 = List.replicate n 0 := by
  refine List.ext_getElem (by rw [ls_len, List.length_replicate]) fun j h1 h2 => ?_
  unfold lsC
  simp
theorem ch_age {n i k : Nat} (hi : i < n) (hk : i ≤ k) : ageV (lsC f g n k) ⟨i, (nmC i, backC g i), (i : Int) - 1, wayC f i⟩ = (if i < k then wvC f g (i + 1) else 0) + backC g i - wayC f i - wvC f g i := by
  unfold ageV
  show lateAt (lsC f g n k) (i : Int) + (backC g i : Int) - (wayC f i : Int) - (if 0 ≤ (i : Int) - 1 then lateAt (lsC f g n k) ((i : Int) - 1) else 0) = _
  rw [ls_at f g hi]
  congr 1
  cases i with
  | zero => rfl
  | succ i =>
    rw [if_pos (by omega), show (((i + 1 : Nat) : Int)) - 1 = (i : Int) by omega, ls_at f g (by omega), if_pos (by omega)]
theorem ch_first {n : Nat} (hn : n ≤ 20) : ∀ i, i ≤ n → ∃ s, turn (allN (chP f g n) i) (lsC f g n 0) true = some (lsC f g n i, s)
  | 0, _ => ⟨true, rfl⟩
  | i + 1, h => by
    obtain ⟨s, hs⟩ := ch_first hn i (by omega)
    have ha := ch_age f g (n := n) (i := i) (k := i) (by omega) (Nat.le_refl _)
    rw [if_neg (by omega)] at ha
    have hw : wvC f g (i + 1) = max (wvC f g i - backC g i + wayC f i) 0 := rfl
    have hl := wv_low f g (i + 1)
    have hz : lateAt (lsC f g n i) (i : Int) = 0 := by rw [ls_at f g (by omega), if_neg (by omega)]
    rw [allN_succ, turn_append, hs, ch_wish f g hn (by omega)]
    show ∃ s', turn [⟨i, (nmC i, backC g i), (i : Int) - 1, wayC f i⟩] (lsC f g n i) s = some (lsC f g n (i + 1), s')
    unfold turn
    rw [ha]
    show ∃ s', (if 0 ≤ 0 + (backC g i : Int) - wayC f i - wvC f g i then _ else if outB (lateAt (lsC f g n i) (i : Int) - (0 + (backC g i : Int) - wayC f i - wvC f g i)) then none else turn [] ((lsC f g n i).set i (lateAt (lsC f g n i) (i : Int) - (0 + (backC g i : Int) - wayC f i - wvC f g i))) false) = some (lsC f g n (i + 1), s')
    rw [hz]
    by_cases h0 : 0 ≤ 0 + (backC g i : Int) - wayC f i - wvC f g i
    · rw [if_pos h0, ls_same f g (by omega)]
      exact ⟨s, rfl⟩
    · have e : 0 - (0 + (backC g i : Int) - wayC f i - wvC f g i) = wvC f g (i + 1) := by omega
      rw [if_neg h0, e]
      have ho : outB (wvC f g (i + 1)) = false := by unfold outB; simp; omega
      rw [ho, ls_set f g (by omega)]
      exact ⟨false, rfl⟩
theorem ch_second {n : Nat} (hn : n ≤ 20) : ∀ i, i ≤ n → turn (allN (chP f g n) i) (lsC f g n n) true = some (lsC f g n n, true)
  | 0, _ => rfl
  | i + 1, h => by
    have ha := ch_age f g (n := n) (i := i) (k := n) (by omega) (by omega)
    rw [if_pos (by omega)] at ha
    have hw : wvC f g (i + 1) = max (wvC f g i - backC g i + wayC f i) 0 := rfl
    rw [allN_succ, turn_append, ch_second hn i (by omega), ch_wish f g hn (by omega)]
    show turn [⟨i, (nmC i, backC g i), (i : Int) - 1, wayC f i⟩] (lsC f g n n) true = _
    unfold turn
    rw [ha, if_pos (by omega)]
    rfl
/-- How late a chain's flows are told to be. -/
theorem ch_of {n : Nat} (h0 : 0 < n) (hn : n ≤ 20) : ofL (chP f g n) = some (lsC f g n n) := by
  obtain ⟨s, hs⟩ := ch_first f g hn n (Nat.le_refl _)
  have h2 := ch_second f g hn n (Nat.le_refl _)
  obtain ⟨m, rfl⟩ : ∃ m, n = m + 1 := ⟨n - 1, by omega⟩
  unfold ofL
  rw [ch_len, ← ls_zero f g]
  have e : allL (chP f g (m + 1)) = allN (chP f g (m + 1)) (m + 1) := by unfold allL; rw [ch_len]
  rw [e]
  unfold leaF
  rw [hs]
  cases s with
  | true => rfl
  | false =>
    show leaF _ (m + 1) _ = _
    unfold leaF
    rw [h2]
    rfl
end
end Go.Proofs.YtmlapodhpinhmaaDoor.Lex
namespace Go.Proofs.YtmlapodhpinhmaaDoor.Lex
abbrev nmE (s : ByteArray) : Ex := ⟨3, 0, s, []⟩
abbrev moreF (st : Int) (s : ByteArray) : Fl := ⟨⟨#[109, 111, 114, 101]⟩, 1, st, 0, nmE s⟩
abbrev moreP (p : Pg) (st : Int) (s : ByteArray) : Pg := { p with flows := p.flows ++ [moreF st s] }
theorem more_len (p : Pg) (st : Int) (s : ByteArray) : (moreP p st s).flows.length = p.flows.length + 1 := by simp
theorem more_old (p : Pg) (st : Int) (s : ByteArray) (i : Nat) (h : i < p.flows.length) : (moreP p st s).flows[i]'(by rw [more_len]; omega) = p.flows[i] := List.getElem_append_left h
theorem more_new (p : Pg) (st : Int) (s : ByteArray) : (moreP p st s).flows[p.flows.length]'(by rw [more_len]; omega) = moreF st s := by
  show (p.flows ++ [moreF st s])[p.flows.length]'_ = _
  simp
theorem things_more (p : Pg) (st : Int) (s : ByteArray) : thingsL (moreP p st s) = thingsL p ++ [((p.flows.length : Int), (moreF st s).hd)] := by
  have h := flowsL_succ (moreP p st s) p.flows.length (by rw [more_len]; omega)
  rw [List.take_of_length_le (by rw [flowsL_len, more_len]; exact Nat.le_refl _), more_new] at h
  have h2 : (flowsL (moreP p st s)).take p.flows.length = flowsL p := by
    unfold flowsL
    rw [← List.map_take, more_len, List.take_range, Nat.min_eq_left (by omega)]
    refine List.map_congr_left fun i hi => ?_
    have hi := List.mem_range.1 hi
    show ((i : Int), (((p.flows ++ [moreF st s])[i]?).map Fl.hd).getD _) = _
    rw [List.getElem?_append_left hi]
  unfold thingsL
  rw [h, h2, List.append_assoc]
  rfl
theorem find_more {p : Pg} {st : Int} {s t : ByteArray} {x : Int × Hd} (h : findT (thingsL p) t = some x) : findT (thingsL (moreP p st s)) t = some x := by
  rw [things_more]
  unfold findT at *
  rw [List.find?_append, h]
  rfl
theorem wish_old {p : Pg} (hE : nmErr p = 0) (st : Int) (s : ByteArray) {i : Nat} (hi : i < p.flows.length) : wishL (moreP p st s) i = wishL p i := by
  rw [wishL_at (show i < (moreP p st s).flows.length by rw [more_len]; omega), wishL_at hi, more_old p st s i hi]
  refine List.map_congr_left fun r hr => ?_
  have hask : r.1 ∈ askedL p := List.mem_flatMap.2 ⟨p.flows[i], List.getElem_mem hi, List.mem_map.2 ⟨r, hr, rfl⟩⟩
  obtain ⟨x, hx⟩ := find_of_asked (nmErr_zero hE).2 hask
  unfold mkW
  rw [hx, find_more hx]
abbrev moreW (p : Pg) (st : Int) (k : Nat) (h : k < p.flows.length) : Wi := ⟨p.flows.length, (p.flows[k].name, 0), k, if p.flows[k].st = st then 0 else 1⟩
theorem gat_name (s : ByteArray) : gat 32 (nmE s) 0 [] = [(s, 0)] := rfl
theorem wish_new {p : Pg} (hE : nmErr p = 0) (st : Int) {k : Nat} (hk : k < p.flows.length) : wishL (moreP p st p.flows[k].name) p.flows.length = [moreW p st k hk] := by
  rw [wishL_at (show p.flows.length < (moreP p st p.flows[k].name).flows.length by rw [more_len]; omega), more_new]
  show (gat 32 (nmE p.flows[k].name) 0 []).map _ = _
  rw [gat_name, List.map_singleton]
  unfold mkW
  rw [find_more (find_flow_ok (nmErr_zero hE).2 k hk)]
  rfl
theorem all_more {p : Pg} (hE : nmErr p = 0) (st : Int) {k : Nat} (hk : k < p.flows.length) : allL (moreP p st p.flows[k].name) = allL p ++ [moreW p st k hk] := by
  unfold allL
  rw [more_len, allN_succ, wish_new hE st hk]
  congr 1
  unfold allN
  have hc : ∀ (L : List Nat), (∀ i ∈ L, i < p.flows.length) → L.flatMap (wishL (moreP p st p.flows[k].name)) = L.flatMap (wishL p) := fun L => by
    induction L with
    | nil => intro _; rfl
    | cons i L ih =>
      intro h
      rw [List.flatMap_cons, List.flatMap_cons, wish_old hE st _ (h i (List.mem_cons_self ..)), ih (fun j hj => h j (List.mem_cons_of_mem _ hj))]
  exact hc _ fun i hi => List.mem_range.1 hi
theorem lateAt_app {l r : List Int} {i : Int} (h : i.toNat < l.length) : lateAt (l ++ r) i = lateAt l i := by
  unfold lateAt; rw [List.getElem?_append_left h]
theorem lateAt_last (l : List Int) (a : Int) : lateAt (l ++ [a]) (l.length : Int) = a := by
  unfold lateAt; simp
theorem lateAt_take {l : List Int} {n : Nat} {i : Int} (h : i.toNat < n) : lateAt (l.take n) i = lateAt l i := by
  unfold lateAt; rw [List.getElem?_take_of_lt h]
theorem ageV_of {l m : List Int} {n : Nat} {x : Wi} (hx : WiOk n x) (h : ∀ i : Int, i.toNat < n → lateAt l i = lateAt m i) : ageV l x = ageV m x := by
  unfold ageV
  have h1 := hx.flow
  have h2 := hx.of
  rw [h x.flow (by omega)]
  split
  · rw [h x.of (by omega)]
  · rfl
/-- None is later, and it is as late as what it asks for, and one more if that is far. -/
theorem more_late {p : Pg} {k : Nat} (hk : k < p.flows.length) {st : Int} {l m : List Int} (hE : nmErr p = 0) (hEq : nmErr (moreP p st p.flows[k].name) = 0) (hl : ofL p = some l) (hfl : Fine l) (hm : ofL (moreP p st p.flows[k].name) = some m) (hfm : Fine m) :
    m.length = l.length + 1 ∧ (∀ i : Nat, i < l.length → lateAt m i = lateAt l i) ∧ lateAt m p.flows.length = lateAt l k + (if p.flows[k].st = st then 0 else 1) := by
  obtain ⟨lo, ll, _, lmin⟩ := of_late hE hl hfl
  obtain ⟨mo, ml, _, mmin⟩ := of_late hEq hm hfm
  rw [more_len] at ml
  have hall := all_more hE st hk
  have hok := allL_ok (nm_chk hE)
  have ages : ∀ {q : Pg} {l : List Int}, lateOk q l = true → ∀ x ∈ allL q, 0 ≤ ageV l x := fun {q l} h => by
    unfold lateOk agesOk at h
    simp only [Bool.and_eq_true, List.all_eq_true, decide_eq_true_eq] at h
    exact h.2.2.2
  have la := ages lo
  have ma := ages mo
  rw [hall] at ma
  obtain ⟨far, hfar⟩ : ∃ far : Int, far = (if p.flows[k].st = st then 0 else 1) := ⟨_, rfl⟩
  have hf0 : 0 ≤ far := by rw [hfar]; split <;> omega
  have hway : ((moreW p st k hk).way : Int) = far := by rw [hfar]; show (((if p.flows[k].st = st then 0 else 1 : Nat)) : Int) = _; split <;> rfl
  rw [← hfar]
  have s1 : Sol (allL (moreP p st p.flows[k].name)) (l ++ [lateAt l k + far]) := by
    refine ⟨fun a ha => ?_, fun x hx => ?_⟩
    · rcases List.mem_append.1 ha with h | h
      · exact (hfl a h).1
      · rw [List.mem_singleton.1 h]
        have := lateAt_nonneg (fun a ha => (hfl a ha).1) (k : Int)
        omega
    · rw [hall] at hx
      rcases List.mem_append.1 hx with h | h
      · rw [ageV_of (hok x h) (fun i hi => lateAt_app (l := l) (r := [lateAt l k + far]) (by omega))]
        exact la x h
      · rw [List.mem_singleton.1 h]
        unfold ageV
        rw [hway, if_pos (show (0 : Int) ≤ (k : Int) by omega), lateAt_app (show ((k : Int)).toNat < l.length by omega)]
        show 0 ≤ lateAt (l ++ [lateAt l k + far]) (p.flows.length : Int) + ((0 : Nat) : Int) - far - lateAt l (k : Int)
        rw [← ll, lateAt_last]
        omega
  have s2 : Sol (allL p) (m.take p.flows.length) := by
    refine ⟨fun a ha => (hfm a (List.mem_of_mem_take ha)).1, fun x hx => ?_⟩
    rw [ageV_of (hok x hx) (fun i hi => lateAt_take (l := m) hi)]
    exact ma x (List.mem_append_left _ hx)
  have g1 := mmin _ (by rw [more_len]; simp; omega) s1
  have g2 := lmin _ (by simp; omega) s2
  have e : ∀ i : Nat, i < l.length → lateAt m i = lateAt l i := fun i hi => by
    have h1 := g1 i
    have h2 := g2 i
    rw [lateAt_app (by omega)] at h1
    rw [lateAt_take (by omega)] at h2
    omega
  refine ⟨by omega, e, ?_⟩
  have h1 := g1 p.flows.length
  rw [← ll, lateAt_last, ll] at h1
  have h2 := ma _ (List.mem_append_right _ (List.mem_singleton.2 rfl))
  unfold ageV at h2
  rw [hway, if_pos (show (0 : Int) ≤ (k : Int) by omega)] at h2
  have h3 : (0 : Int) ≤ lateAt m (p.flows.length : Int) + ((0 : Nat) : Int) - far - lateAt m (k : Int) := h2
  rw [e k (by omega)] at h3
  omega
end Go.Proofs.YtmlapodhpinhmaaDoor.Lex
namespace Go.Proofs.YtmlapodhpinhmaaDoor.Lex
open Go.ChangeShapes Go.WideShapes Go.ChangeAt Go.RowKit Go.Joins
theorem wp_append_at {P : Program} {w : World} {o : Oper} {a : Act} {K : Act → World → Prop} {Q : Exit → Act → World → Prop} (s x : Operand) (t : TypeId)
    (ho : o.op = .call { callee := .builtin .append, args := #[s, x], argTypes := #[t, t] })
    (base : Nat) (e : TypeId) (i : TypeInfo) (z : Value) (size bytes : Nat) (ht : P.underlying t = some (.slice e)) (hi : P.info? e = some i) (hz : i.zero = some z)
    (hsize : i.size = size) (hby : i.bytes = bytes) (hzs : z.cells.size = size) (hsz : 0 < size)
    (v : Value) (n : Nat) (xs : List Value) (hs : a.eval s = v) (hown : w.ownsRow base e size v n xs)
    (ad : Addr) (m c : Nat) (news : List Value) (hx : a.eval x = .slice (some ad) m c) (hl : news.length = m * size) (hnews : ∀ j u, news[j]? = some u → w.cell? (ad.add j) = some u) (h1 : ∀ u ∈ news, u.oneCell' = true)
    (h63 : n + m ≤ maxLen) (hbytes : (n + m) * bytes ≤ 140737488355328) (hbase : base ≤ w.heap.size)
    (h : ∀ v' w', w'.ownsRow base e size v' (n + m) (xs ++ news) → w.grownBy w' v.ownBlock → (v' = .slice none 0 0 ↔ v = .slice none 0 0 ∧ m = 0) → (v'.ownBlock = v.ownBlock ∨ v'.ownBlock = some w.heap.size) → K (a.put o.dst v') w') : o.wp P a w K Q := by
  obtain ⟨v', w', hr, h2, h3, h4, h5⟩ := run_append_own_at (P := P) w base t o.type e i z size bytes ht hi hz hsize hby hzs hsz v n xs hown ad m c news hl hnews h1 h63 hbytes hbase
  unfold Oper.wp execOp
  simp only [ho, resolve, invoke, builtin, Sem.run_bind, Sem.run_pure, Result.andThen_ok, List.map_toArray, List.map_cons, List.map_nil, hs, hx, hr]
  exact h v' w' h2 h3 h4 h5
theorem inf55 : (Tryd.prog.info? 55).map (fun i => (i.zero, i.size, i.bytes)) = some (some (.agg #[.string ByteArray.empty, .int .u8 0, .int .i64 0, .int .i64 0, .int .u8 0, .int .i64 0, .string ByteArray.empty, .slice none 0 0]), 8, 96) := by kernel_rfl
theorem row_pos {W : World} {base e size k : Nat} {v : Value} {xs : List Value} (h : W.ownsRow base e size v k xs) (hk : 0 < k) : ∃ g cap, v = .slice (some ⟨g, 0, none⟩) k cap := by
  rcases h.2 with ⟨_, h0⟩ | ⟨g, cap, _, rfl, _⟩
  · omega
  · exact ⟨g, cap, rfl⟩
theorem own_block9 {w W : World} {base e c n : Nat} {v : Value} {xs : List Value} (h : w.ownsRow base e c v n xs) (hg : ∀ g, v.ownBlock = some g → W.heap[g]? = w.heap[g]?) : W.ownsRow base e c v n xs := by
  refine ⟨h.1, ?_⟩
  rcases h.2 with hn | ⟨g, cap, cur, e, hg0, hh, rest⟩
  · exact .inl hn
  · subst e
    exact .inr ⟨g, cap, cur, rfl, hg0, (hg g rfl).trans hh, rest⟩
/-- The flows, each with the parts of its body. -/
def prs (l : List Fl) (SL : Nat → Value) : List (Fl × Value) := l.mapIdx fun i f => (f, SL i)
theorem prs_len (l : List Fl) (SL : Nat → Value) : (prs l SL).length = l.length := by unfold prs; simp
theorem prs_fst (l : List Fl) (SL : Nat → Value) : (prs l SL).map (·.1) = l := by
  unfold prs
  refine List.ext_getElem (by simp) fun i h1 h2 => ?_
  simp
theorem prs_at (l : List Fl) (SL : Nat → Value) (i : Nat) (h : i < l.length) : (prs l SL)[i]'(by rw [prs_len]; exact h) = (l[i], SL i) := by unfold prs; simp
/-- The cells of so many flows. -/
def flC (l : List (Fl × Value)) : List Value := (l.map fun q => flL q.1 q.2).flatten
theorem flC_len (l : List (Fl × Value)) : (flC l).length = l.length * 8 := by
  unfold flC
  rw [flat_len (c := 8) (fun e he => by obtain ⟨q, _, rfl⟩ := List.mem_map.1 he; rfl), List.length_map]
theorem flC_at (l : List (Fl × Value)) {i j : Nat} (hi : i < l.length) (hj : j < 8) : (flC l)[i * 8 + j]? = (flL l[i].1 l[i].2)[j]? := by
  have := flat_at (c := 8) (es := l.map fun q => flL q.1 q.2) (i := i) (e := flL l[i].1 l[i].2) (j := j) (rest := []) (fun e he => by obtain ⟨q, _, rfl⟩ := List.mem_map.1 he; rfl) (by simp [hi]) hj
  rw [List.append_nil] at this
  exact this
theorem flC_one (l : List (Fl × Value)) (hS : ∀ q ∈ l, q.2.oneCell' = true) : ∀ u ∈ flC l, u.oneCell' = true := fun u hu => by
  obtain ⟨e, he, hu⟩ := List.mem_flatten.1 hu
  obtain ⟨q, hq, rfl⟩ := List.mem_map.1 he
  have := hS q hq
  simp at hu
  rcases hu with rfl | rfl | rfl | rfl | rfl | rfl | rfl | rfl <;> first | rfl | exact this
theorem st_one {W : World} {x : Ex} {s : Value} (h : St W x s) : s.oneCell' = true := by
  obtain ⟨_, _, _, rfl, _⟩ := h.out
  rfl
/-- Flows that lie there are what is copied. -/
theorem news_flows {W : World} {l : List Fl} {SL : Nat → Value} {fb fo : Nat} (h : ∀ i (h : i < l.length), FlCells W fb (fo + i * 8) l[i] (SL i)) : ∀ j u, (flC (prs l SL))[j]? = some u → W.cell? ((⟨fb, fo, none⟩ : Addr).add j) = some u := fun j u hu => by
  have hj : j < l.length * 8 := by
    have := (List.getElem?_eq_some_iff.1 hu).1
    rwa [flC_len, prs_len] at this
  obtain ⟨i, r, hr, rfl⟩ : ∃ i r, r < 8 ∧ j = i * 8 + r := ⟨j / 8, j % 8, Nat.mod_lt _ (by omega), by omega⟩
  have hi : i < l.length := by omega
  rw [flC_at _ (by rw [prs_len]; exact hi) hr, prs_at l SL i hi] at hu
  rw [Addr.add_mid, show fo + (i * 8 + r) = fo + i * 8 + r by omega]
  obtain ⟨q0, q1, q2, q3, q4, q5, q6, q7⟩ := h i hi
  rcases (by omega : r = 0 ∨ r = 1 ∨ r = 2 ∨ r = 3 ∨ r = 4 ∨ r = 5 ∨ r = 6 ∨ r = 7) with rfl | rfl | rfl | rfl | rfl | rfl | rfl | rfl
  · rw [Nat.add_zero, q0]; exact hu
  · rw [q1]; exact hu
  · rw [q2]; exact hu
  · rw [q3]; exact hu
  · rw [q4]; exact hu
  · rw [q5]; exact hu
  · rw [q6]; exact hu
  · rw [q7]; exact hu
/-- Flows that stand in an own row. -/
theorem flows_own {W : World} {base g cap : Nat} (l : List (Fl × Value)) (h : W.ownsRow base 55 8 (.slice (some ⟨g, 0, none⟩) l.length cap) l.length (flC l)) (hok : ∀ q ∈ l, q.1.ok) (hS : ∀ q ∈ l, St W q.1.body q.2) (hl : l.length ≤ 1000000) : FlowsAt W (l.map (·.1)) (.slice (some ⟨g, 0, none⟩) l.length cap) := by
  have hcap : l.length ≤ cap := by
    rcases h.2 with ⟨h, _⟩ | ⟨g', c', cur, e, _, _, h1, _⟩
    · cases h
    · injection e with _ _ e3
      subst e3
      exact h1
  refine ⟨_, cap, fun i => ((l[i]?).map (·.2)).getD N0, by rw [List.length_map], by rw [List.length_map]; omega, by rw [List.length_map]; omega, ?_, .inr ⟨g, 0, rfl, fun i hi => ?_⟩, fun i hi => ?_⟩
  · intro x hx
    obtain ⟨q, hq, rfl⟩ := List.mem_map.1 hx
    exact hok q hq
  · have hi' : i < l.length := by simpa using hi
    have q : ∀ j, j < 8 → W.cell? ⟨g, 0 + i * 8 + j, none⟩ = (flL l[i].1 l[i].2)[j]? := fun j hj => by
      rw [Nat.zero_add]
      exact (h.cellAt (i * 8 + j) (by omega)).trans (flC_at l hi' hj)
    have e : ((l[i]?).map (·.2)).getD N0 = l[i].2 := by simp [hi']
    have e2 : (l.map (·.1))[i] = l[i].1 := by simp
    rw [e2]
    simp only [e]
    exact ⟨q 0 (by omega), q 1 (by omega), q 2 (by omega), q 3 (by omega), q 4 (by omega), q 5 (by omega), q 6 (by omega), q 7 (by omega)⟩
  · have hi' : i < l.length := by simpa using hi
    have e : ((l[i]?).map (·.2)).getD N0 = l[i].2 := by simp [hi']
    have e2 : (l.map (·.1))[i] = l[i].1 := by simp
    rw [e2]
    simp only [e]
    exact hS _ (List.getElem_mem hi')
/-- The flow behind all others. -/
abbrev prsM (l : List Fl) (SL : Nat → Value) (y : Fl) : List (Fl × Value) := prs l SL ++ [(y, N0)]
theorem prsM_len (l : List Fl) (SL : Nat → Value) (y : Fl) : (prsM l SL y).length = l.length + 1 := by simp [prs_len]
theorem prsM_fst (l : List Fl) (SL : Nat → Value) (y : Fl) : (prsM l SL y).map (·.1) = l ++ [y] := by rw [List.map_append, prs_fst]; rfl
theorem flC_app (a : List (Fl × Value)) (y : Fl) (s : Value) : flC (a ++ [(y, s)]) = flC a ++ flL y s := by unfold flC; rw [List.map_append, List.flatten_append]; simp
/-- The copied flows, and one more. -/
theorem flows_more {W : World} {base g cap : Nat} {l : List Fl} {SL : Nat → Value} {y : Fl} (h : W.ownsRow base 55 8 (.slice (some ⟨g, 0, none⟩) (l.length + 1) cap) (l.length + 1) (flC (prs l SL) ++ flL y N0)) (hok : ∀ q ∈ l, q.ok) (hy : y.ok) (hS : ∀ i (h : i < l.length), St W l[i].body (SL i)) (hys : St W y.body N0) (hl : l.length < 1000000) : FlowsAt W (l ++ [y]) (.slice (some ⟨g, 0, none⟩) (l.length + 1) cap) := by
  have hmem : ∀ q ∈ prs l SL, ∃ i, ∃ h : i < l.length, q = (l[i], SL i) := fun q hq => by
    obtain ⟨i, hi, rfl⟩ := List.getElem_of_mem hq
    rw [prs_len] at hi
    exact ⟨i, hi, prs_at l SL i hi⟩
  rw [← prsM_fst l SL y, ← prsM_len l SL y]
  refine flows_own (prsM l SL y) (by rw [prsM_len, flC_app]; exact h) (fun q hq => ?_) (fun q hq => ?_) (by rw [prsM_len]; omega)
  · rcases List.mem_append.1 hq with h | h
    · obtain ⟨i, hi, rfl⟩ := hmem q h
      exact hok _ (List.getElem_mem hi)
    · rw [List.mem_singleton.1 h]; exact hy
  · rcases List.mem_append.1 hq with h | h
    · obtain ⟨i, hi, rfl⟩ := hmem q h
      exact hS i hi
    · rw [List.mem_singleton.1 h]; exact hys
end Go.Proofs.YtmlapodhpinhmaaDoor.Lex
namespace Go.Proofs.YtmlapodhpinhmaaDoor.Rbs
open Go.ChangeShapes Go.WideShapes Go.ChangeAt Go.RowKit Go.Joins
/-- It waits for all of them. -/
def waits (o : Oper) (m : Nat) : Bool := (List.range m).all fun j => o.after.toList.any fun e => Region.binds .any e && decide (e.on = j)
section
variable {P : Program} {Q : Exit → Act → World → Prop} {J : World → Prop} {E : Nat → Value → World → Prop} {ops : Array Oper} {a0 : Act}
theorem wpAny_all {listed : Array Bool} {a : Act} {w : World} (hr : Region.ready .any ops listed = []) (h : Q .normal a w) : ∀ fuel : Nat, wpAny P .any ops Q fuel listed a w
  | 0 => ⟨hr, h⟩
  | _ + 1 => ⟨fun _ => h, fun i hi => by rw [hr] at hi; cases hi⟩
abbrev G0 : World → Prop := fun _ => True
abbrev R0 : World → World → Prop := fun _ _ => False
theorem inv_last {m : Nat} {ol : Oper} (hac : acyc ops = true) (hlo : lone ops = true) (hin : inside ops a0.tmps.size = true) (hm : ops.size = m + 1) (hol : ops[m]? = some ol) (hg : ol.guard = none) (hwt : waits ol m = true) (stable : ∀ d v w w', Below w.heap.size w w' → E d v w → E d v w')
    (step : ∀ (i : Nat) (o : Oper), i < m → ops[i]? = some o → Step P Q J G0 R0 E ops a0 o)
    (fin : ∀ a w, a.defers = a0.defers → a.tmps.size = a0.tmps.size → (∀ t, dstIn ops t = false → a.tmps[t]? = a0.tmps[t]?) → (∀ j d, j < m → slotOf ops j = some d → ∃ v, a.tmps[d]? = some v ∧ E d v w) → J w → Oper.wp P ol a w (fun a' w' => Q .normal a' w') Q) :
    ∀ (fuel : Nat) (listed : Array Bool) (a : Act) (w : World), listed.size = ops.size → left listed ops.size ≤ fuel → listed.getD m true = false → Inv J G0 E ops a0 listed a w → wpAny P .any ops Q fuel listed a w := by
  have st' : ∀ d v w w', Below w.heap.size w w' ∨ R0 w w' → E d v w → E d v w' := fun d v w w' hb h => stable d v w w' (hb.elim id False.elim) h
  intro fuel
  induction fuel with
  | zero =>
    intro listed a w hsz hl hml _
    have := left_set (n := ops.size) (i := m) (by omega) hml
    omega
  | succ fuel ih =>
    intro listed a w hsz hl hml h
    refine ⟨fun hr => ?_, fun i hi => ?_⟩
    · exfalso
      have h1 := all_listed hac hsz hr m m (Nat.le_refl _) (by omega)
      have h2 : listed[m]? = some (listed[m]'(by omega)) := Array.getElem?_eq_getElem (by omega)
      rw [Array.getD_eq_getD_getElem?, h2] at h1 hml
      simp only [Option.getD_some] at h1 hml
      rw [h1] at hml
      cases hml
    · obtain ⟨h1, o, ho, hall⟩ := mem_ready.1 hi
      have hlt := (Array.getElem?_eq_some_iff.1 ho).1
      by_cases him : i = m
      · subst him
        obtain rfl : o = ol := Option.some.inj (ho.symm.trans hol)
        have hlist : ∀ j, j < i → listed.getD j false = true := fun j hj => by
          unfold waits at hwt
          rw [List.all_eq_true] at hwt
          have := hwt j (List.mem_range.2 hj)
          rw [List.any_eq_true] at this
          obtain ⟨e, he, hb⟩ := this
          rw [Bool.and_eq_true, decide_eq_true_eq] at hb
          have := hall e (by simpa using he) hb.1
          rwa [hb.2] at this
        have hfin := fin a w h.defers h.size h.fixed (fun j d hj hs => h.held j d hs (hlist j hj)) h.J
        have hr : Region.ready .any ops (listed.setIfInBounds i true) = [] := by
          rcases he : Region.ready .any ops (listed.setIfInBounds i true) with _ | ⟨k, r⟩
          · rfl
          · have hk : k ∈ Region.ready .any ops (listed.setIfInBounds i true) := by rw [he]; exact List.mem_cons_self
            obtain ⟨k1, o', ho', _⟩ := mem_ready.1 hk
            have hklt := (Array.getElem?_eq_some_iff.1 ho').1
            exfalso
            by_cases hki : k = i
            · subst hki
              have : (listed.setIfInBounds k true).getD k true = true := by simp [hsz, hklt]
              rw [this] at k1
              cases k1
            · rw [getD_set_ne true (fun h => hki h.symm)] at k1
              have h3 := hlist k (by omega)
              have h2 : listed[k]? = some (listed[k]'(by omega)) := Array.getElem?_eq_getElem (by omega)
              rw [Array.getD_eq_getD_getElem?, h2] at h3 k1
              simp only [Option.getD_some] at h3 k1
              rw [h3] at k1
              cases k1
        refine wpOp_step ho fun K' hK' => ?_
        have hw : Region.wanted o (yielded ops a.tmps) = true := by unfold Region.wanted; rw [hg]
        rw [if_pos hw]
        exact Oper.wp_mono (fun a' w' hq => hK' a' w' (wpAny_all hr hq fuel)) hfin
      · have hi' : i < m := by omega
        refine wpOp_step ho fun K' hK' => step i o hi' ho a w (yielded ops a.tmps) K' h.fixed (fun d hd => ?_) (fun j d hj b hb => ?_) h.J ?_
        · unfold slots at hd
          rw [List.contains_iff_mem, List.mem_filterMap] at hd
          obtain ⟨e, he, hs⟩ := hd
          rw [List.mem_filter] at he
          exact h.held e.on d hs (hall e (by simpa using he.1) he.2)
        · unfold slotOf at hj
          unfold yielded
          rw [hj, Option.bind_some, hb]
        · exact fun v w' hv hJ hb => hK' _ _ (ih _ _ _ (by rw [Array.size_setIfInBounds]; exact hsz) (by have := left_set (n := ops.size) hlt h1; omega) (by rw [getD_set_ne true him]; exact hml) (h.put hlo hin st' (fun _ _ _ _ => trivial) ho hv hJ hb))
/-- A drawn region with such a last operation. -/
theorem region_last {id m : Nat} {ol : Oper} {w : World} (hmo : P.follows .mixedOrders = true) (hac : acyc ops = true) (hlo : lone ops = true) (hin : inside ops a0.tmps.size = true) (hm : ops.size = m + 1) (hol : ops[m]? = some ol) (hg : ol.guard = none) (hwt : waits ol m = true) (stable : ∀ d v w w', Below w.heap.size w w' → E d v w → E d v w') (hJ : J w.drew)
    (step : ∀ (i : Nat) (o : Oper), i < m → ops[i]? = some o → Step P Q J G0 R0 E ops a0 o)
    (fin : ∀ a w, a.defers = a0.defers → a.tmps.size = a0.tmps.size → (∀ t, dstIn ops t = false → a.tmps[t]? = a0.tmps[t]?) → (∀ j d, j < m → slotOf ops j = some d → ∃ v, a.tmps[d]? = some v ∧ E d v w) → J w → Oper.wp P ol a w (fun a' w' => Q .normal a' w') Q) : (Code.region id ops true).wp P Q a0 w := by
  refine wp_region_any hmo (inv_last hac hlo hin hm hol hg hwt stable step fin ops.size _ a0 _ (by simp) ?_ ?_ ⟨rfl, rfl, fun _ _ => rfl, fun j d _ hl => ?_, fun j o _ _ hl => ?_, hJ⟩)
  · unfold left
    exact Nat.le_trans (List.length_filter_le _ _) (by simp)
  · rw [Array.getD_eq_getD_getElem?, Array.getElem?_replicate, if_pos (by omega)]
    rfl
  · exfalso
    rw [Array.getD_eq_getD_getElem?, Array.getElem?_replicate] at hl
    split at hl <;> simp at hl
  · exfalso
    rw [Array.getD_eq_getD_getElem?, Array.getElem?_replicate] at hl
    split at hl <;> simp at hl
end
end Go.Proofs.YtmlapodhpinhmaaDoor.Rbs
namespace Go.Proofs.YtmlapodhpinhmaaDoor.Lex
open Go.ChangeShapes Go.WideShapes Go.ChangeAt Go.RowKit Go.Joins
/-- Yes and no that came in. -/
def CameO (w : World) (a : Option Addr) (len : Nat) (l : List Bool) : Prop :=
  l.length = len ∧ (len = 0 ∨ ∃ b o, a = some ⟨b, o, none⟩ ∧ ∀ i, i < len → w.cell? ⟨b, o + i, none⟩ = some (.bool (l.getD i false)))
theorem CameO.keep {w w' : World} {a : Option Addr} {len : Nat} {l : List Bool} (h : CameO w a len l) (hb : Below w.heap.size w w') : CameO w' a len l := by
  refine ⟨h.1, h.2.imp id ?_⟩
  rintro ⟨b, o, ha, hc⟩
  exact ⟨b, o, ha, fun i hi => cell_kept (hc i hi) hb⟩
theorem cellsOf4 : Tryd.prog.cellsOf 4 = 1 := by kernel_rfl
theorem viewo {H : Type} {enc : TypeId × Value → H} {W : World} {a0 : Option Addr} {len cap fuel : Nat} {d : DataW H} {p : List MemPlace} {ts : List TypeId} {ds : List (DataW H)} {j : Nat}
    (hf : DataW.trod enc Tryd.prog W 0 (fun _ => true) true fuel 57 [.slice a0 len cap] = some (d, p))
    (_hsz : (DataW.weightsEach Tryd.prog ts ds).all (· ≤ reachBytes) = true) (_ht : ts[j]? = some 57) (_hj : ds[j]? = some d) : ∃ l, CameO W a0 len l ∧ len ≤ cap := by
  rcases Deep.open_bools Tryd.underlying57 Tryd.underlying4 cellsOf4 hf with ⟨hcs, hx⟩ | ⟨a, len', cap', B, hcs, _, hl, hm, hx, hcell⟩
  · simp at hcs
    obtain ⟨rfl, rfl, rfl⟩ := hcs
    exact ⟨[], ⟨rfl, .inl rfl⟩, Nat.le_refl _⟩
  · simp at hcs
    obtain ⟨rfl, rfl, rfl⟩ := hcs
    refine ⟨(List.range len).map B, ⟨by simp, ?_⟩, hl⟩
    by_cases h0 : len = 0
    · exact .inl h0
    · obtain ⟨b, o, sp⟩ := a
      have hsp : sp = none := by simpa [Addr.add] using World.cell?_spot (hcell 0 (by omega))
      subst hsp
      refine .inr ⟨b, o, rfl, fun i hi => ?_⟩
      rw [← Addr.add_mid, hcell i (by omega)]
      simp [hi]
/-- An act whose slots are those of another one, some of them filled. -/
theorem act_upd : ∀ (L : List (Nat × Value)) (a a0 : Act), a.defers = a0.defers → a.tmps.size = a0.tmps.size → (∀ p ∈ L, a.tmps[p.1]? = some p.2) → (∀ t, (L.any fun p => p.1 == t) = false → a.tmps[t]? = a0.tmps[t]?) → a = L.foldl (fun b p => { b with tmps := b.tmps.setIfInBounds p.1 p.2 }) a0
  | [], a, a0, hd, hs, _, hf => by
    obtain ⟨t, d⟩ := a
    obtain ⟨t0, d0⟩ := a0
    obtain rfl : d = d0 := hd
    have : t = t0 := Array.ext_getElem? fun i => hf i rfl
    rw [this]
    rfl
  | p :: L, a, a0, hd, hs, hL, hf => by
    refine act_upd L a { a0 with tmps := a0.tmps.setIfInBounds p.1 p.2 } hd (by rw [Array.size_setIfInBounds]; exact hs) (fun q hq => hL q (List.mem_cons_of_mem _ hq)) (fun t ht => ?_)
    have hp := hL p (List.mem_cons_self ..)
    have hlt : p.1 < a0.tmps.size := by rw [← hs]; exact (Array.getElem?_eq_some_iff.1 hp).1
    by_cases e : p.1 = t
    · subst e
      rw [hp]
      simp [hlt]
    · show a.tmps[t]? = (a0.tmps.setIfInBounds p.1 p.2)[t]?
      rw [Array.getElem?_setIfInBounds_ne e]
      exact hf t (by rw [List.any_cons, ht]; simpa using e)
/-- The chain's flows, each with the parts of its body. -/
def chR (f : Nat → Nat) (g : Nat → Bool) (sv : Nat → Value) (k : Nat) : List (Fl × Value) := (List.range k).map fun i => (flCh f g i, sv i)
theorem chR_len (f : Nat → Nat) (g : Nat → Bool) (sv : Nat → Value) (k : Nat) : (chR f g sv k).length = k := by unfold chR; simp
theorem chR_fst (f : Nat → Nat) (g : Nat → Bool) (sv : Nat → Value) (k : Nat) : (chR f g sv k).map (·.1) = (chP f g k).flows := by
  unfold chR chP
  rw [List.map_map]
  rfl
theorem chR_succ (f : Nat → Nat) (g : Nat → Bool) (sv : Nat → Value) (k : Nat) (s : Value) : chR f g (fun i => if i = k then s else sv i) (k + 1) = chR f g sv k ++ [(flCh f g k, s)] := by
  unfold chR
  rw [List.range_succ, List.map_append]
  congr 1
  · refine List.map_congr_left fun i hi => ?_
    have hi := List.mem_range.1 hi
    show (flCh f g i, if i = k then s else sv i) = _
    rw [if_neg (by omega)]
  · simp
/-- The chain in its variable, what came in, the tables. -/
structure CS (w : World) (f : Nat → Nat) (g : Nat → Bool) (pb ib k : Nat) (fv : Value) (sv : Nat → Value) (W : World) : Prop where
  row : W.heap[pb]? = some (.cells #[.int .i64 4, .slice (some ⟨ib, 0, none⟩) 1 1, fv, .slice none 0 0] 26 (0, 0))
  ins : W.heap[ib]? = some (.cells #[.string (nmC 0), .int .u8 1, .int .i64 1] 59 (0, 0))
  own : W.ownsRow (pb + 1) 55 8 fv k (flC (chR f g sv k))
  lt : ib < pb
  lo : w.heap.size ≤ ib
  parts : ∀ i, i < k → StOn (fun b => b = pb ∨ fv.ownBlock = some b) W (bdC i (g i)) (sv i)
  R : TabR W
  J : TabJ W
  below : Below w.heap.size w W
theorem CS.keep {w W W' : World} {f : Nat → Nat} {g : Nat → Bool} {pb ib k : Nat} {fv : Value} {sv : Nat → Value} (h : CS w f g pb ib k fv sv W) (hb : Below W.heap.size W W') : CS w f g pb ib k fv sv W' :=
  ⟨keep_row h.row hb, keep_row h.ins hb, own_block9 h.own (fun b hg => hb.block b (h.own.lt b hg).2), h.lt, h.lo, fun i hi => (h.parts i hi).step (Buts.below hb), h.R.below hb, h.J.below hb, h.below.trans (hb.mono h.below.size)⟩
theorem flCh_ok (f : Nat → Nat) (g : Nat → Bool) (i : Nat) : (flCh f g i).ok := by
  have h := Nat.mod_lt (f i) (show 0 < 4 by omega)
  refine ⟨?_, by show (1 : Nat) < _; omega, ?_, by show (-9223372036854775808 : Int) ≤ 0; omega, by show (0 : Int) ≤ _; omega⟩
  · show (nmC (i + 1)).size ≤ _
    show (2 : Nat) ≤ _
    omega
  · show (-9223372036854775808 : Int) ≤ ((1 + f i % 4 : Nat) : Int) ∧ ((1 + f i % 4 : Nat) : Int) ≤ _
    omega
/-- The chain as a program in memory. -/
theorem CS.pg {w W : World} {f : Nat → Nat} {g : Nat → Bool} {pb ib k : Nat} {fv : Value} {sv : Nat → Value} (h : CS w f g pb ib k fv sv W) (hk : k ≤ 20) : PgAt W (chP f g k) (.slice (some ⟨ib, 0, none⟩) 1 1) fv (.slice none 0 0) where
  st := ⟨by show (-9223372036854775808 : Int) ≤ 4; omega, by show (4 : Int) ≤ _; omega⟩
  ins := ins_one ⟨nmC 0, 1, 1⟩ h.ins ⟨by show (1 : Nat) ≤ _; omega, by show (1 : Nat) < _; omega, by show (-9223372036854775808 : Int) ≤ 1; omega, by show (1 : Int) ≤ _; omega⟩
  flows := by
    rw [← chR_fst f g sv k]
    rcases h.own.2 with ⟨e, e0⟩ | ⟨b, cap, cur, e, _⟩
    · subst e0
      rw [e]
      exact flows_none W
    · have hw := h.own
      rw [e] at hw ⊢
      have := flows_own (W := W) (base := pb + 1) (g := b) (cap := cap) (chR f g sv k) (by rw [chR_len]; exact hw) (fun q hq => ?_) (fun q hq => ?_) (by rw [chR_len]; omega)
      · rw [chR_len] at this
        exact this
      · obtain ⟨i, _, rfl⟩ := List.mem_map.1 hq
        exact flCh_ok f g i
      · obtain ⟨i, hi, rfl⟩ := List.mem_map.1 hq
        exact (h.parts i (List.mem_range.1 hi)).now
  outs := texts_none W
end Go.Proofs.YtmlapodhpinhmaaDoor.Lex
namespace Go.Proofs.YtmlapodhpinhmaaDoor.Lex
open Go.ChangeShapes Go.WideShapes Go.ChangeAt Go.RowKit Go.Joins
theorem wpList_append_at {P : Program} {ops : Array Oper} {rest : List Oper} {w : World} {o : Oper} {a : Act} {Q : Exit → Act → World → Prop} (hgd : o.guard = none) (s x : Operand) (t : TypeId)
    (ho : o.op = .call { callee := .builtin .append, args := #[s, x], argTypes := #[t, t] })
    (base : Nat) (e : TypeId) (i : TypeInfo) (z : Value) (size bytes : Nat) (ht : P.underlying t = some (.slice e)) (hi : P.info? e = some i) (hz : i.zero = some z)
    (hsize : i.size = size) (hby : i.bytes = bytes) (hzs : z.cells.size = size) (hsz : 0 < size)
    (v : Value) (n : Nat) (xs : List Value) (hs : a.eval s = v) (hown : w.ownsRow base e size v n xs)
    (ad : Addr) (m c : Nat) (news : List Value) (hx : a.eval x = .slice (some ad) m c) (hl : news.length = m * size) (hnews : ∀ j u, news[j]? = some u → w.cell? (ad.add j) = some u) (h1 : ∀ u ∈ news, u.oneCell' = true)
    (h63 : n + m ≤ maxLen) (hbytes : (n + m) * bytes ≤ 140737488355328) (hbase : base ≤ w.heap.size)
    (h : ∀ v' w', w'.ownsRow base e size v' (n + m) (xs ++ news) → w.grownBy w' v.ownBlock → (v' = .slice none 0 0 ↔ v = .slice none 0 0 ∧ m = 0) → (v'.ownBlock = v.ownBlock ∨ v'.ownBlock = some w.heap.size) → wpList P ops Q rest (a.put o.dst v') w') : wpList P ops Q (o :: rest) a w :=
  wpList_plain hgd fun _ hK => wp_append_at s x t ho base e i z size bytes ht hi hz hsize hby hzs hsz v n xs hs hown ad m c news hx hl hnews h1 h63 hbytes hbase (fun v' w' g1 g2 g3 g4 => hK _ _ (h v' w' g1 g2 g3 g4))
theorem CS.pos {w W : World} {f : Nat → Nat} {g : Nat → Bool} {pb ib k : Nat} {fv : Value} {sv : Nat → Value} (h : CS w f g pb ib k fv sv W) : pb < W.heap.size := (Array.getElem?_eq_some_iff.1 h.row).1
theorem CS.grow {w W V V' : World} {f : Nat → Nat} {g : Nat → Bool} {pb ib k : Nat} {fv v s : Value} {sv : Nat → Value} (h : CS w f g pb ib k fv sv W) (hR : TabR w) (hJ : TabJ w) (hb : Below W.heap.size W V) (ho : V'.ownsRow (pb + 1) 55 8 v (k + 1) (flC (chR f g sv k) ++ flL (flCh f g k) s)) (hg : V.grownBy V' fv.ownBlock)
    (hat : v.ownBlock = fv.ownBlock ∨ v.ownBlock = some V.heap.size) (hs : StOn (fun b => b = pb ∨ fv.ownBlock = some b) V (bdC k (g k)) s) : CS w f g pb ib (k + 1) v (fun i => if i = k then s else sv i) (V'.setCell ⟨pb, 2, none⟩ v) := by
  have hV := h.keep hb
  have hpb := hV.pos
  have hlt := hV.lt
  have hlo := hV.lo
  have hne : ∀ b, fv.ownBlock = some b → pb + 1 ≤ b ∧ b < V.heap.size := fun b e => hV.own.lt b e
  have hrow : V'.heap[pb]? = some (.cells #[.int .i64 4, .slice (some ⟨ib, 0, none⟩) 1 1, fv, .slice none 0 0] 26 (0, 0)) := (hg.block pb hpb (fun e => by have := hne pb e.symm; omega)).trans hV.row
  have hins : V'.heap[ib]? = some (.cells #[.string (nmC 0), .int .u8 1, .int .i64 1] 59 (0, 0)) := (hg.block ib (by omega) (fun e => by have := hne ib e.symm; omega)).trans hV.ins
  have hb1 : Below w.heap.size w V' := hV.below.grown hg hV.below.size (fun j e => by have := hne j e; omega)
  have hb2 : Below w.heap.size w (V'.setCell ⟨pb, 2, none⟩ v) := hb1.setCell (p := ⟨pb, 2, none⟩) (by show w.heap.size ≤ pb; omega) v
  have hD : ∀ {x : Ex} {u : Value}, StOn (fun b => b = pb ∨ fv.ownBlock = some b) V x u → StOn (fun b => b = pb ∨ v.ownBlock = some b) (V'.setCell ⟨pb, 2, none⟩ v) x u := fun {x u} hx => by
    have h1 : StOn (fun b => b = pb ∨ fv.ownBlock = some b ∨ v.ownBlock = some b) V x u := AtOn.grow hx (Below.refl _ _) (fun j hj hc => by
      rcases hc with e | e | e
      · exact .inl e
      · exact .inr e
      · rcases hat with h | h
        · exact .inr (h ▸ e)
        · rw [h] at e
          injection e with e
          omega)
    have h2 : Buts (fun b => b = pb ∨ fv.ownBlock = some b ∨ v.ownBlock = some b) V V' := ⟨hg.os, hg.tape, hg.output, hg.size, fun j hj hn => hg.block j hj (fun e => hn (.inr (.inl e.symm)))⟩
    have h3 : Buts (fun b => b = pb ∨ fv.ownBlock = some b ∨ v.ownBlock = some b) V (V'.setCell ⟨pb, 2, none⟩ v) := h2.trans (Buts.set _ _ _ _ (.inl rfl))
    exact AtOn.grow (AtOn.step h1 h3) (Below.refl _ _) (fun j _ hc => hc.elim .inl (fun e => .inr (.inr e)))
  refine ⟨?_, (Below.heap_setCell _ _ _ _ (by show ib ≠ pb; omega)).trans hins, ?_, h.lt, h.lo, fun i hi => ?_, hR.below hb2, hJ.below hb2, hb2⟩
  · exact heap_setCell_same V' pb 2 _ 26 v hrow
  · rw [chR_succ, flC_app]
    exact own_block9 ho (fun b hb' => Below.heap_setCell _ _ _ _ (by show b ≠ pb; have := (ho.lt b hb').1; omega))
  · by_cases e : i = k
    · subst e
      simp only [if_true]
      exact hD hs
    · show StOn _ _ _ (if i = k then s else sv i)
      rw [if_neg e]
      exact hD (hV.parts i (by omega))
end Go.Proofs.YtmlapodhpinhmaaDoor.Lex
