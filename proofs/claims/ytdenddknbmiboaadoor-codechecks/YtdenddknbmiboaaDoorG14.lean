/-
  The instructions of a flow: Of.
  Programs and what is worked out, as the law builds them: rows, names, two, pre.
  A drawn region, operation by operation, where operations without a slot store into one block: what each slot holds when its operation has come up is said once, and each operation is met once, whatever the order.
  The chapter's program, as the law builds it: the contract of Known.
  What the chapter's calls answer: closed facts.
  What the chapter's calls answer: closed facts of stations.
  The chapter's flow: what its instructions are, and what they leave.
  lives: the chapter's instructions are answered.
  What is worked out that came in, opened once.
-/
import Derived.Test.YtdenddknbmiboaaDoorG13
import Derived.Test.YtdenddknbmiboaaDoorG7
import Derived.Test.YtdenddknbmiboaaDoorG6
import Derived.Laws.ResultCell
import Derived.BigRegionIn
import Derived.Test.YtdenddknbmiboaaDoorG9
import Derived.Laws.StructEq
import Derived.Test.YtdenddknbmiboaaDoorG1
import Derived.Test.YtdenddknbmiboaaDoorG2
namespace Go.Proofs.YtdenddknbmiboaaDoor.Lex
open Go.ChangeShapes Go.WideShapes Go.ChangeAt Go.RowKit Go.Joins
theorem infoWr : (Tryd.prog.info? 91).map (·.size) = some 3 := by kernel_rfl
/-- What is answered: instructions. -/
def OfE (w : World) (L : List Cin) (e : Ending) (w' : World) : Prop := ∃ r, e = .returned (.tuple #[r, .int .i64 0]) ∧ w'.ownsRow w.heap.size 38 3 r L.length (inssC L) ∧ Below w.heap.size w w'
set_option maxRecDepth 100000 in
set_option maxHeartbeats 16000000 in
theorem of_fine (p : Pg) (l : List Int) (f : Nat) (lv pv : Value) (w : World) (A B C : Value) (hP : PgAt w p A B C) (hR : TabR w) (hJ : TabJ w) (hI : IAt w l lv) (hE : Typ.ckV p = 0) (hL : lateOk p l = true) (hf : f < p.flows.length) (hS : stOk p p.flows[f].st = true) (hQ : PlR w pv (placesL p l p.flows[f].st)) (hN : ∀ x ∈ placesL p l p.flows[f].st, x.name.size ≤ 140737488355328) (hPN : (placesL p l p.flows[f].st).length ≤ 100000) :
    Calls Tryd.prog 15 #[pgV p A B C, lv, .int .i64 (f : Int), pv] w (OfE w (wrF (srcK p l (placesL p l p.flows[f].st) (placesL p l p.flows[f].st).length) (lateAt l (f : Int)) p.flows[f].body 0)) := by
  have RT := @results_two Tryd.f15 8 9 rfl
  obtain ⟨HFI, hll⟩ := late_fine hL
  have HFI := hid HFI
  have HLL := hid hll
  have HLO := hid hL
  have HE := hid hE
  have HI := hid hI
  have HSO := hid hS
  have HQ := hid hQ
  have HPN := hid hPN
  have HNS := hid hN
  have HFS : Hid (∀ x ∈ placesL p l p.flows[f].st, plO (findT (thingsL p) x.name) < (l.length : Int)) := hid (fun x _ => by rw [hll]; exact plo_lt x.name (by omega))
  have HCK := hid (nm_chk (st_nm hS) _ (List.getElem_mem hf))
  have HWL : Hid ((wrF (srcK p l (placesL p l p.flows[f].st) (placesL p l p.flows[f].st).length) (lateAt l (f : Int)) p.flows[f].body 0).length ≤ 200) := hid (wrF_chk _ _ HCK.out 0)
  have HOK := hid (Typ.chk_ok HCK.out)
  have HTB6 : Hid (∀ u, -1000000 ≤ (srcK p l (placesL p l p.flows[f].st) (placesL p l p.flows[f].st).length u).2 ∧ (srcK p l (placesL p l p.flows[f].st) (placesL p l p.flows[f].st).length u).2 ≤ 1000000) := hid (fun u => by have := srcK_bound HFI.out p (placesL p l p.flows[f].st) (placesL p l p.flows[f].st).length u; omega)
  have hfl : f < l.length := by omega
  have hlf := HFI.out _ (List.getElem_mem hfl)
  have hla := lateAt_nat l f hfl
  rw [← hla] at hlf
  have hlate6 : 0 ≤ lateAt l (f : Int) ∧ lateAt l (f : Int) ≤ 1000000 := by omega
  obtain ⟨A0, A1, rfl, _⟩ := hP.ins
  obtain ⟨C0, C1, rfl, _⟩ := hP.outs
  obtain ⟨B0, B1, sl, rfl, hb1, hb2, _, hfc, hsb⟩ := hP.flows
  obtain ⟨fb, fo, rfl, hfd⟩ := hfc.resolve_left (by omega)
  obtain ⟨ba, bc, _, hsl, _⟩ := (hsb f hf).out
  have HFC := hid (hfd f hf)
  have HSB := hid (hsb f hf)
  rw [hsl] at HFC HSB
  clear hsl
  have X0 := hid (FV.new hP hR hJ)
  obtain ⟨lb, lo, hlv, hlcell⟩ : ∃ b o, (∃ c, lv = .slice (some ⟨b, o, none⟩) l.length c) ∧ ∀ i (h : i < l.length), w.cell? ⟨b, o + i, none⟩ = some (.int .i64 l[i]) := by
    obtain ⟨la, lc, rfl, h1, h2⟩ := hI
    rcases h2 with h2 | ⟨b, o, rfl, h2⟩
    · omega
    · exact ⟨b, o, ⟨_, rfl⟩, h2⟩
  obtain ⟨lc, rfl⟩ := hlv
  have HLC := hid (hlcell f hfl)
  rw [← hla] at HLC
  obtain ⟨pa, pc, rfl, hpc, _⟩ := hQ
  clear hP hR hJ hI hE hL hS hfc hfd hsb hlcell hla hN hPN hll
  generalize hT : srcK p l (placesL p l p.flows[f].st) (placesL p l p.flows[f].st).length = T at *
  have HTT := hid hT
  clear hT
  generalize lateAt l (f : Int) = lf at *
  generalize p.flows[f] = fl at *
  obtain ⟨fnm, fty, st, fdf, body⟩ := fl
  dsimp only at *
  have hff : (f : Int) < (p.flows.length : Int) := by omega
  have hf0 : ¬ (f : Int) < 0 := by omega
  have hf1 : ¬ (f : Int) ≥ (p.flows.length : Int) := by omega
  have hfl' : (f : Int) < (l.length : Int) := by omega
  have hf00 : (0 : Int) ≤ (f : Int) := by omega
  clear hpc
  go_enter Tryd.func15, Tryd.ntmps15
  obtain ⟨r0, r1, r2, r3⟩ := row4 X0.out.row
  have ctc := Typ.types_check p _ _ _ _ X0.out.P X0.out.R X0.out.J
  rw [HE.out] at ctc
  go_wp2_with (go_at_call 32; refine ctc.mono ?_; rintro e w2 ⟨rfl, hb2'⟩; have X1 := hid (X0.out.keep hb2'); obtain ⟨r0, r1, r2, r3⟩ := row4 X1.out.row; clear hb2' ctc)
  have hst2 := cell_kept HFC.out.2.2.1 X1.out.below
  refine wp_region_held_drew (S := fun V => (V.cell? ⟨w.heap.size, 0, none⟩ = some (.int .i64 p.st) ∧ V.cell? ⟨w.heap.size, 1, none⟩ = some (.slice A0 p.ins.length A1) ∧ V.cell? ⟨w.heap.size, 2, none⟩ = some (.slice (some ⟨fb, fo, none⟩) p.flows.length B1) ∧ V.cell? ⟨w.heap.size, 3, none⟩ = some (.slice C0 p.outs.length C1)) ∧ V.cell? ⟨fb, fo + f * 8 + 2, none⟩ = some (.int .i64 st)) (by kernel_rfl) ?_ (fun hHeld => ?_)
  · exact ⟨⟨r0, r1, r2, r3⟩, hst2⟩
  refine wpAnyH_take (i := 0) (oi := { dst := some 28, op := Go.Op.load 46 (Go.Operand.tmp 4), type := 46, pos := _, after := #[], guard := none }) (v := ?_) rfl (by kernel_rfl) (by kernel_rfl) (by kernel_rfl) (fun _ _ _ h => h) (Or.inl ⟨by rfl, ?_⟩) (by assumption) ?_
  rotate_left
  · intro w hSw; (try dsimp only at hSw); go_simp <;> first | with_reducible rfl | (rw [if_neg (by first | omega | (simp only [ByteArray.size_append] at *; omega))])
  simp only [Act.put, List.setIfInBounds_toArray, List.set_cons_zero, List.set_cons_succ]
  refine wpAnyH_take (i := 1) (oi := { dst := some 29, op := Go.Op.move (Go.Operand.tmp 1), type := 48, pos := _, after := #[], guard := none }) (v := ?_) rfl (by kernel_rfl) (by kernel_rfl) (by kernel_rfl) (fun _ _ _ h => h) (Or.inl ⟨by rfl, ?_⟩) (by assumption) ?_
  rotate_left
  · intro w hSw; (try dsimp only at hSw); go_simp <;> first | with_reducible rfl | (rw [if_neg (by first | omega | (simp only [ByteArray.size_append] at *; omega))])
  simp only [Act.put, List.setIfInBounds_toArray, List.set_cons_zero, List.set_cons_succ]
  refine wpAnyH_take (i := 2) (oi := { dst := some 30, op := Go.Op.fieldAddr 46 (Go.Operand.tmp 4) 2, type := 0, pos := _, after := #[], guard := none }) (v := ?_) rfl (by kernel_rfl) (by kernel_rfl) (by kernel_rfl) (fun _ _ _ h => h) (Or.inl ⟨by rfl, ?_⟩) (by assumption) ?_
  rotate_left
  · intro w hSw; (try dsimp only at hSw); go_simp <;> first | with_reducible rfl | (rw [if_neg (by first | omega | (simp only [ByteArray.size_append] at *; omega))])
  simp only [Act.put, List.setIfInBounds_toArray, List.set_cons_zero, List.set_cons_succ]
  refine wpAnyH_take (i := 3) (oi := { dst := some 31, op := Go.Op.load 43 (Go.Operand.tmp 30), type := 43, pos := _, after := #[{ on := 2, ground := Go.Ground.data }], guard := none }) (v := ?_) rfl (by kernel_rfl) (by kernel_rfl) (by kernel_rfl) (fun _ _ _ h => h) (Or.inl ⟨by rfl, ?_⟩) (by assumption) ?_
  rotate_left
  · intro w hSw; (try dsimp only at hSw); go_simp <;> first | with_reducible rfl | (rw [if_neg (by first | omega | (simp only [ByteArray.size_append] at *; omega))])
  simp only [Act.put, List.setIfInBounds_toArray, List.set_cons_zero, List.set_cons_succ]
  refine wpAnyH_take (i := 4) (oi := { dst := some 32, op := Go.Op.move (Go.Operand.tmp 2), type := 3, pos := _, after := #[], guard := none }) (v := ?_) rfl (by kernel_rfl) (by kernel_rfl) (by kernel_rfl) (fun _ _ _ h => h) (Or.inl ⟨by rfl, ?_⟩) (by assumption) ?_
  rotate_left
  · intro w hSw; (try dsimp only at hSw); go_simp <;> first | with_reducible rfl | (rw [if_neg (by first | omega | (simp only [ByteArray.size_append] at *; omega))])
  simp only [Act.put, List.setIfInBounds_toArray, List.set_cons_zero, List.set_cons_succ]
  refine wpAnyH_take (i := 5) (oi := { dst := some 33, op := Go.Op.indexAddr 43 (Go.Operand.tmp 31) (Go.Operand.tmp 32), type := 0, pos := _, after := #[{ on := 3, ground := Go.Ground.data }, { on := 4, ground := Go.Ground.data }], guard := none }) (v := ?_) rfl (by kernel_rfl) (by kernel_rfl) (by kernel_rfl) (fun _ _ _ h => h) (Or.inl ⟨by rfl, ?_⟩) (by assumption) ?_
  rotate_left
  · intro w hSw; (try dsimp only at hSw); go_simp <;> first | with_reducible rfl | (rw [if_neg (by first | omega | (simp only [ByteArray.size_append] at *; omega))])
  simp only [Act.put, List.setIfInBounds_toArray, List.set_cons_zero, List.set_cons_succ]
  refine wpAnyH_take (i := 6) (oi := { dst := some 34, op := Go.Op.fieldAddr 76 (Go.Operand.tmp 33) 2, type := 0, pos := _, after := #[{ on := 5, ground := Go.Ground.data }], guard := none }) (v := ?_) rfl (by kernel_rfl) (by kernel_rfl) (by kernel_rfl) (fun _ _ _ h => h) (Or.inl ⟨by rfl, ?_⟩) (by assumption) ?_
  rotate_left
  · intro w hSw; (try dsimp only at hSw); go_simp <;> first | with_reducible rfl | (rw [if_neg (by first | omega | (simp only [ByteArray.size_append] at *; omega))])
  simp only [Act.put, List.setIfInBounds_toArray, List.set_cons_zero, List.set_cons_succ]
  refine wpAnyH_take (i := 7) (oi := { dst := some 35, op := Go.Op.load 3 (Go.Operand.tmp 34), type := 3, pos := _, after := #[{ on := 6, ground := Go.Ground.data }], guard := none }) (v := ?_) rfl (by kernel_rfl) (by kernel_rfl) (by kernel_rfl) (fun _ _ _ h => h) (Or.inl ⟨by rfl, ?_⟩) (by assumption) ?_
  rotate_left
  · intro w hSw; (try dsimp only at hSw); go_simp <;> first | with_reducible rfl | (rw [if_neg (by first | omega | (simp only [ByteArray.size_append] at *; omega))])
  simp only [Act.put, List.setIfInBounds_toArray, List.set_cons_zero, List.set_cons_succ]
  refine wpAnyH_ready (rs := [8]) (by kernel_rfl) (by simp) ?_
  refine AllReadyH.cons (o := { dst := some 36, op := Go.Op.call { callee := Go.Callee.value (Go.Operand.func 14), args := #[Go.Operand.tmp 28, Go.Operand.tmp 29, Go.Operand.tmp 35], argTypes := #[46, 48, 3] }, type := 50, pos := _, after := #[{ on := 0, ground := Go.Ground.data }, { on := 1, ground := Go.Ground.data }, { on := 7, ground := Go.Ground.data }], guard := none }) rfl (fun K hK => ?_) AllReadyH.nil
  go_simp
  have XD := X1.out.keep (Below.refl w2.heap.size w2).drew
  refine (places_ p l _ st _ _ _ _ XD.P XD.R XD.J (HI.out.keep XD.below)).mono ?_
  rintro e w3 ⟨hO, hb3⟩
  obtain ⟨r, rfl, hrow⟩ : ∃ r, e = .returned (.tuple #[r, .int .i64 0]) ∧ RowP w3 (w2.drew).heap.size r (placesL p l st) := by
    rcases hO with ⟨h, _⟩ | ⟨_, h, _⟩ | ⟨_, _, h⟩
    · rw [HSO.out] at h; cases h
    · rw [HLO.out] at h; cases h
    · exact h
  have hb3' := (Below.refl w2.heap.size w2).drew.trans hb3
  have X3 := hid (X1.out.keep hb3')
  have HRR := hid (RowP.read hrow HPN.out)
  have hst3 := cell_kept hst2 hb3'
  obtain ⟨t0, t1, t2, t3⟩ := row4 X3.out.row
  clear hb3 hO hrow
  go_wp2_with fail
  refine hK.out _ _ ?_ (fun hHeld1 => ?_)
  · exact ⟨⟨t0, t1, t2, t3⟩, hst3⟩
  clear hK K
  refine wpAnyH_take (i := 9) (oi := { dst := some 27, op := Go.Op.move (Go.Operand.tmp 36), type := 50, pos := _, after := #[{ on := 8, ground := Go.Ground.data }], guard := none }) (v := ?_) rfl (by kernel_rfl) (by kernel_rfl) (by kernel_rfl) (fun _ _ _ h => h) (Or.inl ⟨by rfl, ?_⟩) (by assumption) ?_
  rotate_left
  · intro w hSw; (try dsimp only at hSw); go_simp <;> first | with_reducible rfl | (rw [if_neg (by first | omega | (simp only [ByteArray.size_append] at *; omega))])
  simp only [Act.put, List.setIfInBounds_toArray, List.set_cons_zero, List.set_cons_succ]
  refine wpAnyH_take (i := 10) (oi := { dst := some 37, op := Go.Op.extract (Go.Operand.tmp 27) 0, type := 22, pos := _, after := #[{ on := 9, ground := Go.Ground.data }], guard := none }) (v := ?_) rfl (by kernel_rfl) (by kernel_rfl) (by kernel_rfl) (fun _ _ _ h => h) (Or.inl ⟨by rfl, ?_⟩) (by assumption) ?_
  rotate_left
  · intro w hSw; (try dsimp only at hSw); go_simp <;> first | with_reducible rfl | (rw [if_neg (by first | omega | (simp only [ByteArray.size_append] at *; omega))])
  simp only [Act.put, List.setIfInBounds_toArray, List.set_cons_zero, List.set_cons_succ]
  refine wpAnyH_take (i := 11) (oi := { dst := some 38, op := Go.Op.extract (Go.Operand.tmp 27) 1, type := 49, pos := _, after := #[{ on := 9, ground := Go.Ground.data }, { on := 12, ground := Go.Ground.gcOnly Go.Departure.lateStores }], guard := none }) (v := ?_) rfl (by kernel_rfl) (by kernel_rfl) (by kernel_rfl) (fun _ _ _ h => h) (Or.inl ⟨by rfl, ?_⟩) (by assumption) ?_
  rotate_left
  · intro w hSw; (try dsimp only at hSw); go_simp <;> first | with_reducible rfl | (rw [if_neg (by first | omega | (simp only [ByteArray.size_append] at *; omega))])
  simp only [Act.put, List.setIfInBounds_toArray, List.set_cons_zero, List.set_cons_succ]
  refine wpAnyH_take (i := 12) (oi := { dst := some 10, op := Go.Op.assign (Go.Operand.tmp 37), type := 22, pos := _, after := #[{ on := 10, ground := Go.Ground.data }, { on := 8, ground := Go.Ground.chain }, { on := 0, ground := Go.Ground.phase }, { on := 1, ground := Go.Ground.phase }, { on := 2, ground := Go.Ground.phase }, { on := 3, ground := Go.Ground.phase }, { on := 4, ground := Go.Ground.phase }, { on := 5, ground := Go.Ground.phase }, { on := 6, ground := Go.Ground.phase }, { on := 7, ground := Go.Ground.phase }, { on := 8, ground := Go.Ground.phase }, { on := 9, ground := Go.Ground.phase }, { on := 10, ground := Go.Ground.phase }, { on := 11, ground := Go.Ground.textOnly Go.Departure.lateStores }], guard := none }) (v := ?_) rfl (by kernel_rfl) (by kernel_rfl) (by kernel_rfl) (fun _ _ _ h => h) (Or.inl ⟨by rfl, ?_⟩) (by assumption) ?_
  rotate_left
  · intro w hSw; (try dsimp only at hSw); go_simp <;> first | with_reducible rfl | (rw [if_neg (by first | omega | (simp only [ByteArray.size_append] at *; omega))])
  simp only [Act.put, List.setIfInBounds_toArray, List.set_cons_zero, List.set_cons_succ]
  refine wpAnyH_take (i := 13) (oi := { dst := some 11, op := Go.Op.assign (Go.Operand.tmp 38), type := 49, pos := _, after := #[{ on := 11, ground := Go.Ground.data }, { on := 12, ground := Go.Ground.chain }, { on := 0, ground := Go.Ground.phase }, { on := 1, ground := Go.Ground.phase }, { on := 2, ground := Go.Ground.phase }, { on := 3, ground := Go.Ground.phase }, { on := 4, ground := Go.Ground.phase }, { on := 5, ground := Go.Ground.phase }, { on := 6, ground := Go.Ground.phase }, { on := 7, ground := Go.Ground.phase }, { on := 8, ground := Go.Ground.phase }, { on := 9, ground := Go.Ground.phase }, { on := 10, ground := Go.Ground.phase }, { on := 11, ground := Go.Ground.phase }, { on := 12, ground := Go.Ground.phase }], guard := none }) (v := ?_) rfl (by kernel_rfl) (by kernel_rfl) (by kernel_rfl) (fun _ _ _ h => h) (Or.inl ⟨by rfl, ?_⟩) (by assumption) ?_
  rotate_left
  · intro w hSw; (try dsimp only at hSw); go_simp <;> first | with_reducible rfl | (rw [if_neg (by first | omega | (simp only [ByteArray.size_append] at *; omega))])
  simp only [Act.put, List.setIfInBounds_toArray, List.set_cons_zero, List.set_cons_succ]
  refine wpAnyH_done (by kernel_rfl) ?_ _
  obtain ⟨ra, rc, rfl, _⟩ : ∃ a c, r = .slice a (placesL p l st).length c ∧ True := by
    obtain ⟨a, c, h, _⟩ := HRR.out
    exact ⟨a, c, h, trivial⟩
  clear hHeld hHeld1 hst2 hst3
  go_wp2_with (fail)
  refine (equal_same (placesL p l st) _ _ _ (HQ.out.keep X3.out.below) HRR.out).mono ?_
  rintro e w4 ⟨rfl, hb4⟩
  have X4 := hid (X3.out.keep hb4)
  have HRR4 := hid (HRR.out.keep hb4)
  have HW4 : Hid (w.heap.size ≤ w4.heap.size) := hid X4.out.below.size
  have HW0 : Hid (w.heap.size ≤ w4.heap.size) := HW4
  have HFC4 : Hid (FlCells w4 fb (fo + f * 8) ⟨fnm, fty, st, fdf, body⟩ (.slice ba body.args.length bc)) := hid ⟨cell_kept HFC.out.1 X4.out.below, cell_kept HFC.out.2.1 X4.out.below, cell_kept HFC.out.2.2.1 X4.out.below, cell_kept HFC.out.2.2.2.1 X4.out.below, cell_kept HFC.out.2.2.2.2.1 X4.out.below, cell_kept HFC.out.2.2.2.2.2.1 X4.out.below, cell_kept HFC.out.2.2.2.2.2.2.1 X4.out.below, cell_kept HFC.out.2.2.2.2.2.2.2 X4.out.below⟩
  have hlf4 := cell_kept HLC.out X4.out.below
  obtain ⟨v0, v1, v2, v3⟩ := row4 X4.out.row
  have hS6 : ∀ V : World, Below w4.heap.size w4 V → (V.cell? ⟨w.heap.size, 0, none⟩ = some (.int .i64 p.st) ∧ V.cell? ⟨w.heap.size, 1, none⟩ = some (.slice A0 p.ins.length A1) ∧ V.cell? ⟨w.heap.size, 2, none⟩ = some (.slice (some ⟨fb, fo, none⟩) p.flows.length B1) ∧ V.cell? ⟨w.heap.size, 3, none⟩ = some (.slice C0 p.outs.length C1)) ∧ V.cell? ⟨lb, lo + f, none⟩ = some (.int .i64 lf) := fun V hb => ⟨⟨cell_kept v0 hb, cell_kept v1 hb, cell_kept v2 hb, cell_kept v3 hb⟩, cell_kept hlf4 hb⟩
  clear hb4 t0 t1 t2 t3
  go_wp2_with (fail)
  refine wp_region_held_drew (S := fun V => (V.cell? ⟨w.heap.size, 0, none⟩ = some (.int .i64 p.st) ∧ V.cell? ⟨w.heap.size, 1, none⟩ = some (.slice A0 p.ins.length A1) ∧ V.cell? ⟨w.heap.size, 2, none⟩ = some (.slice (some ⟨fb, fo, none⟩) p.flows.length B1) ∧ V.cell? ⟨w.heap.size, 3, none⟩ = some (.slice C0 p.outs.length C1)) ∧ V.cell? ⟨lb, lo + f, none⟩ = some (.int .i64 lf)) (by kernel_rfl) ?_ (fun hHeld => ?_)
  · exact hS6 _ (Below.refl _ _).drew
  refine wpAnyH_take (i := 0) (oi := { dst := some 47, op := Go.Op.move (Go.Operand.tmp 1), type := 48, pos := _, after := #[], guard := none }) (v := ?_) rfl (by kernel_rfl) (by kernel_rfl) (by kernel_rfl) (fun _ _ _ h => h) (Or.inl ⟨by rfl, ?_⟩) (by assumption) ?_
  rotate_left
  · intro w hSw; (try dsimp only at hSw); go_simp <;> first | with_reducible rfl | (rw [if_neg (by first | omega | (simp only [ByteArray.size_append] at *; omega))])
  simp only [Act.put, List.setIfInBounds_toArray, List.set_cons_zero, List.set_cons_succ]
  refine wpAnyH_take (i := 1) (oi := { dst := some 48, op := Go.Op.move (Go.Operand.tmp 2), type := 3, pos := _, after := #[], guard := none }) (v := ?_) rfl (by kernel_rfl) (by kernel_rfl) (by kernel_rfl) (fun _ _ _ h => h) (Or.inl ⟨by rfl, ?_⟩) (by assumption) ?_
  rotate_left
  · intro w hSw; (try dsimp only at hSw); go_simp <;> first | with_reducible rfl | (rw [if_neg (by first | omega | (simp only [ByteArray.size_append] at *; omega))])
  simp only [Act.put, List.setIfInBounds_toArray, List.set_cons_zero, List.set_cons_succ]
  refine wpAnyH_take (i := 2) (oi := { dst := some 49, op := Go.Op.indexAddr 48 (Go.Operand.tmp 47) (Go.Operand.tmp 48), type := 0, pos := _, after := #[{ on := 0, ground := Go.Ground.data }, { on := 1, ground := Go.Ground.data }], guard := none }) (v := ?_) rfl (by kernel_rfl) (by kernel_rfl) (by kernel_rfl) (fun _ _ _ h => h) (Or.inl ⟨by rfl, ?_⟩) (by assumption) ?_
  rotate_left
  · intro w hSw; (try dsimp only at hSw); go_simp <;> first | with_reducible rfl | (rw [if_neg (by first | omega | (simp only [ByteArray.size_append] at *; omega))])
  simp only [Act.put, List.setIfInBounds_toArray, List.set_cons_zero, List.set_cons_succ]
  refine wpAnyH_take (i := 3) (oi := { dst := some 50, op := Go.Op.load 3 (Go.Operand.tmp 49), type := 3, pos := _, after := #[{ on := 2, ground := Go.Ground.data }], guard := none }) (v := ?_) rfl (by kernel_rfl) (by kernel_rfl) (by kernel_rfl) (fun _ _ _ h => h) (Or.inl ⟨by rfl, ?_⟩) (by assumption) ?_
  rotate_left
  · intro w hSw; (try dsimp only at hSw); go_simp <;> first | with_reducible rfl | (rw [if_neg (by first | omega | (simp only [ByteArray.size_append] at *; omega))])
  simp only [Act.put, List.setIfInBounds_toArray, List.set_cons_zero, List.set_cons_succ]
  refine wpAnyH_take (i := 4) (oi := { dst := some 51, op := Go.Op.load 46 (Go.Operand.tmp 4), type := 46, pos := _, after := #[], guard := none }) (v := ?_) rfl (by kernel_rfl) (by kernel_rfl) (by kernel_rfl) (fun _ _ _ h => h) (Or.inl ⟨by rfl, ?_⟩) (by assumption) ?_
  rotate_left
  · intro w hSw; (try dsimp only at hSw); go_simp <;> first | with_reducible rfl | (rw [if_neg (by first | omega | (simp only [ByteArray.size_append] at *; omega))])
  simp only [Act.put, List.setIfInBounds_toArray, List.set_cons_zero, List.set_cons_succ]
  refine wpAnyH_take (i := 5) (oi := { dst := some 52, op := Go.Op.move (Go.Operand.tmp 1), type := 48, pos := _, after := #[], guard := none }) (v := ?_) rfl (by kernel_rfl) (by kernel_rfl) (by kernel_rfl) (fun _ _ _ h => h) (Or.inl ⟨by rfl, ?_⟩) (by assumption) ?_
  rotate_left
  · intro w hSw; (try dsimp only at hSw); go_simp <;> first | with_reducible rfl | (rw [if_neg (by first | omega | (simp only [ByteArray.size_append] at *; omega))])
  simp only [Act.put, List.setIfInBounds_toArray, List.set_cons_zero, List.set_cons_succ]
  refine wpAnyH_take (i := 6) (oi := { dst := some 53, op := Go.Op.move (Go.Operand.tmp 10), type := 22, pos := _, after := #[], guard := none }) (v := ?_) rfl (by kernel_rfl) (by kernel_rfl) (by kernel_rfl) (fun _ _ _ h => h) (Or.inl ⟨by rfl, ?_⟩) (by assumption) ?_
  rotate_left
  · intro w hSw; (try dsimp only at hSw); go_simp <;> first | with_reducible rfl | (rw [if_neg (by first | omega | (simp only [ByteArray.size_append] at *; omega))])
  simp only [Act.put, List.setIfInBounds_toArray, List.set_cons_zero, List.set_cons_succ]
  refine wpAnyH_ready (rs := [7, 9]) (by kernel_rfl) (by simp) ?_
  refine AllReadyH.cons (o := { dst := some 54, op := Go.Op.call { callee := Go.Callee.value (Go.Operand.func 34), args := #[Go.Operand.tmp 51, Go.Operand.tmp 52, Go.Operand.tmp 53], argTypes := #[46, 48, 22] }, type := 88, pos := _, after := #[{ on := 4, ground := Go.Ground.data }, { on := 5, ground := Go.Ground.data }, { on := 6, ground := Go.Ground.data }], guard := none }) rfl (fun K hK => ?_) (AllReadyH.cons (o := { dst := some 12, op := Go.Op.alloc 91, type := 0, pos := _, after := #[], guard := none }) rfl (fun K hK => ?_) AllReadyH.nil)
  · go_simp
    refine (sources_ p l (placesL p l st) _ _ (w4.drew) _ _ _ (X4.out.keep ((Below.refl w4.heap.size w4).drew)).P (HI.out.keep (X4.out.keep ((Below.refl w4.heap.size w4).drew)).below) HFI.out (HRR4.out.keep ((Below.refl w4.heap.size w4).drew)) HNS.out HFS.out).mono ?_
    rintro e w6 ⟨rfl, ⟨nT, hmT⟩, hb6⟩
    rw [HTT.out] at hmT
    have hk6 := ((Below.refl w4.heap.size w4).drew).trans (hb6.mono ((Below.refl w4.heap.size w4).drew).size)
    have hmlt := hmT.lt
    have hs6 := hb6.size
    go_wp2_with fail
    refine hK.out _ _ ?_ (fun hHeld6 => ?_)
    · exact hS6 _ hk6
    clear hK K
    (try simp only [Act.put, List.setIfInBounds_toArray, List.set_cons_zero, List.set_cons_succ])
    refine wpAnyH_take (i := 8) (oi := { dst := some 55, op := Go.Op.build 91 #[(0, Go.Operand.tmp 50), (1, Go.Operand.tmp 54)], type := 91, pos := _, after := #[{ on := 3, ground := Go.Ground.data }, { on := 7, ground := Go.Ground.data }], guard := none }) (v := ?_) rfl (by kernel_rfl) (by kernel_rfl) (by kernel_rfl) (fun _ _ _ h => h) (Or.inl ⟨by rfl, ?_⟩) (by assumption) ?_
    rotate_left
    · intro w hSw; (try dsimp only at hSw); go_simp <;> first | with_reducible rfl | (rw [if_neg (by first | omega | (simp only [ByteArray.size_append] at *; omega))])
    (try simp only [Act.put, List.setIfInBounds_toArray, List.set_cons_zero, List.set_cons_succ])
    refine wpAnyH_ready (rs := [9]) (by kernel_rfl) (by simp) ?_
    refine AllReadyH.cons (o := { dst := some 12, op := Go.Op.alloc 91, type := 0, pos := _, after := #[], guard := none }) rfl (fun K hK => ?_) AllReadyH.nil
    go_simp
    have hk7 := hk6.trans (((Below.refl w6.heap.size w6).alloc (Nat.le_refl _) (.cells #[.int .i64 0, .map none, .slice none 0 0] 91)).mono hk6.size)
    refine hK.out _ _ ?_ (fun hHeld7 => ?_)
    · exact hS6 _ hk7
    clear hK K
    (try simp only [Act.put, List.setIfInBounds_toArray, List.set_cons_zero, List.set_cons_succ])
    refine wpAnyH_ready (rs := [10]) (by kernel_rfl) (by simp) ?_
    refine AllReadyH.cons (o := { dst := none, op := Go.Op.store 91 (Go.Operand.tmp 12) (Go.Operand.tmp 55), type := 0, pos := _, after := #[{ on := 9, ground := Go.Ground.data }, { on := 8, ground := Go.Ground.data }, { on := 7, ground := Go.Ground.chain }, { on := 0, ground := Go.Ground.phase }, { on := 1, ground := Go.Ground.phase }, { on := 2, ground := Go.Ground.phase }, { on := 3, ground := Go.Ground.phase }, { on := 4, ground := Go.Ground.phase }, { on := 5, ground := Go.Ground.phase }, { on := 6, ground := Go.Ground.phase }, { on := 7, ground := Go.Ground.phase }, { on := 8, ground := Go.Ground.phase }, { on := 9, ground := Go.Ground.phase }], guard := none }) rfl (fun K hK => ?_) AllReadyH.nil
    go_simp
    have hk8 := hk6.trans (((Below.refl w6.heap.size w6).alloc (Nat.le_refl _) (.cells #[.int .i64 lf, .map (some (w4.heap.size + 1)), .slice none 0 0] 91)).mono hk6.size)
    refine hK.out _ _ ?_ (fun hHeld8 => ?_)
    · exact hS6 _ hk8
    clear hK K
    refine wpAnyH_done (by kernel_rfl) ?_ _
    have hS0 : WrS ⟨w, w6.heap.size, w6.heap.size + 1, w4.heap.size + 1, nT, T, lf⟩ [] (.slice none 0 0) (w6.alloc (.cells #[.int .i64 lf, .map (some (w4.heap.size + 1)), .slice none 0 0] 91)) := ⟨heap_alloc_new _ _, ⟨rfl, .inl ⟨rfl, rfl⟩⟩, hmT.keep ((Below.refl _ _).alloc (Nat.le_refl _) _), X4.out.below.trans (hk8.mono X4.out.below.size), by dsimp only; have := HW4.out; have := hs6; simp at this ⊢; omega, Nat.lt_succ_self _, by dsimp only; simp at hmlt ⊢; omega, by dsimp only; simp at hmlt ⊢; omega, by dsimp only; simp⟩
    have HB7 := hid hk8
    have HS0 := hid hS0
    clear hS0
    clear hHeld6 hHeld7 hHeld8 hmT hk6 hk7 hk8 hb6
    obtain ⟨t0, t1, t2, t3⟩ := row4 (X4.out.keep HB7.out).row
    obtain ⟨m0, m1, m2, m3, m4, m5, m6, m7⟩ := HFC4.out
    have m4 := cell_kept m4 HB7.out
    have m5 := cell_kept m5 HB7.out
    have m6 := cell_kept m6 HB7.out
    have m7 := cell_kept m7 HB7.out
    clear m0 m1 m2 m3
    have cw := write_any ⟨w, w6.heap.size, w6.heap.size + 1, w4.heap.size + 1, nT, T, lf⟩ hlate6 HTB6.out 32 body HOK.out [] (.slice none 0 0) (.slice ba body.args.length bc) 0 _ HS0.out HSB.out (by omega) (by have := HWL.out; simp only [List.length_nil]; omega)
    have hff' : (f : Int) < (p.flows.length : Int) := by omega
    have hff0 : (0 : Int) ≤ (f : Int) := by omega
    rw [List.nil_append] at cw
    go_wp2_with (fail)
    refine cw.mono ?_
    rintro e w8 ⟨rfl, dv, hS8, _⟩
    have S8 := hid hS8
    clear hS8 cw
    obtain ⟨u0, u1, u2⟩ := S8.out.cells
    obtain ⟨da, dc, rfl⟩ : ∃ a c, dv = .slice a (wrF T lf body 0).length c := by
      rcases S8.out.row.2 with ⟨h, h0⟩ | ⟨gq, cap, cur, h, _⟩
      · exact ⟨none, 0, by rw [h]; show Value.slice none 0 0 = Value.slice none (wrF T lf body 0).length 0; rw [h0]⟩
      · exact ⟨_, _, h⟩
    have HFIN : Hid (OfE w (wrF T lf body 0) (.returned (.tuple #[.slice da (wrF T lf body 0).length dc, .int .i64 0])) w8) := hid ⟨_, rfl, ownsRow_mono S8.out.row (Nat.le_trans S8.out.l1 (Nat.le_of_lt S8.out.l2)), S8.out.below⟩
    dsimp only at u2
    generalize (wrF T lf body 0).length = nn at *
    go_wp2_with (fail)
    (try simp only [Exit.inBlock, Exit.then])
    refine bodyPost_ret (RT _ _ _) rfl ?_
    exact HFIN.out
  · go_simp
    have hk7 := (Below.refl w4.heap.size w4).drew.trans (((Below.refl w4.drew.heap.size w4.drew).alloc (Nat.le_refl _) (.cells #[.int .i64 0, .map none, .slice none 0 0] 91)))
    refine hK.out _ _ ?_ (fun hHeld7 => ?_)
    · exact hS6 _ hk7
    clear hK K
    (try simp only [Act.put, List.setIfInBounds_toArray, List.set_cons_zero, List.set_cons_succ])
    refine wpAnyH_ready (rs := [7]) (by kernel_rfl) (by simp) ?_
    refine AllReadyH.cons (o := { dst := some 54, op := Go.Op.call { callee := Go.Callee.value (Go.Operand.func 34), args := #[Go.Operand.tmp 51, Go.Operand.tmp 52, Go.Operand.tmp 53], argTypes := #[46, 48, 22] }, type := 88, pos := _, after := #[{ on := 4, ground := Go.Ground.data }, { on := 5, ground := Go.Ground.data }, { on := 6, ground := Go.Ground.data }], guard := none }) rfl (fun K hK => ?_) AllReadyH.nil
    go_simp
    refine (sources_ p l (placesL p l st) _ _ (w4.drew.alloc (.cells #[.int .i64 0, .map none, .slice none 0 0] 91)) _ _ _ (X4.out.keep (hk7)).P (HI.out.keep (X4.out.keep (hk7)).below) HFI.out (HRR4.out.keep (hk7)) HNS.out HFS.out).mono ?_
    rintro e w6 ⟨rfl, ⟨nT, hmT⟩, hb6⟩
    rw [HTT.out] at hmT
    have hk6 := (hk7).trans (hb6.mono (hk7).size)
    have hmlt := hmT.lt
    have hs6 := hb6.size
    go_wp2_with fail
    refine hK.out _ _ ?_ (fun hHeld6 => ?_)
    · exact hS6 _ hk6
    clear hK K
    (try simp only [Act.put, List.setIfInBounds_toArray, List.set_cons_zero, List.set_cons_succ])
    refine wpAnyH_take (i := 8) (oi := { dst := some 55, op := Go.Op.build 91 #[(0, Go.Operand.tmp 50), (1, Go.Operand.tmp 54)], type := 91, pos := _, after := #[{ on := 3, ground := Go.Ground.data }, { on := 7, ground := Go.Ground.data }], guard := none }) (v := ?_) rfl (by kernel_rfl) (by kernel_rfl) (by kernel_rfl) (fun _ _ _ h => h) (Or.inl ⟨by rfl, ?_⟩) (by assumption) ?_
    rotate_left
    · intro w hSw; (try dsimp only at hSw); go_simp <;> first | with_reducible rfl | (rw [if_neg (by first | omega | (simp only [ByteArray.size_append] at *; omega))])
    (try simp only [Act.put, List.setIfInBounds_toArray, List.set_cons_zero, List.set_cons_succ])
    have hwr : w6.heap[w4.heap.size]? = some (.cells #[.int .i64 0, .map none, .slice none 0 0] 91 (0, 0)) := (hb6.block _ (by simp)).trans (heap_alloc_new w4.drew _)
    refine wpAnyH_ready (rs := [10]) (by kernel_rfl) (by simp) ?_
    refine AllReadyH.cons (o := { dst := none, op := Go.Op.store 91 (Go.Operand.tmp 12) (Go.Operand.tmp 55), type := 0, pos := _, after := #[{ on := 9, ground := Go.Ground.data }, { on := 8, ground := Go.Ground.data }, { on := 7, ground := Go.Ground.chain }, { on := 0, ground := Go.Ground.phase }, { on := 1, ground := Go.Ground.phase }, { on := 2, ground := Go.Ground.phase }, { on := 3, ground := Go.Ground.phase }, { on := 4, ground := Go.Ground.phase }, { on := 5, ground := Go.Ground.phase }, { on := 6, ground := Go.Ground.phase }, { on := 7, ground := Go.Ground.phase }, { on := 8, ground := Go.Ground.phase }, { on := 9, ground := Go.Ground.phase }], guard := none }) rfl (fun K hK => ?_) AllReadyH.nil
    refine if_take (by rfl) ?_
    refine wp_store_row 91 (.tmp 12) (.tmp 55) rfl w4.heap.size #[.int .i64 lf, .map (some (w4.heap.size + 1 + 1)), .slice none 0 0] rfl rfl 91 _ hwr infoWr rfl (by simp [Value.oneCell']) ?_
    have hk8 := below_row hk6 hk6.size (Nat.le_refl _) #[.int .i64 lf, .map (some (w4.heap.size + 1 + 1)), .slice none 0 0]
    refine hK.out _ _ ?_ (fun hHeld8 => ?_)
    · exact hS6 _ hk8
    clear hK K
    refine wpAnyH_done (by kernel_rfl) ?_ _
    have hS0 : WrS ⟨w, w4.heap.size, w6.heap.size, w4.heap.size + 1 + 1, nT, T, lf⟩ [] (.slice none 0 0) (w6.setRow w4.heap.size #[.int .i64 lf, .map (some (w4.heap.size + 1 + 1)), .slice none 0 0]) := ⟨setRow_heap _ _ _ _ _ _ hwr, ⟨rfl, .inl ⟨rfl, rfl⟩⟩, (show TMap w6 (w4.heap.size + 1 + 1) nT T by simpa only [World.size_alloc, World.size_drew] using hmT).block (setRow_other w6 w4.heap.size (w4.heap.size + 1 + 1) _ (by omega)), X4.out.below.trans (hk8.mono X4.out.below.size), HW4.out, by have h := hs6; simp only [World.size_alloc, World.size_drew] at h; dsimp only; omega, by have h := hmlt; simp only [World.size_alloc, World.size_drew] at h; dsimp only; omega, by dsimp only; omega, by dsimp only; simp [World.setRow]⟩
    have HB7 := hid hk8
    have HS0 := hid hS0
    clear hS0
    clear hHeld6 hHeld7 hHeld8 hmT hk6 hk7 hk8 hb6 hwr
    obtain ⟨t0, t1, t2, t3⟩ := row4 (X4.out.keep HB7.out).row
    obtain ⟨m0, m1, m2, m3, m4, m5, m6, m7⟩ := HFC4.out
    have m4 := cell_kept m4 HB7.out
    have m5 := cell_kept m5 HB7.out
    have m6 := cell_kept m6 HB7.out
    have m7 := cell_kept m7 HB7.out
    clear m0 m1 m2 m3
    have cw := write_any ⟨w, w4.heap.size, w6.heap.size, w4.heap.size + 1 + 1, nT, T, lf⟩ hlate6 HTB6.out 32 body HOK.out [] (.slice none 0 0) (.slice ba body.args.length bc) 0 _ HS0.out HSB.out (by omega) (by have := HWL.out; simp only [List.length_nil]; omega)
    have hff' : (f : Int) < (p.flows.length : Int) := by omega
    have hff0 : (0 : Int) ≤ (f : Int) := by omega
    rw [List.nil_append] at cw
    go_wp2_with (fail)
    refine cw.mono ?_
    rintro e w8 ⟨rfl, dv, hS8, _⟩
    have S8 := hid hS8
    clear hS8 cw
    obtain ⟨u0, u1, u2⟩ := S8.out.cells
    obtain ⟨da, dc, rfl⟩ : ∃ a c, dv = .slice a (wrF T lf body 0).length c := by
      rcases S8.out.row.2 with ⟨h, h0⟩ | ⟨gq, cap, cur, h, _⟩
      · exact ⟨none, 0, by rw [h]; show Value.slice none 0 0 = Value.slice none (wrF T lf body 0).length 0; rw [h0]⟩
      · exact ⟨_, _, h⟩
    have HFIN : Hid (OfE w (wrF T lf body 0) (.returned (.tuple #[.slice da (wrF T lf body 0).length dc, .int .i64 0])) w8) := hid ⟨_, rfl, ownsRow_mono S8.out.row (Nat.le_trans S8.out.l1 (Nat.le_of_lt S8.out.l2)), S8.out.below⟩
    dsimp only at u2
    generalize (wrF T lf body 0).length = nn at *
    go_wp2_with (fail)
    (try simp only [Exit.inBlock, Exit.then])
    refine bodyPost_ret (RT _ _ _) rfl ?_
    exact HFIN.out
end Go.Proofs.YtdenddknbmiboaaDoor.Lex
namespace Go.Proofs.YtdenddknbmiboaaDoor.Lex
open Go.ChangeShapes Go.WideShapes Go.ChangeAt Go.RowKit Go.Joins
abbrev N0 : Value := .slice none 0 0
theorem st_leaf (W : World) (x : Ex) (ha : x.args = []) (ho : x.op < 256) (hn : -9223372036854775808 ≤ x.n ∧ x.n ≤ 9223372036854775807) (hs : x.name.size ≤ 140737488355328) : St W x N0 := by
  obtain ⟨op, n, nm, args⟩ := x
  subst ha
  exact St.intro ⟨op, n, nm, []⟩ none 0 (fun _ => N0) ho hn hs (by simp) (by simp) (.inl rfl) (fun i hi => absurd hi (Nat.not_lt_zero i))
theorem st1 (W : World) (op : Nat) (x : Ex) (s : Value) (ho : op < 256) (hx : St W x s) : St (W.alloc (.cells #[.int .u8 (x.op : Int), .int .i64 x.n, .string x.name, s] 70)) ⟨op, 0, ⟨#[]⟩, [x]⟩ (.slice (some ⟨W.heap.size, 0, none⟩) 1 1) := by
  have hb := (Below.refl W.heap.size W).alloc (Nat.le_refl _) (.cells #[.int .u8 (x.op : Int), .int .i64 x.n, .string x.name, s] 70)
  have hr := heap_alloc_new W (.cells #[.int .u8 (x.op : Int), .int .i64 x.n, .string x.name, s] 70)
  refine St.intro ⟨op, 0, ⟨#[]⟩, [x]⟩ _ 1 (fun _ => s) ho ⟨by show (-9223372036854775808 : Int) ≤ 0; omega, by show (0 : Int) ≤ _; omega⟩ (by show (0 : Nat) ≤ _; omega) (by simp) (by simp) (.inr ⟨W.heap.size, 0, rfl, fun i hi => ?_⟩) (fun i hi => ?_)
  · have hi1 : i < 1 := hi
    obtain rfl : i = 0 := by omega
    refine ⟨?_, ?_, ?_, ?_⟩ <;> (rw [cell_of_row _ _ _ _ 70 (0, 0) hr]; rfl)
  · have hi1 : i < 1 := hi
    obtain rfl : i = 0 := by omega
    exact hx.keep hb
theorem st2 (W : World) (op : Nat) (x y : Ex) (s t : Value) (ho : op < 256) (hx : St W x s) (hy : St W y t) : St (W.alloc (.cells #[.int .u8 (x.op : Int), .int .i64 x.n, .string x.name, s, .int .u8 (y.op : Int), .int .i64 y.n, .string y.name, t] 70)) ⟨op, 0, ⟨#[]⟩, [x, y]⟩ (.slice (some ⟨W.heap.size, 0, none⟩) 2 2) := by
  have hb := (Below.refl W.heap.size W).alloc (Nat.le_refl _) (.cells #[.int .u8 (x.op : Int), .int .i64 x.n, .string x.name, s, .int .u8 (y.op : Int), .int .i64 y.n, .string y.name, t] 70)
  have hr := heap_alloc_new W (.cells #[.int .u8 (x.op : Int), .int .i64 x.n, .string x.name, s, .int .u8 (y.op : Int), .int .i64 y.n, .string y.name, t] 70)
  refine St.intro ⟨op, 0, ⟨#[]⟩, [x, y]⟩ _ 2 (fun i => if i = 0 then s else t) ho ⟨by show (-9223372036854775808 : Int) ≤ 0; omega, by show (0 : Int) ≤ _; omega⟩ (by show (0 : Nat) ≤ _; omega) (by simp) (by simp) (.inr ⟨W.heap.size, 0, rfl, fun i hi => ?_⟩) (fun i hi => ?_)
  · have hi1 : i < 2 := hi
    rcases (by omega : i = 0 ∨ i = 1) with rfl | rfl <;> refine ⟨?_, ?_, ?_, ?_⟩ <;> (rw [cell_of_row _ _ _ _ 70 (0, 0) hr]; rfl)
  · have hi1 : i < 2 := hi
    rcases (by omega : i = 0 ∨ i = 1) with rfl | rfl
    · exact hx.keep hb
    · exact hy.keep hb
/-- A row of flows that stands in a block. -/
theorem flows_row {W : World} {b : Nat} (l : List (Fl × Value)) (h : W.heap[b]? = some (.cells (l.map fun q => flL q.1 q.2).flatten.toArray 76 (0, 0))) (hok : ∀ q ∈ l, q.1.ok) (hS : ∀ q ∈ l, St W q.1.body q.2) (hl : l.length ≤ 1000000) :
    FlowsAt W (l.map (·.1)) (.slice (some ⟨b, 0, none⟩) l.length l.length) := by
  refine ⟨_, l.length, fun i => ((l[i]?).map (·.2)).getD N0, by rw [List.length_map], by rw [List.length_map]; omega, by rw [List.length_map]; omega, ?_, .inr ⟨b, 0, rfl, fun i hi => ?_⟩, fun i hi => ?_⟩
  · intro x hx
    obtain ⟨q, hq, rfl⟩ := List.mem_map.1 hx
    exact hok q hq
  · have hi' : i < l.length := by simpa using hi
    have q : ∀ j, j < 8 → W.cell? ⟨b, 0 + i * 8 + j, none⟩ = (flL l[i].1 l[i].2)[j]? := fun j hj => by
      rw [cell_of_row _ _ _ _ 76 (0, 0) h]
      have := flat_at (c := 8) (es := l.map fun q => flL q.1 q.2) (i := i) (e := flL l[i].1 l[i].2) (j := j) (rest := []) (fun e he => by obtain ⟨q, _, rfl⟩ := List.mem_map.1 he; rfl) (by simp [hi']) hj
      rw [List.append_nil] at this
      rw [Nat.zero_add, List.getElem?_toArray]
      exact this
    have e : ((l[i]?).map (·.2)).getD N0 = l[i].2 := by simp [hi']
    have e2 : (l.map (·.1))[i] = l[i].1 := by simp
    rw [e2]
    simp only [e]
    exact ⟨q 0 (by omega), q 1 (by omega), q 2 (by omega), q 3 (by omega), q 4 (by omega), q 5 (by omega), q 6 (by omega), q 7 (by omega)⟩
  · have hi' : i < l.length := by simpa using hi
    have e : ((l[i]?).map (·.2)).getD N0 = l[i].2 := by simp [hi']
    have e2 : (l.map (·.1))[i] = l[i].1 := by simp
    rw [e2]
    simp only [e]
    exact hS _ (List.getElem_mem hi')
/-- One thing from without, in a block. -/
theorem ins_one {W : World} {b : Nat} (x : Hd) (h : W.heap[b]? = some (.cells #[.string x.name, .int .u8 (x.ty : Int), .int .i64 x.st] 73 (0, 0))) (hok : x.ok) : InsAt W [x] (.slice (some ⟨b, 0, none⟩) 1 1) := by
  refine ⟨some ⟨b, 0, none⟩, 1, rfl, by simp, by simp, ?_, .inr ⟨b, 0, rfl, fun i hi => ?_⟩⟩
  · intro z hz
    obtain rfl := List.mem_singleton.1 hz
    exact hok
  · have hi2 : i < 1 := hi
    obtain rfl : i = 0 := by omega
    refine ⟨?_, ?_, ?_⟩ <;> (rw [cell_of_row _ _ _ _ 73 (0, 0) h]; rfl)
theorem ins_none (W : World) : InsAt W [] N0 := ⟨none, 0, rfl, by simp, by simp, fun x hx => (by cases hx), .inl rfl⟩
theorem texts_none (W : World) : TextsAt W [] N0 := ⟨none, 0, rfl, by simp, by simp, fun x hx => (by cases hx), .inl rfl⟩
theorem flows_none (W : World) : FlowsAt W [] N0 := ⟨none, 0, fun _ => N0, rfl, by simp, by simp, fun x hx => (by cases hx), .inl rfl, fun i hi => absurd hi (Nat.not_lt_zero i)⟩
theorem texts_one {W : World} {b : Nat} (x : ByteArray) (h : W.heap[b]? = some (.cells #[.string x] 9 (0, 0))) (hok : x.size ≤ 140737488355328) : TextsAt W [x] (.slice (some ⟨b, 0, none⟩) 1 1) := by
  refine ⟨some ⟨b, 0, none⟩, 1, rfl, by simp, by simp, ?_, .inr ⟨b, 0, rfl, fun i hi => ?_⟩⟩
  · intro z hz
    obtain rfl := List.mem_singleton.1 hz
    exact hok
  · have hi2 : i < 1 := hi
    obtain rfl : i = 0 := by omega
    rw [cell_of_row _ _ _ _ 9 (0, 0) h]; rfl
abbrev c53 : Array Value := #[.int .u8 0, .int .i64 0, .string ⟨#[]⟩, .slice none 0 0]
theorem info53 : (Tryd.prog.info? 70).map (·.size) = some 4 := by kernel_rfl
theorem name_at (s : ByteArray) (w : World) : Calls Tryd.prog 24 #[.string s] w fun e w' => e = .returned (exV ⟨3, 0, s, []⟩ (.slice none 0 0)) ∧ Below w.heap.size w w' := by
  have B0 := hid ((Below.refl w.heap.size w).alloc (Nat.le_refl _) (.cells c53 70))
  have X0 := heap_alloc_new w (.cells c53 70)
  go_enter Tryd.func24, Tryd.ntmps24
  go_wp2_with (refine wpList_store_row rfl 70 _ _ rfl w.heap.size #[.int .u8 3, .int .i64 0, .string s, .slice none 0 0] rfl rfl 70 _ X0 info53 rfl (by simp [Value.oneCell']) ?_)
  exact bodyPost_ret (results_cell_row rfl _ _ w.heap.size 70 #[.int .u8 3, .int .i64 0, .string s, .slice none 0 0] (0, 0) _ rfl (setRow_heap _ _ _ _ _ _ X0) Tryd.underlying70 rfl info53) rfl ⟨rfl, below_row B0.out B0.out.size (Nat.le_refl _) _⟩
/-- It holds, whatever becomes of some blocks. -/
def AtOn (B : Bl) (F : World → Prop) (W : World) : Prop := ∀ W', Buts B W W' → F W'
theorem AtOn.now {B : Bl} {F : World → Prop} {W : World} (h : AtOn B F W) : F W := h W (Buts.refl _ _)
theorem AtOn.step {B : Bl} {F : World → Prop} {W V : World} (h : AtOn B F W) (hb : Buts B W V) : AtOn B F V := fun W' hw => h W' (hb.trans hw)
theorem AtOn.grow {B C : Bl} {F : World → Prop} {W V : World} (h : AtOn B F W) (hb : Below W.heap.size W V) (hC : ∀ k, k < W.heap.size → C k → B k) : AtOn C F V := fun W' hw =>
  h W' ⟨hw.os.trans hb.os, hw.tape.trans hb.tape, hw.output.trans hb.output, Nat.le_trans hb.size hw.size, fun k hk hn => (hw.same k (Nat.lt_of_lt_of_le hk hb.size) (fun hc => hn (hC k hk hc))).trans (hb.block k hk)⟩
theorem AtOn.mono {B : Bl} {F G : World → Prop} {W : World} (h : AtOn B F W) (hf : ∀ V, F V → G V) : AtOn B G W := fun W' hw => hf _ (h W' hw)
theorem AtOn.all {B : Bl} {F : World → Prop} {W : World} (h : ∀ V, F V) : AtOn B F W := fun _ _ => h _
/-- What all that lay keeps, blocks that are new do not touch. -/
theorem AtOn.old {B : Bl} {F : World → Prop} {W : World} (hk : ∀ V, Below W.heap.size W V → F V) (hB : ∀ k, B k → W.heap.size ≤ k) : AtOn B F W := fun W' hw =>
  hk _ ⟨hw.os, hw.tape, hw.output, hw.size, fun k hlt => hw.same k hlt (fun hb => by have := hB k hb; omega)⟩
theorem AtOn.row {B : Bl} {W : World} {b : Nat} {o : Obj} (h : W.heap[b]? = some o) (hb : ¬ B b) : AtOn B (fun V => V.heap[b]? = some o) W := fun _ hw => hw.row h hb
abbrev StOn (B : Bl) (W : World) (x : Ex) (s : Value) : Prop := AtOn B (fun V => St V x s) W
theorem st_row1 {W : World} {g : Nat} (op : Nat) (x : Ex) (s : Value) (ho : op < 256) (hr : W.heap[g]? = some (.cells #[.int .u8 (x.op : Int), .int .i64 x.n, .string x.name, s] 70 (0, 0))) (hx : St W x s) : St W ⟨op, 0, ⟨#[]⟩, [x]⟩ (.slice (some ⟨g, 0, none⟩) 1 1) := by
  refine St.intro ⟨op, 0, ⟨#[]⟩, [x]⟩ _ 1 (fun _ => s) ho ⟨by show (-9223372036854775808 : Int) ≤ 0; omega, by show (0 : Int) ≤ _; omega⟩ (by show (0 : Nat) ≤ _; omega) (by simp) (by simp) (.inr ⟨g, 0, rfl, fun i hi => ?_⟩) (fun i hi => ?_)
  · have hi1 : i < 1 := hi
    obtain rfl : i = 0 := by omega
    refine ⟨?_, ?_, ?_, ?_⟩ <;> (rw [cell_of_row _ _ _ _ 70 (0, 0) hr]; rfl)
  · have hi1 : i < 1 := hi
    obtain rfl : i = 0 := by omega
    exact hx
theorem st_row2 {W : World} {g : Nat} (op : Nat) (x y : Ex) (s t : Value) (ho : op < 256) (hr : W.heap[g]? = some (.cells #[.int .u8 (x.op : Int), .int .i64 x.n, .string x.name, s, .int .u8 (y.op : Int), .int .i64 y.n, .string y.name, t] 70 (0, 0))) (hx : St W x s) (hy : St W y t) : St W ⟨op, 0, ⟨#[]⟩, [x, y]⟩ (.slice (some ⟨g, 0, none⟩) 2 2) := by
  refine St.intro ⟨op, 0, ⟨#[]⟩, [x, y]⟩ _ 2 (fun i => if i = 0 then s else t) ho ⟨by show (-9223372036854775808 : Int) ≤ 0; omega, by show (0 : Int) ≤ _; omega⟩ (by show (0 : Nat) ≤ _; omega) (by simp) (by simp) (.inr ⟨g, 0, rfl, fun i hi => ?_⟩) (fun i hi => ?_)
  · have hi1 : i < 2 := hi
    rcases (by omega : i = 0 ∨ i = 1) with rfl | rfl <;> refine ⟨?_, ?_, ?_, ?_⟩ <;> (rw [cell_of_row _ _ _ _ 70 (0, 0) hr]; rfl)
  · have hi1 : i < 2 := hi
    rcases (by omega : i = 0 ∨ i = 1) with rfl | rfl
    · exact hx
    · exact hy
abbrev twE (o : Nat) (x y : Ex) : Ex := ⟨o, 0, ⟨#[]⟩, [x, y]⟩
set_option maxRecDepth 100000 in
set_option maxHeartbeats 1000000 in
theorem two_at (B : Bl) (o : Nat) (ho : o < 256) (x y : Ex) (s t : Value) (w : World) (hx : StOn B w x s) (hy : StOn B w y t) (hB : ∀ k, B k → k < w.heap.size) : Calls Tryd.prog 25 #[.int .u8 (o : Int), exV x s, exV y t] w fun e w' => ∃ u, e = .returned (exV (twE o x y) u) ∧ StOn B w' (twE o x y) u ∧ Below w.heap.size w w' := by
  obtain ⟨ao, cp, _, rfl, _⟩ := hx.now.out
  obtain ⟨bo, dp, _, rfl, _⟩ := hy.now.out
  have HX := hid hx
  have HY := hid hy
  clear hx hy
  obtain ⟨w3, hw3⟩ : ∃ w3, w3 = ((w.alloc (.cells #[.int .u8 (x.op : Int), .int .i64 x.n, .string x.name, .slice ao x.args.length cp] 70)).alloc (.cells #[.int .u8 (y.op : Int), .int .i64 y.n, .string y.name, .slice bo y.args.length dp] 70)).alloc (.cells c53 70) := ⟨_, rfl⟩
  have r0 : w3.heap[w.heap.size]? = some (.cells #[.int .u8 (x.op : Int), .int .i64 x.n, .string x.name, .slice ao x.args.length cp] 70 (0, 0)) := by rw [hw3, Below.heap_alloc _ _ _ (by simp; omega), Below.heap_alloc _ _ _ (by simp)]; exact heap_alloc_new w _
  have r1 : w3.heap[w.heap.size + 1]? = some (.cells #[.int .u8 (y.op : Int), .int .i64 y.n, .string y.name, .slice bo y.args.length dp] 70 (0, 0)) := by
    rw [hw3, Below.heap_alloc _ _ _ (by simp)]
    have := heap_alloc_new (w.alloc (.cells #[.int .u8 (x.op : Int), .int .i64 x.n, .string x.name, .slice ao x.args.length cp] 70)) (.cells #[.int .u8 (y.op : Int), .int .i64 y.n, .string y.name, .slice bo y.args.length dp] 70)
    rwa [World.size_alloc] at this
  have x0 : w3.cell? ⟨w.heap.size, 0, none⟩ = some (.int .u8 (x.op : Int)) := by rw [cell_of_row _ _ _ _ 70 (0, 0) r0]; rfl
  have x1 : w3.cell? ⟨w.heap.size, 1, none⟩ = some (.int .i64 x.n) := by rw [cell_of_row _ _ _ _ 70 (0, 0) r0]; rfl
  have x2 : w3.cell? ⟨w.heap.size, 2, none⟩ = some (.string x.name) := by rw [cell_of_row _ _ _ _ 70 (0, 0) r0]; rfl
  have x3 : w3.cell? ⟨w.heap.size, 3, none⟩ = some (.slice ao x.args.length cp) := by rw [cell_of_row _ _ _ _ 70 (0, 0) r0]; rfl
  have y0 : w3.cell? ⟨w.heap.size + 1, 0, none⟩ = some (.int .u8 (y.op : Int)) := by rw [cell_of_row _ _ _ _ 70 (0, 0) r1]; rfl
  have y1 : w3.cell? ⟨w.heap.size + 1, 1, none⟩ = some (.int .i64 y.n) := by rw [cell_of_row _ _ _ _ 70 (0, 0) r1]; rfl
  have y2 : w3.cell? ⟨w.heap.size + 1, 2, none⟩ = some (.string y.name) := by rw [cell_of_row _ _ _ _ 70 (0, 0) r1]; rfl
  have y3 : w3.cell? ⟨w.heap.size + 1, 3, none⟩ = some (.slice bo y.args.length dp) := by rw [cell_of_row _ _ _ _ 70 (0, 0) r1]; rfl
  rw [hw3] at x0 x1 x2 x3 y0 y1 y2 y3
  clear r0 r1 hw3
  have HBK := hid hB
  clear hB
  go_enter Tryd.func25, Tryd.ntmps25
  go_wp2
  obtain ⟨V, hV⟩ : ∃ V, V = ((w.alloc (.cells #[.int .u8 (x.op : Int), .int .i64 x.n, .string x.name, .slice ao x.args.length cp] 70)).alloc (.cells #[.int .u8 (y.op : Int), .int .i64 y.n, .string y.name, .slice bo y.args.length dp] 70)).alloc (.cells #[.int .u8 (o : Int), .int .i64 0, .string ⟨#[]⟩, .slice (some ⟨w.heap.size + 1 + 1 + 1, 0, none⟩) 2 2] 70) := ⟨_, rfl⟩
  have bb : Below w.heap.size w V := by rw [hV]; exact (((Below.refl w.heap.size w).alloc (Nat.le_refl _) _).alloc (by simp) _).alloc (by simp; omega) _
  have hsz : V.heap.size = w.heap.size + 1 + 1 + 1 := by rw [hV]; simp
  have hrw := heap_alloc_new V (.cells #[.int .u8 (x.op : Int), .int .i64 x.n, .string x.name, .slice ao x.args.length cp, .int .u8 (y.op : Int), .int .i64 y.n, .string y.name, .slice bo y.args.length dp] 70)
  have bb2 := bb.alloc bb.size (.cells #[.int .u8 (x.op : Int), .int .i64 x.n, .string x.name, .slice ao x.args.length cp, .int .u8 (y.op : Int), .int .i64 y.n, .string y.name, .slice bo y.args.length dp] 70)
  rw [← hV]
  refine bodyPost_ret (v := exV (twE o x y) (.slice (some ⟨w.heap.size + 1 + 1 + 1, 0, none⟩) 2 2)) ?_ rfl ⟨_, rfl, ?_, bb2⟩
  · rw [hV]; simp [results, Tryd.f25, go_sem]
  · rw [hsz] at hrw
    intro W' hw'
    exact st_row2 o x y _ _ ho (hw'.row hrw (fun hb => by have := HBK.out _ hb; omega)) ((HX.out.grow bb2 (fun _ _ h => h)) W' hw') ((HY.out.grow bb2 (fun _ _ h => h)) W' hw')
abbrev exZ : Ex := ⟨1, 0, ⟨#[]⟩, []⟩
abbrev preE (x : Ex) : Ex := ⟨19, 0, ⟨#[]⟩, [x]⟩
theorem stZ (B : Bl) (W : World) : StOn B W exZ N0 := AtOn.all (fun V => st_leaf V exZ rfl (by decide) (by decide) (by show (0 : Nat) ≤ _; omega))
theorem stN (B : Bl) (W : World) (s : ByteArray) (hs : s.size ≤ 140737488355328) : StOn B W ⟨3, 0, s, []⟩ N0 := AtOn.all (fun V => st_leaf V ⟨3, 0, s, []⟩ rfl (by show (3 : Nat) < _; omega) ⟨by show (-9223372036854775808 : Int) ≤ 0; omega, by show (0 : Int) ≤ _; omega⟩ hs)
end Go.Proofs.YtdenddknbmiboaaDoor.Lex
namespace Go.Proofs.YtdenddknbmiboaaDoor.Rbs
open Go.ChangeShapes Go.WideShapes Go.ChangeAt Go.RowKit Go.Joins
def slotOf (ops : Array Oper) (j : Nat) : Option Nat := (ops[j]?).bind (·.dst)
def dstIn (ops : Array Oper) (t : Nat) : Bool := (List.range ops.size).any fun j => slotOf ops j == some t
/-- The slots that an operation waits for. -/
def slots (ops : Array Oper) (o : Oper) : List Nat := (o.after.toList.filter (Region.binds .any)).filterMap fun e => slotOf ops e.on
def acyc (ops : Array Oper) : Bool := (List.range ops.size).all fun i => match ops[i]? with | some o => o.after.toList.all (fun e => !Region.binds .any e || decide (e.on < i)) | none => true
def lone (ops : Array Oper) : Bool := (List.range ops.size).all fun i => (List.range ops.size).all fun j => decide (i = j) || (slotOf ops i).isNone || !(slotOf ops i == slotOf ops j)
def inside (ops : Array Oper) (n : Nat) : Bool := (List.range ops.size).all fun i => match slotOf ops i with | some d => decide (d < n) | none => true
/-- One operation, met once. -/
def Step (P : Program) (Q : Exit → Act → World → Prop) (J G : World → Prop) (R : World → World → Prop) (E : Nat → Value → World → Prop) (ops : Array Oper) (a0 : Act) (o : Oper) : Prop :=
  ∀ (a : Act) (w : World) (yl : Nat → Option Bool) (K : Act → World → Prop),
    (∀ t, dstIn ops t = false → a.tmps[t]? = a0.tmps[t]?) →
    (∀ d, (slots ops o).contains d = true → ∃ v, a.tmps[d]? = some v ∧ E d v w) →
    (∀ j d, slotOf ops j = some d → ∀ b, a.tmps[d]? = some (.bool b) → yl j = some b) →
    J w → Hid (∀ v w', (∀ d, o.dst = some d → E d v w') → J w' → (Below w.heap.size w w' ∧ o.dst.isSome = true ∨ R w w' ∧ o.dst = none ∧ G w') → K (a.put o.dst v) w') →
    if Region.wanted o yl = true then Oper.wp P o a w K Q else K (a.put o.dst undef) w
def AllL (p : Oper → Prop) : List Oper → Prop
  | [] => True
  | o :: l => p o ∧ AllL p l
theorem AllL.nil {p : Oper → Prop} : AllL p [] := trivial
theorem AllL.cons {p : Oper → Prop} {o : Oper} {l : List Oper} (h : p o) (h' : AllL p l) : AllL p (o :: l) := ⟨h, h'⟩
theorem AllL.mem {p : Oper → Prop} (l : List Oper) : AllL p l → ∀ o, o ∈ l → p o := by
  induction l with
  | nil => intro _ o hm; exact absurd hm List.not_mem_nil
  | cons x l ih =>
    intro h o hm
    rcases List.mem_cons.1 hm with e | hm
    · rw [e]; exact h.1
    · exact ih h.2 o hm
structure Inv (J G : World → Prop) (E : Nat → Value → World → Prop) (ops : Array Oper) (a0 : Act) (listed : Array Bool) (a : Act) (w : World) : Prop where
  defers : a.defers = a0.defers
  size : a.tmps.size = a0.tmps.size
  fixed : ∀ t, dstIn ops t = false → a.tmps[t]? = a0.tmps[t]?
  held : ∀ j d, slotOf ops j = some d → listed.getD j false = true → ∃ v, a.tmps[d]? = some v ∧ E d v w
  done : ∀ (j : Nat) (o : Oper), ops[j]? = some o → o.dst = none → listed.getD j false = true → G w
  J : J w
theorem dstIn_of {ops : Array Oper} {j t : Nat} (h : slotOf ops j = some t) : dstIn ops t = true := by
  unfold dstIn
  rw [List.any_eq_true]
  refine ⟨j, ?_, by rw [h]; simp⟩
  rw [List.mem_range]
  unfold slotOf at h
  by_cases hj : j < ops.size
  · exact hj
  · rw [Array.getElem?_eq_none (by omega)] at h; simp at h
theorem lt_of_slot {ops : Array Oper} {j t : Nat} (h : slotOf ops j = some t) : j < ops.size := by
  unfold slotOf at h
  by_cases hj : j < ops.size
  · exact hj
  · rw [Array.getElem?_eq_none (by omega)] at h; simp at h
theorem lone_ne {ops : Array Oper} (h : lone ops = true) {i j d : Nat} (hi : slotOf ops i = some d) (hj : slotOf ops j = some d) : i = j := by
  unfold lone at h
  rw [List.all_eq_true] at h
  have h1 := h i (List.mem_range.2 (lt_of_slot hi))
  rw [List.all_eq_true] at h1
  have h2 := h1 j (List.mem_range.2 (lt_of_slot hj))
  rw [hi, hj] at h2
  simpa using h2
/-- How many have not come up. -/
def left (listed : Array Bool) (n : Nat) : Nat := ((List.range n).filter fun i => !listed.getD i true).length
theorem left_set {listed : Array Bool} {n i : Nat} (hi : i < n) (hl : listed.getD i true = false) : left (listed.setIfInBounds i true) n + 1 ≤ left listed n := by
  unfold left
  have hsz : i < listed.size := by
    by_cases h : i < listed.size
    · exact h
    · simp [Array.getElem?_eq_none (Nat.le_of_not_lt h)] at hl
  have key : ∀ l : List Nat, l.Nodup → i ∈ l → (l.filter fun k => !(listed.setIfInBounds i true).getD k true).length + 1 ≤ (l.filter fun k => !listed.getD k true).length := by
    intro l
    induction l with
    | nil => intro _ h; cases h
    | cons x l ih =>
      intro hn hm
      have hx := (List.nodup_cons.1 hn).1
      have hl2 := (List.nodup_cons.1 hn).2
      by_cases hxi : x = i
      · subst hxi
        have e1 : (listed.setIfInBounds x true).getD x true = true := by simp [hsz]
        have e2 : (l.filter fun k => !(listed.setIfInBounds x true).getD k true) = l.filter fun k => !listed.getD k true := by
          apply List.filter_congr
          intro k hk
          rw [getD_set_ne true (fun h => hx (by rw [h]; exact hk))]
        rw [List.filter_cons, List.filter_cons, e1, hl, e2]
        simp
      · have hm2 : i ∈ l := (List.mem_cons.1 hm).resolve_left (fun h => hxi h.symm)
        have := ih hl2 hm2
        rw [List.filter_cons, List.filter_cons, getD_set_ne true (fun h => hxi h.symm)]
        split
        · simp only [List.length_cons]; omega
        · exact this
  exact key _ List.nodup_range (List.mem_range.2 hi)
theorem one_listed {ops : Array Oper} (hac : acyc ops = true) {listed : Array Bool} (hsz : listed.size = ops.size) (hr : Region.ready .any ops listed = []) (i : Nat) (h : ∀ j, j < i → j < ops.size → listed.getD j false = true) (hlt : i < ops.size) : listed.getD i false = true := by
  by_cases hl : listed.getD i false = true
  · exact hl
  · exfalso
    have hm : i ∈ Region.ready .any ops listed := by
      rw [mem_ready]
      refine ⟨?_, ops[i], Array.getElem?_eq_getElem hlt, fun e he hb => ?_⟩
      · have : i < listed.size := by omega
        simp [this] at hl ⊢
        exact hl
      · unfold acyc at hac
        rw [List.all_eq_true] at hac
        have h1 := hac i (List.mem_range.2 hlt)
        rw [Array.getElem?_eq_getElem hlt] at h1
        simp only [List.all_eq_true] at h1
        have h2 := h1 e (by simpa using he)
        rw [hb] at h2
        simp at h2
        exact h e.on h2 (by omega)
    rw [hr] at hm
    cases hm
theorem all_listed {ops : Array Oper} (hac : acyc ops = true) {listed : Array Bool} (hsz : listed.size = ops.size) (hr : Region.ready .any ops listed = []) : ∀ k i, i ≤ k → i < ops.size → listed.getD i false = true := by
  intro k
  induction k with
  | zero => exact fun i hi hlt => one_listed hac hsz hr i (fun j hj _ => absurd hj (by omega)) hlt
  | succ k ih => exact fun i hi hlt => one_listed hac hsz hr i (fun j hj h => ih j (by omega) h) hlt
theorem put_tmps (a : Act) (d : Nat) (v : Value) : (a.put (some d) v).tmps = a.tmps.setIfInBounds d v := rfl
section
variable {P : Program} {Q : Exit → Act → World → Prop} {J G : World → Prop} {R : World → World → Prop} {E : Nat → Value → World → Prop} {ops : Array Oper} {a0 : Act}
theorem Inv.put (hlo : lone ops = true) (hin : inside ops a0.tmps.size = true) (stable : ∀ d v w w', Below w.heap.size w w' ∨ R w w' → E d v w → E d v w') (stableG : ∀ w w', Below w.heap.size w w' → G w → G w') {listed : Array Bool} {a : Act} {w : World} (h : Inv J G E ops a0 listed a w) {i : Nat} {o : Oper} (ho : ops[i]? = some o) {v : Value} {w' : World}
    (hv : ∀ d, o.dst = some d → E d v w') (hJ : J w') (hb : Below w.heap.size w w' ∧ o.dst.isSome = true ∨ R w w' ∧ o.dst = none ∧ G w') : Inv J G E ops a0 (listed.setIfInBounds i true) (a.put o.dst v) w' := by
  have hs : slotOf ops i = o.dst := by unfold slotOf; rw [ho]; rfl
  have hb' : Below w.heap.size w w' ∨ R w w' := hb.imp And.left And.left
  have hdone : ∀ (j : Nat) (o' : Oper), ops[j]? = some o' → o'.dst = none → (listed.setIfInBounds i true).getD j false = true → G w' := fun j o' ho' hd' hl => by
    rcases hb with hb | hb
    · by_cases hij : i = j
      · subst hij
        rw [ho] at ho'
        obtain rfl := Option.some.inj ho'
        have := hb.2
        rw [hd'] at this
        cases this
      · rw [getD_set_ne false hij] at hl
        exact stableG _ _ hb.1 (h.done j o' ho' hd' hl)
    · exact hb.2.2
  cases hd : o.dst with
  | none =>
    refine ⟨h.defers, h.size, h.fixed, fun j d hj hl => ?_, hdone, hJ⟩
    by_cases hij : i = j
    · subst hij; rw [hs, hd] at hj; cases hj
    · rw [getD_set_ne false hij] at hl
      obtain ⟨u, h1, h2⟩ := h.held j d hj hl
      exact ⟨u, h1, stable _ _ _ _ hb' h2⟩
  | some t =>
    rw [hd] at hs hv
    have htlt : t < a.tmps.size := by
      rw [h.size]
      unfold inside at hin
      rw [List.all_eq_true] at hin
      have := hin i (List.mem_range.2 (lt_of_slot hs))
      rw [hs] at this
      simpa using this
    refine ⟨h.defers, ?_, fun u hu => ?_, fun j d hj hl => ?_, hdone, hJ⟩
    · rw [put_tmps, Array.size_setIfInBounds]; exact h.size
    · have hne : t ≠ u := fun e => by
        have := dstIn_of hs
        rw [e, hu] at this
        cases this
      rw [put_tmps, Array.getElem?_setIfInBounds_ne hne]
      exact h.fixed u hu
    · by_cases hij : i = j
      · subst hij
        obtain rfl : t = d := Option.some.inj (hs.symm.trans hj)
        exact ⟨v, by rw [put_tmps]; simp [htlt], hv t rfl⟩
      · rw [getD_set_ne false hij] at hl
        obtain ⟨u, h1, h2⟩ := h.held j d hj hl
        have hne : t ≠ d := fun e => hij (lone_ne hlo hs (e ▸ hj))
        exact ⟨u, by rw [put_tmps, Array.getElem?_setIfInBounds_ne hne]; exact h1, stable _ _ _ _ hb' h2⟩
theorem inv_any (hac : acyc ops = true) (hlo : lone ops = true) (hin : inside ops a0.tmps.size = true) (stable : ∀ d v w w', Below w.heap.size w w' ∨ R w w' → E d v w → E d v w') (stableG : ∀ w w', Below w.heap.size w w' → G w → G w')
    (step : AllL (Step P Q J G R E ops a0) ops.toList) (fin : ∀ a w, a.defers = a0.defers → a.tmps.size = a0.tmps.size → (∀ t, dstIn ops t = false → a.tmps[t]? = a0.tmps[t]?) → (∀ d, dstIn ops d = true → ∃ v, a.tmps[d]? = some v ∧ E d v w) → (∀ (j : Nat) (o : Oper), ops[j]? = some o → o.dst = none → G w) → J w → Q .normal a w) :
    ∀ (fuel : Nat) (listed : Array Bool) (a : Act) (w : World), listed.size = ops.size → left listed ops.size ≤ fuel → Inv J G E ops a0 listed a w → wpAny P .any ops Q fuel listed a w := by
  have done : ∀ (listed : Array Bool) (a : Act) (w : World), listed.size = ops.size → Inv J G E ops a0 listed a w → Region.ready .any ops listed = [] → Q .normal a w := by
    intro listed a w hsz h hr
    refine fin a w h.defers h.size h.fixed (fun d hd => ?_) (fun j o ho hd => h.done j o ho hd (all_listed hac hsz hr j j (Nat.le_refl _) (Array.getElem?_eq_some_iff.1 ho).1)) h.J
    unfold dstIn at hd
    rw [List.any_eq_true] at hd
    obtain ⟨j, hj, he⟩ := hd
    exact h.held j d (by simpa using he) (all_listed hac hsz hr j j (Nat.le_refl _) (List.mem_range.1 hj))
  intro fuel
  induction fuel with
  | zero =>
    intro listed a w hsz hl h
    have hr : Region.ready .any ops listed = [] := by
      rcases he : Region.ready .any ops listed with _ | ⟨i, r⟩
      · rfl
      · have hm : i ∈ Region.ready .any ops listed := by rw [he]; exact List.mem_cons_self
        obtain ⟨h1, o, ho, _⟩ := mem_ready.1 hm
        have := left_set (n := ops.size) (Array.getElem?_eq_some_iff.1 ho).1 h1
        omega
    exact ⟨hr, done listed a w hsz h hr⟩
  | succ fuel ih =>
    intro listed a w hsz hl h
    refine ⟨done listed a w hsz h, fun i hi => ?_⟩
    obtain ⟨h1, o, ho, hall⟩ := mem_ready.1 hi
    have hlt := (Array.getElem?_eq_some_iff.1 ho).1
    have st := AllL.mem _ step o (by have := (Array.getElem?_eq_some_iff.1 ho).2; rw [← this]; simp)
    refine wpOp_step ho fun K' hK' => st a w (yielded ops a.tmps) K' h.fixed (fun d hd => ?_) (fun j d hj b hb => ?_) h.J ?_
    · unfold slots at hd
      rw [List.contains_iff_mem, List.mem_filterMap] at hd
      obtain ⟨e, he, hs⟩ := hd
      rw [List.mem_filter] at he
      exact h.held e.on d hs (hall e (by simpa using he.1) he.2)
    · unfold slotOf at hj
      unfold yielded
      rw [hj, Option.bind_some, hb]
    · exact fun v w' hv hJ hb => hK' _ _ (ih _ _ _ (by rw [Array.size_setIfInBounds]; exact hsz) (by have := left_set (n := ops.size) hlt h1; omega) (h.put hlo hin stable stableG ho hv hJ hb))
/-- A drawn region. -/
theorem region_by {id : Nat} {w : World} (hm : P.follows .mixedOrders = true) (hac : acyc ops = true) (hlo : lone ops = true) (hin : inside ops a0.tmps.size = true) (stable : ∀ d v w w', Below w.heap.size w w' ∨ R w w' → E d v w → E d v w') (stableG : ∀ w w', Below w.heap.size w w' → G w → G w') (hJ : J w.drew)
    (step : AllL (Step P Q J G R E ops a0) ops.toList) (fin : ∀ a w, a.defers = a0.defers → a.tmps.size = a0.tmps.size → (∀ t, dstIn ops t = false → a.tmps[t]? = a0.tmps[t]?) → (∀ d, dstIn ops d = true → ∃ v, a.tmps[d]? = some v ∧ E d v w) → (∀ (j : Nat) (o : Oper), ops[j]? = some o → o.dst = none → G w) → J w → Q .normal a w) : (Code.region id ops true).wp P Q a0 w := by
  refine wp_region_any hm (inv_any hac hlo hin stable stableG step fin ops.size _ a0 _ (by simp) ?_ ⟨rfl, rfl, fun _ _ => rfl, fun j d _ hl => ?_, fun j o _ _ hl => ?_, hJ⟩)
  · unfold left
    exact Nat.le_trans (List.length_filter_le _ _) (by simp)
  · exfalso
    rw [Array.getD_eq_getD_getElem?, Array.getElem?_replicate] at hl
    split at hl <;> simp at hl
  · exfalso
    rw [Array.getD_eq_getD_getElem?, Array.getElem?_replicate] at hl
    split at hl <;> simp at hl
end
end Go.Proofs.YtdenddknbmiboaaDoor.Rbs
namespace Go.Proofs.YtdenddknbmiboaaDoor.Lex
open Go.ChangeShapes Go.WideShapes Go.ChangeAt Go.RowKit Go.Joins
theorem row4e {W : World} {k : Nat} {x : Ex} {D : Value} (h : W.heap[k]? = some (.cells #[.int .u8 (x.op : Int), .int .i64 x.n, .string x.name, D] 70 (0, 0))) : W.cell? ⟨k, 0, none⟩ = some (.int .u8 (x.op : Int)) ∧ W.cell? ⟨k, 1, none⟩ = some (.int .i64 x.n) ∧ W.cell? ⟨k, 2, none⟩ = some (.string x.name) ∧ W.cell? ⟨k, 3, none⟩ = some D :=
  ⟨(cell_of_row _ _ _ _ 70 (0, 0) h).trans rfl, (cell_of_row _ _ _ _ 70 (0, 0) h).trans rfl, (cell_of_row _ _ _ _ 70 (0, 0) h).trans rfl, (cell_of_row _ _ _ _ 70 (0, 0) h).trans rfl⟩
abbrev exS : Ex := ⟨3, 0, ⟨#[115]⟩, []⟩
abbrev exX : Ex := ⟨3, 0, ⟨#[120]⟩, []⟩
abbrev exT : Ex := ⟨3, 0, ⟨#[116]⟩, []⟩
abbrev hdX : Hd := ⟨⟨#[120]⟩, 1, 1⟩
abbrev flS : Fl := ⟨⟨#[115]⟩, 1, 1, 0, twE 18 exZ (twE 6 (preE exS) exX)⟩
abbrev flT : Fl := ⟨⟨#[116]⟩, 1, 2, 0, exS⟩
abbrev flU : Fl := ⟨⟨#[117]⟩, 1, 1, 0, twE 6 exT exX⟩
/-- The chapter's program. -/
def kn : Pg := ⟨2, [hdX], [flS, flT, flU], [⟨#[117]⟩]⟩
theorem hdX_ok : hdX.ok := ⟨by show (1 : Nat) ≤ _; omega, by show (1 : Nat) < _; omega, by show (-9223372036854775808 : Int) ≤ 1; omega, by show (1 : Int) ≤ _; omega⟩
theorem fl_ok (nm : ByteArray) (st : Int) (x : Ex) (h : nm.size ≤ 100) (h2 : 0 ≤ st ∧ st ≤ 100) : Fl.ok ⟨nm, 1, st, 0, x⟩ := ⟨by show nm.size ≤ _; omega, by show (1 : Nat) < _; omega, ⟨by show (-9223372036854775808 : Int) ≤ st; omega, by show st ≤ _; omega⟩, by show (-9223372036854775808 : Int) ≤ 0; omega, by show (0 : Int) ≤ _; omega⟩
theorem three_ok (a b c : Value) : ∀ q ∈ ([(flS, a), (flT, b), (flU, c)] : List (Fl × Value)), q.1.ok := by
  intro q hq
  rcases List.mem_cons.1 hq with rfl | hq
  · exact fl_ok _ _ _ (by show (1 : Nat) ≤ _; omega) (by omega)
  rcases List.mem_cons.1 hq with rfl | hq
  · exact fl_ok _ _ _ (by show (1 : Nat) ≤ _; omega) (by omega)
  rw [List.mem_singleton.1 hq]
  exact fl_ok _ _ _ (by show (1 : Nat) ≤ _; omega) (by omega)
theorem three_st {W : World} {a b c : Value} (h1 : St W flS.body a) (h2 : St W flT.body b) (h3 : St W flU.body c) : ∀ q ∈ ([(flS, a), (flT, b), (flU, c)] : List (Fl × Value)), St W q.1.body q.2 := by
  intro q hq
  rcases List.mem_cons.1 hq with rfl | hq
  · exact h1
  rcases List.mem_cons.1 hq with rfl | hq
  · exact h2
  rw [List.mem_singleton.1 hq]
  exact h3
def EE (b0 : Nat) (W : World) (x : Ex) (v : Value) : Prop := ∃ s, v = exV x s ∧ StOn (fun k => k = b0) W x s
def FF (b0 : Nat) (W : World) (x : Fl) (v : Value) : Prop := ∃ s, v = flV x s ∧ StOn (fun k => k = b0) W x.body s
/-- What a slot holds when its operation has come up. -/
def Ek (b0 : Nat) (d : Nat) (v : Value) (W : World) : Prop :=
  match d with
  | 5 => v = .agg #[.string ⟨#[120]⟩, .int .u8 1, .int .i64 1]
  | 6 => AtOn (fun k => k = b0) (fun V => InsAt V [hdX] v) W
  | 7 => EE b0 W (exZ) v
  | 8 => EE b0 W (preE exS) v
  | 9 => EE b0 W (exX) v
  | 10 => EE b0 W (twE 6 (preE exS) exX) v
  | 11 => EE b0 W (twE 18 exZ (twE 6 (preE exS) exX)) v
  | 12 => FF b0 W flS v
  | 13 => EE b0 W (exS) v
  | 14 => FF b0 W flT v
  | 15 => EE b0 W (exT) v
  | 16 => EE b0 W (exX) v
  | 17 => EE b0 W (twE 6 exT exX) v
  | 18 => FF b0 W flU v
  | 19 => AtOn (fun k => k = b0) (fun V => FlowsAt V [flS, flT, flU] v) W
  | 20 => AtOn (fun k => k = b0) (fun V => TextsAt V [⟨#[117]⟩] v) W
  | 21 => ∃ a b c, v = pgV kn a b c ∧ AtOn (fun k => k = b0) (fun V => PgAt V kn a b c) W
  | _ => True
theorem Ek.keep {b0 : Nat} (d : Nat) (v : Value) (w w' : World) (hb : Buts (fun k => k = b0) w w') (h : Ek b0 d v w) : Ek b0 d v w' := by
  revert h
  unfold Ek
  split <;> intro h <;> first | trivial | exact h | (obtain ⟨s, e, g⟩ := h; exact ⟨s, e, g.step hb⟩) | (obtain ⟨a, b, c, e, g⟩ := h; exact ⟨a, b, c, e, g.step hb⟩) | exact AtOn.step h hb
/-- What holds of every world on the way. -/
structure Jk (w : World) (kb : Nat) (sv : Value) (W : World) : Prop where
  box : ∃ cs : Array Value, W.heap[w.heap.size]? = some (.cells cs 46 (0, 0)) ∧ cs.size = 4
  var : W.heap[kb]? = some (.cells #[.int .u8 ((preE exS).op : Int), .int .i64 (preE exS).n, .string (preE exS).name, sv] 70 (0, 0))
  S : StOn (fun k => k = w.heap.size) W (preE exS) sv
  ne : kb ≠ w.heap.size
  below : Below w.heap.size w W
theorem Jk.lt {w W : World} {kb : Nat} {sv : Value} (h : Jk w kb sv W) : w.heap.size < W.heap.size := by
  obtain ⟨cs, hc, _⟩ := h.box
  exact (Array.getElem?_eq_some_iff.1 hc).1
theorem Jk.step {w W V : World} {kb : Nat} {sv : Value} (h : Jk w kb sv W) (hb : Below W.heap.size W V) : Jk w kb sv V := by
  obtain ⟨cs, hc, hs⟩ := h.box
  exact ⟨⟨cs, keep_row hc hb, hs⟩, keep_row h.var hb, h.S.step (Buts.below hb), h.ne, h.below.trans (hb.mono h.below.size)⟩
theorem Jk.alloc {w W : World} {kb : Nat} {sv : Value} (h : Jk w kb sv W) (o : Obj) : Jk w kb sv (W.alloc o) := h.step ((Below.refl _ _).alloc (Nat.le_refl _) o)
abbrev c26 : Array Value := #[.int .i64 0, .slice none 0 0, .slice none 0 0, .slice none 0 0]
theorem info26 : (Tryd.prog.info? 46).map (·.size) = some 4 := by kernel_rfl
set_option maxRecDepth 100000 in
set_option maxHeartbeats 4000000 in
theorem known_at (w : World) : Calls Tryd.prog 13 #[] w fun e w' => ∃ a b c, e = .returned (pgV kn a b c) ∧ PgAt w' kn a b c ∧ Below w.heap.size w w' := by
  have B0 := hid ((Below.refl w.heap.size w).alloc (Nat.le_refl _) (.cells c26 46))
  have X0 := hid (heap_alloc_new w (.cells c26 46))
  go_enter Tryd.func13, Tryd.ntmps13
  go_wp2_with (go_at_call 24; refine (name_at ⟨#[115]⟩ _).mono ?_; rintro e w1 ⟨rfl, hb1⟩; have HB1 := hid hb1; clear hb1)
  have hszc := HB1.out.size
  have hsz0 : (w.alloc (.cells c26 46)).heap.size = w.heap.size + 1 := by simp
  have hsv := st_leaf
  obtain ⟨W3, hW3⟩ : ∃ W3, W3 = (w1.alloc (.cells #[.int .u8 3, .int .i64 0, .string ⟨#[115]⟩, .slice none 0 0] 70)).alloc (.cells #[.int .u8 19, .int .i64 0, .string ⟨#[]⟩, .slice (some ⟨w1.heap.size, 0, none⟩) 1 1] 70) := ⟨_, rfl⟩
  rw [← hW3]
  have hb3 : Below w1.heap.size w1 W3 := by rw [hW3]; exact ((Below.refl _ w1).alloc (Nat.le_refl _) _).alloc (by simp) _
  have hr1 : W3.heap[w1.heap.size]? = some (.cells #[.int .u8 3, .int .i64 0, .string ⟨#[115]⟩, .slice none 0 0] 70 (0, 0)) := by rw [hW3, Below.heap_alloc _ _ _ (by simp)]; exact heap_alloc_new w1 _
  have hr2 : W3.heap[w1.heap.size + 1]? = some (.cells #[.int .u8 19, .int .i64 0, .string ⟨#[]⟩, .slice (some ⟨w1.heap.size, 0, none⟩) 1 1] 70 (0, 0)) := by rw [hW3]; exact push_new _ _ _ (by simp)
  rw [hsz0] at hszc
  have hJ3 : Jk w (w1.heap.size + 1) (.slice (some ⟨w1.heap.size, 0, none⟩) 1 1) W3 :=
    ⟨⟨c26, keep_row (keep_row X0.out HB1.out) hb3, rfl⟩, hr2, fun W' hw' => st_row1 19 exS N0 (by omega) (hw'.row hr1 (fun h => by omega)) (st_leaf W' exS rfl (by decide) (by decide) (by show (1 : Nat) ≤ _; omega)), by omega, (B0.out.trans (HB1.out.mono B0.out.size)).trans (hb3.mono (by omega))⟩
  have hb1s : w.heap.size < w1.heap.size := by omega
  obtain ⟨kb, hkb⟩ : ∃ kb, kb = w1.heap.size + 1 := ⟨_, rfl⟩
  rw [← hkb] at hJ3 ⊢
  clear hsv hW3 hb3 hr1 hr2 hkb hsz0
  rename_i hKK
  refine Rbs.region_by (J := Jk w kb (.slice (some ⟨w1.heap.size, 0, none⟩) 1 1)) (G := fun W => ∃ a b c, W.heap[w.heap.size]? = some (.cells (pgC kn a b c) 46 (0, 0)) ∧ AtOn (fun k => k = w.heap.size) (fun V => PgAt V kn a b c) W) (R := fun a b => Buts (fun k => k = w.heap.size) a b) (E := Ek w.heap.size) (by kernel_rfl) (by kernel_rfl) (by kernel_rfl) (by kernel_rfl) (fun d v w1 w2 hb h => Ek.keep d v w1 w2 (hb.elim (fun h => Buts.below h) id) h) (fun w1 w2 hb h => by obtain ⟨a, b, c, h1, h2⟩ := h; exact ⟨a, b, c, keep_row h1 hb, h2.step (Buts.below hb)⟩) (hJ3.step (Below.refl _ _).drew) ?step ?fin
  case step =>
    refine Rbs.AllL.cons ?_ <| Rbs.AllL.cons ?_ <| Rbs.AllL.cons ?_ <| Rbs.AllL.cons ?_ <| Rbs.AllL.cons ?_ <| Rbs.AllL.cons ?_ <| Rbs.AllL.cons ?_ <| Rbs.AllL.cons ?_ <| Rbs.AllL.cons ?_ <| Rbs.AllL.cons ?_ <| Rbs.AllL.cons ?_ <| Rbs.AllL.cons ?_ <| Rbs.AllL.cons ?_ <| Rbs.AllL.cons ?_ <| Rbs.AllL.cons ?_ <| Rbs.AllL.cons ?_ <| Rbs.AllL.cons ?_ <| Rbs.AllL.cons ?_ <| Rbs.AllL.nil
    · intro ac V yl K hf hs _ hJ hK
      have HJ := hid hJ
      clear hf hs hJ
      go_simp
      exact hK.out _ _ (fun d hd => by cases hd; exact rfl) HJ.out (.inl ⟨Below.refl _ _, rfl⟩)
    · intro ac V yl K hf hs _ hJ hK
      obtain ⟨v5, e5, h5⟩ := hs 5 (by kernel_rfl)
      have h5' : v5 = .agg #[.string ⟨#[120]⟩, .int .u8 1, .int .i64 1] := h5
      subst h5'
      clear h5
      have HJ := hid hJ
      clear hf hs hJ
      go_simp
      have hlt := HJ.out.lt
      exact hK.out _ _ (fun d hd => by cases hd; exact fun W' hw' => ins_one hdX (hw'.row (heap_alloc_new V _) (fun h => by omega)) hdX_ok) (HJ.out.alloc _) (.inl ⟨(Below.refl _ _).alloc (Nat.le_refl _) _, rfl⟩)
    · intro ac V yl K hf hs _ hJ hK
      have HJ := hid hJ
      clear hf hs hJ
      go_simp
      exact hK.out _ _ (fun d hd => by cases hd; exact ⟨_, rfl, stZ _ _⟩) HJ.out (.inl ⟨Below.refl _ _, rfl⟩)
    · intro ac V yl K hf hs _ hJ hK
      have e1 : ac.tmps[1]? = some (.pointer (some ⟨kb, 0, none⟩)) := (hf 1 (by kernel_rfl)).trans rfl
      have HJ := hid hJ
      clear hf hs hJ
      obtain ⟨q0, q1, q2, q3⟩ := row4e HJ.out.var
      go_simp
      exact hK.out _ _ (fun d hd => by cases hd; exact ⟨_, rfl, HJ.out.S⟩) HJ.out (.inl ⟨Below.refl _ _, rfl⟩)
    · intro ac V yl K hf hs _ hJ hK
      have HJ := hid hJ
      clear hf hs hJ
      go_simp
      refine (name_at ⟨#[120]⟩ V).mono ?_
      rintro e V2 ⟨rfl, hb⟩
      have HB := hid hb
      clear hb
      go_wp2_with fail
      exact hK.out _ _ (fun d hd => by cases hd; exact ⟨_, rfl, stN _ _ _ (by show (1 : Nat) ≤ _; omega)⟩) (HJ.out.step HB.out) (.inl ⟨HB.out, rfl⟩)
    · intro ac V yl K hf hs _ hJ hK
      obtain ⟨v8, e8, h8⟩ := hs 8 (by kernel_rfl)
      obtain ⟨s8, rfl, g8⟩ : EE w.heap.size V (preE exS) v8 := h8
      obtain ⟨a8, c8, _, rfl, _⟩ := g8.now.out
      have G8 := hid g8
      clear g8
      obtain ⟨v9, e9, h9⟩ := hs 9 (by kernel_rfl)
      obtain ⟨s9, rfl, g9⟩ : EE w.heap.size V (exX) v9 := h9
      obtain ⟨a9, c9, _, rfl, _⟩ := g9.now.out
      have G9 := hid g9
      clear g9
      have HJ := hid hJ
      clear hf hs hJ
      have hlt := HJ.out.lt
      have c48 := two_at (fun k => k = w.heap.size) 6 (by omega) _ _ _ _ V G8.out G9.out (fun k hk => by omega)
      go_simp
      refine c48.mono ?_
      rintro e V2 ⟨u, rfl, hu, hb⟩
      have HB := hid hb
      have HU := hid hu
      clear hb hu c48
      go_wp2_with fail
      exact hK.out _ _ (fun d hd => by cases hd; exact ⟨_, rfl, HU.out⟩) (HJ.out.step HB.out) (.inl ⟨HB.out, rfl⟩)
    · intro ac V yl K hf hs _ hJ hK
      obtain ⟨v7, e7, h7⟩ := hs 7 (by kernel_rfl)
      obtain ⟨s7, rfl, g7⟩ : EE w.heap.size V (exZ) v7 := h7
      obtain ⟨a7, c7, _, rfl, _⟩ := g7.now.out
      have G7 := hid g7
      clear g7
      obtain ⟨v10, e10, h10⟩ := hs 10 (by kernel_rfl)
      obtain ⟨s10, rfl, g10⟩ : EE w.heap.size V (twE 6 (preE exS) exX) v10 := h10
      obtain ⟨a10, c10, _, rfl, _⟩ := g10.now.out
      have G10 := hid g10
      clear g10
      have HJ := hid hJ
      clear hf hs hJ
      have hlt := HJ.out.lt
      have c48 := two_at (fun k => k = w.heap.size) 18 (by omega) _ _ _ _ V G7.out G10.out (fun k hk => by omega)
      go_simp
      refine c48.mono ?_
      rintro e V2 ⟨u, rfl, hu, hb⟩
      have HB := hid hb
      have HU := hid hu
      clear hb hu c48
      go_wp2_with fail
      exact hK.out _ _ (fun d hd => by cases hd; exact ⟨_, rfl, HU.out⟩) (HJ.out.step HB.out) (.inl ⟨HB.out, rfl⟩)
    · intro ac V yl K hf hs _ hJ hK
      obtain ⟨v11, e11, h11⟩ := hs 11 (by kernel_rfl)
      obtain ⟨s11, rfl, g11⟩ : EE w.heap.size V (twE 18 exZ (twE 6 (preE exS) exX)) v11 := h11
      obtain ⟨a11, c11, _, rfl, _⟩ := g11.now.out
      have G11 := hid g11
      clear g11
      have HJ := hid hJ
      clear hf hs hJ
      go_simp
      exact hK.out _ _ (fun d hd => by cases hd; exact ⟨_, rfl, G11.out⟩) HJ.out (.inl ⟨Below.refl _ _, rfl⟩)
    · intro ac V yl K hf hs _ hJ hK
      have HJ := hid hJ
      clear hf hs hJ
      go_simp
      refine (name_at ⟨#[115]⟩ V).mono ?_
      rintro e V2 ⟨rfl, hb⟩
      have HB := hid hb
      clear hb
      go_wp2_with fail
      exact hK.out _ _ (fun d hd => by cases hd; exact ⟨_, rfl, stN _ _ _ (by show (1 : Nat) ≤ _; omega)⟩) (HJ.out.step HB.out) (.inl ⟨HB.out, rfl⟩)
    · intro ac V yl K hf hs _ hJ hK
      obtain ⟨v13, e13, h13⟩ := hs 13 (by kernel_rfl)
      obtain ⟨s13, rfl, g13⟩ : EE w.heap.size V (exS) v13 := h13
      obtain ⟨a13, c13, _, rfl, _⟩ := g13.now.out
      have G13 := hid g13
      clear g13
      have HJ := hid hJ
      clear hf hs hJ
      go_simp
      exact hK.out _ _ (fun d hd => by cases hd; exact ⟨_, rfl, G13.out⟩) HJ.out (.inl ⟨Below.refl _ _, rfl⟩)
    · intro ac V yl K hf hs _ hJ hK
      have HJ := hid hJ
      clear hf hs hJ
      go_simp
      refine (name_at ⟨#[116]⟩ V).mono ?_
      rintro e V2 ⟨rfl, hb⟩
      have HB := hid hb
      clear hb
      go_wp2_with fail
      exact hK.out _ _ (fun d hd => by cases hd; exact ⟨_, rfl, stN _ _ _ (by show (1 : Nat) ≤ _; omega)⟩) (HJ.out.step HB.out) (.inl ⟨HB.out, rfl⟩)
    · intro ac V yl K hf hs _ hJ hK
      have HJ := hid hJ
      clear hf hs hJ
      go_simp
      refine (name_at ⟨#[120]⟩ V).mono ?_
      rintro e V2 ⟨rfl, hb⟩
      have HB := hid hb
      clear hb
      go_wp2_with fail
      exact hK.out _ _ (fun d hd => by cases hd; exact ⟨_, rfl, stN _ _ _ (by show (1 : Nat) ≤ _; omega)⟩) (HJ.out.step HB.out) (.inl ⟨HB.out, rfl⟩)
    · intro ac V yl K hf hs _ hJ hK
      obtain ⟨v15, e15, h15⟩ := hs 15 (by kernel_rfl)
      obtain ⟨s15, rfl, g15⟩ : EE w.heap.size V (exT) v15 := h15
      obtain ⟨a15, c15, _, rfl, _⟩ := g15.now.out
      have G15 := hid g15
      clear g15
      obtain ⟨v16, e16, h16⟩ := hs 16 (by kernel_rfl)
      obtain ⟨s16, rfl, g16⟩ : EE w.heap.size V (exX) v16 := h16
      obtain ⟨a16, c16, _, rfl, _⟩ := g16.now.out
      have G16 := hid g16
      clear g16
      have HJ := hid hJ
      clear hf hs hJ
      have hlt := HJ.out.lt
      have c48 := two_at (fun k => k = w.heap.size) 6 (by omega) _ _ _ _ V G15.out G16.out (fun k hk => by omega)
      go_simp
      refine c48.mono ?_
      rintro e V2 ⟨u, rfl, hu, hb⟩
      have HB := hid hb
      have HU := hid hu
      clear hb hu c48
      go_wp2_with fail
      exact hK.out _ _ (fun d hd => by cases hd; exact ⟨_, rfl, HU.out⟩) (HJ.out.step HB.out) (.inl ⟨HB.out, rfl⟩)
    · intro ac V yl K hf hs _ hJ hK
      obtain ⟨v17, e17, h17⟩ := hs 17 (by kernel_rfl)
      obtain ⟨s17, rfl, g17⟩ : EE w.heap.size V (twE 6 exT exX) v17 := h17
      obtain ⟨a17, c17, _, rfl, _⟩ := g17.now.out
      have G17 := hid g17
      clear g17
      have HJ := hid hJ
      clear hf hs hJ
      go_simp
      exact hK.out _ _ (fun d hd => by cases hd; exact ⟨_, rfl, G17.out⟩) HJ.out (.inl ⟨Below.refl _ _, rfl⟩)
    · intro ac V yl K hf hs _ hJ hK
      obtain ⟨v12, e12, h12⟩ := hs 12 (by kernel_rfl)
      obtain ⟨s12, rfl, g12⟩ : FF w.heap.size V flS v12 := h12
      obtain ⟨a12, c12, _, rfl, _⟩ := g12.now.out
      have G12 := hid g12
      clear g12
      obtain ⟨v14, e14, h14⟩ := hs 14 (by kernel_rfl)
      obtain ⟨s14, rfl, g14⟩ : FF w.heap.size V flT v14 := h14
      obtain ⟨a14, c14, _, rfl, _⟩ := g14.now.out
      have G14 := hid g14
      clear g14
      obtain ⟨v18, e18, h18⟩ := hs 18 (by kernel_rfl)
      obtain ⟨s18, rfl, g18⟩ : FF w.heap.size V flU v18 := h18
      obtain ⟨a18, c18, _, rfl, _⟩ := g18.now.out
      have G18 := hid g18
      clear g18
      have HJ := hid hJ
      clear hf hs hJ
      go_simp
      have hlt := HJ.out.lt
      have hba := (Below.refl V.heap.size V).alloc (Nat.le_refl _) (.cells (([(flS, Value.slice a12 flS.body.args.length c12), (flT, .slice a14 flT.body.args.length c14), (flU, .slice a18 flU.body.args.length c18)] : List (Fl × Value)).map fun q => flL q.1 q.2).flatten.toArray 76)
      exact hK.out _ _ (fun d hd => by cases hd; exact fun W' hw' => flows_row [(flS, .slice a12 flS.body.args.length c12), (flT, .slice a14 flT.body.args.length c14), (flU, .slice a18 flU.body.args.length c18)] (hw'.row (heap_alloc_new V _) (fun h => by omega)) (three_ok _ _ _) (three_st (G12.out.grow hba (fun _ _ h => h) W' hw') (G14.out.grow hba (fun _ _ h => h) W' hw') (G18.out.grow hba (fun _ _ h => h) W' hw')) (by show (3 : Nat) ≤ _; omega)) (HJ.out.alloc _) (.inl ⟨(Below.refl _ _).alloc (Nat.le_refl _) _, rfl⟩)
    · intro ac V yl K hf hs _ hJ hK
      have HJ := hid hJ
      clear hf hs hJ
      go_simp
      have hlt := HJ.out.lt
      exact hK.out _ _ (fun d hd => by cases hd; exact fun W' hw' => texts_one ⟨#[117]⟩ (hw'.row (heap_alloc_new V _) (fun h => by omega)) (by show (1 : Nat) ≤ _; omega)) (HJ.out.alloc _) (.inl ⟨(Below.refl _ _).alloc (Nat.le_refl _) _, rfl⟩)
    · intro ac V yl K hf hs _ hJ hK
      obtain ⟨v6, e6, h6⟩ := hs 6 (by kernel_rfl)
      have g6 : AtOn (fun k => k = w.heap.size) (fun V => InsAt V [hdX] v6) V := h6
      obtain ⟨a6, c6, rfl, _⟩ := g6.now
      have G6 := hid g6
      clear h6 g6
      obtain ⟨v19, e19, h19⟩ := hs 19 (by kernel_rfl)
      have g19 : AtOn (fun k => k = w.heap.size) (fun V => FlowsAt V [flS, flT, flU] v19) V := h19
      obtain ⟨a19, c19, _, rfl, _⟩ := g19.now
      have G19 := hid g19
      clear h19 g19
      obtain ⟨v20, e20, h20⟩ := hs 20 (by kernel_rfl)
      have g20 : AtOn (fun k => k = w.heap.size) (fun V => TextsAt V [⟨#[117]⟩] v20) V := h20
      obtain ⟨a20, c20, rfl, _⟩ := g20.now
      have G20 := hid g20
      clear h20 g20
      have HJ := hid hJ
      clear hf hs hJ
      go_simp
      exact hK.out _ _ (fun d hd => by cases hd; exact ⟨_, _, _, rfl, fun W' hw' => ⟨⟨by show (-9223372036854775808 : Int) ≤ 2; omega, by show (2 : Int) ≤ _; omega⟩, G6.out W' hw', G19.out W' hw', G20.out W' hw'⟩⟩) HJ.out (.inl ⟨Below.refl _ _, rfl⟩)
    · intro ac V yl K hf hs _ hJ hK
      have e0 : ac.tmps[0]? = some (.pointer (some ⟨w.heap.size, 0, none⟩)) := (hf 0 (by kernel_rfl)).trans rfl
      obtain ⟨v21, e21, h21⟩ := hs 21 (by kernel_rfl)
      obtain ⟨pa, pb, pc, rfl, g21⟩ : ∃ a b c, v21 = pgV kn a b c ∧ AtOn (fun k => k = w.heap.size) (fun V => PgAt V kn a b c) V := h21
      obtain ⟨qa, qb, rfl, _⟩ := g21.now.ins
      obtain ⟨ra, rb, _, rfl, _⟩ := g21.now.flows
      obtain ⟨sa, sb, rfl, _⟩ := g21.now.outs
      have G21 := hid g21
      clear g21
      have HJ := hid hJ
      clear hf hs hJ
      obtain ⟨cs, hcs, hcz⟩ := HJ.out.box
      refine if_take (by rfl) ?_
      refine wp_store_row 46 _ _ rfl w.heap.size (pgC kn (.slice qa kn.ins.length qb) (.slice ra kn.flows.length rb) (.slice sa kn.outs.length sb)) (by simp [Act.eval, e0]) (by simp [Act.eval, e21]) 46 cs hcs info26 (by rw [hcz]; rfl) (by simp [Value.oneCell']) ?_
      have hbu : Buts (fun k => k = w.heap.size) V (V.setRow w.heap.size (pgC kn (.slice qa kn.ins.length qb) (.slice ra kn.flows.length rb) (.slice sa kn.outs.length sb))) := ⟨rfl, rfl, rfl, by simp [World.setRow], fun k _ hn => setRow_other _ _ _ _ hn⟩
      exact hK.out _ _ (fun d hd => by cases hd) ⟨⟨_, setRow_heap _ _ _ _ _ _ hcs, rfl⟩, hbu.row HJ.out.var HJ.out.ne, HJ.out.S.step hbu, HJ.out.ne, below_row HJ.out.below HJ.out.below.size (Nat.le_refl _) _⟩ (.inr ⟨hbu, rfl, _, _, _, setRow_heap _ _ _ _ _ _ hcs, G21.out.step hbu⟩)
  case fin =>
    rintro a W hd hsz hf hs hG hJ
    obtain ⟨pa, pb, pc, hrow, hP⟩ := hG 17 _ (by rfl) (by rfl)
    have ha0 : a.tmps.getD 0 undef = .pointer (some ⟨w.heap.size, 0, none⟩) := by
      have h := hf 0 (by kernel_rfl)
      rw [Array.getD_eq_getD_getElem?, h]; rfl
    exact hKK a W (wp_ret (bodyPost_ret (results_cell_row rfl _ _ w.heap.size 46 (pgC kn pa pb pc) (0, 0) _ ha0 hrow Tryd.underlying46 rfl info26) hd ⟨pa, pb, pc, rfl, hP.now, hJ.below⟩))
end Go.Proofs.YtdenddknbmiboaaDoor.Lex
namespace Go.Proofs.YtdenddknbmiboaaDoor.Lex
open Go.ChangeShapes Go.WideShapes Go.ChangeAt Go.RowKit Go.Joins
def findD (l : List (Int × Hd)) (name : ByteArray) : Option (Int × Hd) := l.find? fun x => x.2.name.data.toList == name.data.toList
theorem findT_D (l : List (Int × Hd)) (name : ByteArray) : findT l name = findD l name := by
  unfold findT findD
  congr 1
  funext x
  rw [ByteArray.toList_eq, ByteArray.toList_eq]
def mkD (p : Pg) (k : Nat) (st : Int) (r : Rf) : Wi := ⟨k, r, plO (findD (thingsL p) r.1), if stO (findD (thingsL p) r.1) = st then 0 else 1⟩
theorem mkW_D (p : Pg) (k : Nat) (st : Int) : mkW p k st = mkD p k st := by funext r; unfold mkW mkD; rw [findT_D]
def wishD (p : Pg) (k : Nat) : List Wi := ((p.flows[k]?).map fun f => (gat 32 f.body 0 []).map (mkD p k f.st)).getD []
theorem wishL_D (p : Pg) (k : Nat) : wishL p k = wishD p k := by unfold wishL wishD; simp only [mkW_D]
def allD (p : Pg) : List Wi := (List.range p.flows.length).flatMap (wishD p)
theorem allL_D (p : Pg) : allL p = allD p := by unfold allL allN allD; congr 1; funext k; rw [wishL_D]
def ofD (p : Pg) : Option (List Int) := leaF (allD p) (p.flows.length + 1) (List.replicate p.flows.length 0)
theorem ofL_D (p : Pg) : ofL p = ofD p := by unfold ofL ofD; rw [allL_D]
def lateD (p : Pg) (l : List Int) : Bool := decide (nmErr p = 0) && (decide (l.length = p.flows.length) && (!anyOut l && (allD p).all (fun x => decide (0 ≤ ageV l x))))
theorem lateOk_D (p : Pg) (l : List Int) : lateOk p l = lateD p l := by unfold lateOk lateD agesOk; rw [allL_D]
theorem k0 : nmErr kn = 0 := by decide +kernel
theorem k1 : ofL kn = some [0, 1, 2] := by rw [ofL_D]; decide +kernel
theorem k6 : lateOk kn [0, 1, 2] = true := by rw [lateOk_D]; decide +kernel
theorem k7 : lateOk kn [0, 0, 2] = false := by rw [lateOk_D]; decide +kernel
end Go.Proofs.YtdenddknbmiboaaDoor.Lex
namespace Go.Proofs.YtdenddknbmiboaaDoor.Lex
def plcD (p : Pg) (l : List Int) (s : Int) (nm : ByteArray) : Plc :=
  let o := findD (thingsL p) nm
  ⟨nm, tyO o, oldF l s (sinF l o s) (akOf (akAll p) nm), !(stO o == s), if stO o = s then 0 else stO o, if stO o = s then 0 else insF p o⟩
theorem plcF_D (p : Pg) (l : List Int) (s : Int) : plcF p l s = plcD p l s := by funext nm; unfold plcF plcD; rw [findT_D]
def placesD (p : Pg) (l : List Int) (s : Int) : List Plc := (allN_ p s).map (plcD p l s)
theorem placesL_D (p : Pg) (l : List Int) (s : Int) : placesL p l s = placesD p l s := by unfold placesL placesD; rw [plcF_D]
abbrev PlT := ByteArray × Nat × Int × Bool × Int × Int
def plT (x : Plc) : PlT := (x.name, x.ty, x.keep, x.far, x.frm, x.df)
def ofT (x : PlT) : Plc := ⟨x.1, x.2.1, x.2.2.1, x.2.2.2.1, x.2.2.2.2.1, x.2.2.2.2.2⟩
theorem of_plT (l : List Plc) : (l.map plT).map ofT = l := by
  rw [List.map_map]
  exact List.map_id'' (fun _ => rfl) l
theorem c1 : sendsA kn 1 = [⟨#[115]⟩] := by decide +kernel
theorem c2 : sendsA kn 2 = [⟨#[116]⟩] := by decide +kernel
theorem c3 : needsA kn 3 = [] := by decide +kernel
theorem c4 : stOk kn 1 = true := by decide +kernel
theorem c5 : (placesD kn [0, 1, 2] 1).map plT = [(⟨#[120]⟩, 1, 2, false, 0, 0), (⟨#[115]⟩, 1, 1, false, 0, 0), (⟨#[117]⟩, 1, 0, false, 0, 0), (⟨#[116]⟩, 1, 0, true, 2, 0)] := by decide +kernel
theorem c6 : placesL kn [0, 1, 2] 1 = [⟨⟨#[120]⟩, 1, 2, false, 0, 0⟩, ⟨⟨#[115]⟩, 1, 1, false, 0, 0⟩, ⟨⟨#[117]⟩, 1, 0, false, 0, 0⟩, ⟨⟨#[116]⟩, 1, 0, true, 2, 0⟩] := by
  rw [placesL_D, ← of_plT (placesD kn [0, 1, 2] 1), c5]
  rfl
end Go.Proofs.YtdenddknbmiboaaDoor.Lex
namespace Go.Proofs.YtdenddknbmiboaaDoor.Lex
open Go.ChangeShapes Go.WideShapes Go.ChangeAt Go.RowKit Go.Joins
theorem tyn_s : Typ.tyN kn ⟨#[115]⟩ = 1 := by unfold Typ.tyN; rw [findT_D]; decide +kernel
theorem tyn_x : Typ.tyN kn ⟨#[120]⟩ = 1 := by unfold Typ.tyN; rw [findT_D]; decide +kernel
theorem tyn_t : Typ.tyN kn ⟨#[116]⟩ = 1 := by unfold Typ.tyN; rw [findT_D]; decide +kernel
theorem kn_ok : Typ.ckV kn = 0 := by
  have e1 : Typ.flT kn flS = true := by simp [Typ.flT, Typ.tyE, Typ.ruleT, tyn_s, tyn_x, Typ.com, Typ.fitT]
  have e2 : Typ.flT kn flT = true := by simp [Typ.flT, Typ.tyE, tyn_s, Typ.fitT]
  have e3 : Typ.flT kn flU = true := by simp [Typ.flT, Typ.tyE, Typ.ruleT, tyn_t, tyn_x, Typ.com, Typ.fitT]
  unfold Typ.ckV
  rw [if_pos k0, if_pos]
  show (([flS, _, _] : List Fl).all (Typ.flT kn)) = true
  rw [List.all_cons, List.all_cons, List.all_cons, e1, e2, e3]
  rfl
abbrev pl1 : Plc := ⟨⟨#[120]⟩, 1, 2, false, 0, 0⟩
abbrev pl2 : Plc := ⟨⟨#[115]⟩, 1, 1, false, 0, 0⟩
abbrev pl3 : Plc := ⟨⟨#[117]⟩, 1, 0, false, 0, 0⟩
abbrev pl4 : Plc := ⟨⟨#[116]⟩, 1, 0, true, 2, 0⟩
theorem snc1 : sncF kn [0, 1, 2] pl1 = 0 := by unfold sncF; rw [findT_D]; decide +kernel
theorem snc2 : sncF kn [0, 1, 2] pl2 = 0 := by unfold sncF; rw [findT_D]; decide +kernel
/-- The instructions of the chapter's first flow. -/
abbrev insS : List Cin := [⟨1, 0, 0⟩, ⟨3, 1, 1⟩, ⟨3, 0, 0⟩, ⟨6, 0, 0⟩, ⟨18, 0, 0⟩]
theorem src_s : srcK kn [0, 1, 2] [pl1, pl2, pl3, pl4] 4 [115] = (1, 0) := by
  simp [srcK, snc2]
theorem src_x : srcK kn [0, 1, 2] [pl1, pl2, pl3, pl4] 4 [120] = (0, 0) := by
  simp [srcK, snc1]
theorem ins_s : wrF (srcK kn [0, 1, 2] [pl1, pl2, pl3, pl4] 4) 0 flS.body 0 = insS := by
  generalize hT : srcK kn [0, 1, 2] [pl1, pl2, pl3, pl4] 4 = T
  have h1 : T [115] = (1, 0) := by rw [← hT]; exact src_s
  have h2 : T [120] = (0, 0) := by rw [← hT]; exact src_x
  simp [wrF, lastW, h1, h2]
theorem ck_s : ckF [pl1, pl2, pl3, pl4] insS = 1 := by decide +kernel
theorem ck_n : ckF [] [] = 0 := by decide +kernel
theorem ck_b : ckF [] [⟨2, 1, 0⟩, ⟨5, 0, 0⟩] = 2 := by decide +kernel
end Go.Proofs.YtdenddknbmiboaaDoor.Lex
namespace Go.Proofs.YtdenddknbmiboaaDoor.Lex
open Go.ChangeShapes Go.WideShapes Go.ChangeAt Go.RowKit Go.Joins
/-- The chapter's program in its variable, the tables. -/
structure KV (w : World) (pb : Nat) (A B C : Value) (W : World) : Prop where
  row : W.heap[pb]? = some (.cells (pgC kn A B C) 46 (0, 0))
  P : PgAt W kn A B C
  R : TabR W
  J : TabJ W
  below : Below w.heap.size w W
theorem KV.keep {w W W' : World} {pb : Nat} {A B C : Value} (h : KV w pb A B C W) (hb : Below W.heap.size W W') : KV w pb A B C W' := ⟨keep_row h.row hb, h.P.keep hb, h.R.below hb, h.J.below hb, h.below.trans (hb.mono h.below.size)⟩
/-- Instructions that are answered are read. -/
theorem own_ins {W : World} {B : Nat} {v : Value} {l : List Cin} (h : W.ownsRow B 38 3 v l.length (inssC l)) (hl : l.length ≤ 100000) (ho : ∀ x ∈ l, x.op < 256) : InR W v l := by
  have hh := h
  rcases h.2 with ⟨rfl, h0⟩ | ⟨gg, cap, cur, rfl, h1, h2, h3, _⟩
  · exact ⟨none, 0, by rw [h0], ⟨by omega, by omega⟩, .inl (List.eq_nil_of_length_eq_zero h0)⟩
  · refine ⟨_, cap, rfl, ⟨h3, by omega⟩, .inr ⟨gg, 0, rfl, fun k hk => ⟨ho _ (List.getElem_mem hk), fun j hj => ?_⟩⟩⟩
    have h4 := World.ownsRow.cellAt hh (k * 3 + j) (by omega)
    rw [Nat.zero_add, h4]
    exact inssC_at l k hk j hj
theorem PlR.nil (W : World) : PlR W (.slice none 0 0) [] := ⟨none, 0, rfl, ⟨Nat.le_refl _, Nat.zero_le _⟩, .inl rfl⟩
theorem InR.nil (W : World) : InR W (.slice none 0 0) [] := ⟨none, 0, rfl, ⟨Nat.le_refl _, Nat.zero_le _⟩, .inl rfl⟩
theorem InR.two {W : World} {b : Nat} (x y : Cin) (hx : x.op < 256) (hy : y.op < 256) (h : W.heap[b]? = some (.cells #[.int .u8 (x.op : Int), .int .i64 x.n, .int .i64 x.ago, .int .u8 (y.op : Int), .int .i64 y.n, .int .i64 y.ago] 38 (0, 0))) : InR W (.slice (some ⟨b, 0, none⟩) 2 2) [x, y] := by
  refine ⟨_, 2, rfl, ⟨Nat.le_refl _, by show (2 : Nat) ≤ _; omega⟩, .inr ⟨b, 0, rfl, fun k hk => ?_⟩⟩
  have hk2 : k < 2 := hk
  match k, hk2 with
  | 0, _ =>
    refine ⟨hx, fun j hj => ?_⟩
    rw [cell_of_row _ _ _ _ 38 (0, 0) h]
    match j, hj with
    | 0, _ => rfl
    | 1, _ => rfl
    | 2, _ => rfl
  | 1, _ =>
    refine ⟨hy, fun j hj => ?_⟩
    rw [cell_of_row _ _ _ _ 38 (0, 0) h]
    match j, hj with
    | 0, _ => rfl
    | 1, _ => rfl
    | 2, _ => rfl
/-- A row of three numbers. -/
theorem ints3 {W : World} {b : Nat} {x y z : Int} (h : W.heap[b]? = some (.cells #[.int .i64 x, .int .i64 y, .int .i64 z] 3 (0, 0))) : IAt W [x, y, z] (.slice (some ⟨b, 0, none⟩) 3 3) := by
  refine ⟨_, 3, rfl, ⟨Nat.le_refl _, by show (3 : Nat) ≤ _; omega⟩, .inr ⟨b, 0, rfl, fun i hi => ?_⟩⟩
  have hi2 : i < 3 := hi
  rw [Nat.zero_add, cell_of_row _ _ _ _ 3 (0, 0) h]
  match i, hi2 with
  | 0, _ => rfl
  | 1, _ => rfl
  | 2, _ => rfl
/-- What is kept until the end. -/
structure KA (w : World) (pb : Nat) (A B C pv iv : Value) (lb : Nat) (W : World) : Prop where
  K : KV w pb A B C W
  pl : PlR W pv [pl1, pl2, pl3, pl4]
  ins : InR W iv insS
  lv : W.heap[lb]? = some (.cells #[.int .i64 0, .int .i64 1, .int .i64 2] 3 (0, 0))
theorem KA.keep {w W W' : World} {pb lb : Nat} {A B C pv iv : Value} (h : KA w pb A B C pv iv lb W) (hb : Below W.heap.size W W') : KA w pb A B C pv iv lb W' := ⟨h.K.keep hb, h.pl.keep hb, h.ins.keep hb, keep_row h.lv hb⟩
set_option maxRecDepth 100000 in
set_option maxHeartbeats 16000000 in
theorem lives (w : World) (hR : TabR w) (hJ : TabJ w) : Calls Tryd.prog 6 #[] w fun e w' => e = .returned (.bool true) ∧ Below w.heap.size w w' := by
  have HT := hid (And.intro hR hJ)
  clear hR hJ
  go_enter Tryd.func6, Tryd.ntmps6
  go_wp2_with (fail)
  refine (known_at _).mono ?_
  rintro e w1 ⟨A, B, C, rfl, hP, hb1⟩
  obtain ⟨A0, A1, rfl, _⟩ := hP.ins
  obtain ⟨B0, B1, _, rfl, _⟩ := hP.flows
  obtain ⟨C0, C1, rfl, _⟩ := hP.outs
  have hal := (Below.refl w1.heap.size w1).alloc (Nat.le_refl _) (.cells (pgC kn (.slice A0 1 A1) (.slice B0 3 B1) (.slice C0 1 C1)) 46)
  have hr := heap_alloc_new w1 (.cells (pgC kn (.slice A0 1 A1) (.slice B0 3 B1) (.slice C0 1 C1)) 46)
  have hKV : KV w w1.heap.size (.slice A0 1 A1) (.slice B0 3 B1) (.slice C0 1 C1) (w1.alloc (.cells (pgC kn (.slice A0 1 A1) (.slice B0 3 B1) (.slice C0 1 C1)) 46)) := ⟨hr, hP.keep hal, HT.out.1.below (hb1.trans (hal.mono hb1.size)), HT.out.2.below (hb1.trans (hal.mono hb1.size)), hb1.trans (hal.mono hb1.size)⟩
  have K1 := hid hKV
  have hal2 := (Below.refl (w1.alloc (.cells (pgC kn (.slice A0 1 A1) (.slice B0 3 B1) (.slice C0 1 C1)) 46)).heap.size (w1.alloc (.cells (pgC kn (.slice A0 1 A1) (.slice B0 3 B1) (.slice C0 1 C1)) 46))).alloc (Nat.le_refl _) (.cells #[.int .i64 0, .int .i64 1, .int .i64 2] 3)
  have K2 := hid (K1.out.keep hal2)
  have hl2 := heap_alloc_new (w1.alloc (.cells (pgC kn (.slice A0 1 A1) (.slice B0 3 B1) (.slice C0 1 C1)) 46)) (.cells #[.int .i64 0, .int .i64 1, .int .i64 2] 3)
  rw [World.size_alloc] at hl2
  have HL2 := hid hl2
  obtain ⟨x0, x1, x2, x3⟩ := row4 K2.out.row
  have cpl := places_ kn [0, 1, 2] _ 1 _ _ _ _ K2.out.P K2.out.R K2.out.J (ints3 hl2)
  clear hal hr hP hb1 hKV hal2 hl2
  go_wp2_with (fail)
  refine cpl.mono ?_
  rintro e w3 ⟨hE, hb3⟩
  obtain ⟨r, rfl, hrow⟩ : ∃ r, e = .returned (.tuple #[r, .int .i64 0]) ∧ RowP w3 ((w1.alloc (.cells (pgC kn (.slice A0 1 A1) (.slice B0 3 B1) (.slice C0 1 C1)) 46)).alloc (.cells #[.int .i64 0, .int .i64 1, .int .i64 2] 3)).heap.size r (placesL kn [0, 1, 2] 1) := by
    rcases hE with ⟨h, _⟩ | ⟨_, h, _⟩ | ⟨_, _, h⟩
    · rw [c4] at h; cases h
    · rw [k6] at h; cases h
    · exact h
  have hpn : (placesL kn [0, 1, 2] 1).length ≤ 100000 := by rw [c6]; show (4 : Nat) ≤ _; omega
  have hpr := RowP.read hrow hpn
  have HPR := hid hpr
  have hpr4 := hpr
  rw [c6] at hpr4
  have HP4 := hid hpr4
  obtain ⟨ra, rc, rfl, _⟩ := hpr4
  have K3 := hid (K2.out.keep hb3)
  have HL3 := hid (keep_row HL2.out hb3)
  obtain ⟨y0, y1, y2, y3⟩ := row4 K3.out.row
  have cof : Calls Tryd.prog 15 #[pgV kn (.slice A0 1 A1) (.slice B0 3 B1) (.slice C0 1 C1), .slice (some ⟨w1.heap.size + 1, 0, none⟩) 3 3, .int .i64 0, .slice ra 4 rc] w3 (OfE w3 insS) := by
    have h := of_fine kn [0, 1, 2] 0 _ _ w3 _ _ _ K3.out.P K3.out.R K3.out.J (ints3 HL3.out) kn_ok k6 (by show (0 : Nat) < 3; omega) c4 HPR.out (by rw [show kn.flows[0].st = 1 from rfl, c6]; intro x hx; simp at hx; rcases hx with rfl | rfl | rfl | rfl <;> (show (1 : Nat) ≤ _; omega)) hpn
    rw [show kn.flows[0].st = 1 from rfl, c6] at h
    rw [show (lateAt [0, 1, 2] ((0 : Nat) : Int)) = 0 from rfl, show ([pl1, pl2, pl3, pl4] : List Plc).length = 4 from rfl] at h
    rw [show (kn.flows[0]'(by show (0 : Nat) < 3; omega)).body = flS.body from rfl, ins_s] at h
    exact h
  clear hE hb3 hrow hpn hpr x0 x1 x2 x3 cpl
  go_wp2_with (fail)
  refine cof.mono ?_
  rintro e w4 ⟨iv, rfl, hown, hb4⟩
  have K4 := hid (K3.out.keep hb4)
  have hin := own_ins hown (by show (5 : Nat) ≤ _; omega) (by intro x hx; simp at hx; rcases hx with rfl | rfl | rfl | rfl | rfl <;> decide)
  have Q4 := hid (KA.mk (w := w) (pb := w1.heap.size) (lb := w1.heap.size + 1) K4.out (HP4.out.keep hb4) hin (keep_row HL3.out hb4))
  have c9a := codecheck_ _ _ _ _ w4 Q4.out.pl Q4.out.ins
  rw [ck_s] at c9a
  obtain ⟨ia, ic, rfl, _⟩ := hin
  clear hown hb4 y0 y1 y2 y3 cof
  go_wp2_with (fail)
  refine c9a.mono ?_
  rintro e w5 ⟨rfl, hb5⟩
  have Q5 := hid (Q4.out.keep hb5)
  have c9b := codecheck_ [] [] _ _ w5 (PlR.nil w5) (InR.nil w5)
  rw [ck_n] at c9b
  clear hb5 c9a
  go_wp2_with (fail)
  refine c9b.mono ?_
  rintro e w6 ⟨rfl, hb6⟩
  have Q6 := hid (Q5.out.keep hb6)
  have hal6 := (Below.refl w6.heap.size w6).alloc (Nat.le_refl _) (.cells #[.int .u8 2, .int .i64 1, .int .i64 0, .int .u8 5, .int .i64 0, .int .i64 0] 38)
  have Q7 := hid (Q6.out.keep hal6)
  have c9c := codecheck_ [] [⟨2, 1, 0⟩, ⟨5, 0, 0⟩] (.slice none 0 0) _ _ (PlR.nil _) (InR.two ⟨2, 1, 0⟩ ⟨5, 0, 0⟩ (by show (2 : Nat) < 256; omega) (by show (5 : Nat) < 256; omega) (heap_alloc_new w6 (.cells #[.int .u8 2, .int .i64 1, .int .i64 0, .int .u8 5, .int .i64 0, .int .i64 0] 38)))
  rw [ck_b] at c9c
  clear hb6 c9b hal6
  go_wp2_with (fail)
  refine c9c.mono ?_
  rintro e w8 ⟨rfl, hb8⟩
  have Q8 := hid (Q7.out.keep hb8)
  obtain ⟨ja, jc, hj, _, hjc⟩ := Q8.out.ins
  injection hj with hj1 _ hj3
  subst hj1 hj3
  obtain ⟨gi, oi, rfl, hcc⟩ := hjc.resolve_left (by simp)
  have z3 := ((hcc 1 (by show (1 : Nat) < 5; omega)).2 0 (by omega)).trans (show _ = some (.int .u8 3) from rfl)
  have z4 := ((hcc 1 (by show (1 : Nat) < 5; omega)).2 1 (by omega)).trans (show _ = some (.int .i64 1) from rfl)
  have z5 := ((hcc 1 (by show (1 : Nat) < 5; omega)).2 2 (by omega)).trans (show _ = some (.int .i64 1) from rfl)
  have z6 := ((hcc 2 (by show (2 : Nat) < 5; omega)).2 0 (by omega)).trans (show _ = some (.int .u8 3) from rfl)
  have z7 := ((hcc 2 (by show (2 : Nat) < 5; omega)).2 1 (by omega)).trans (show _ = some (.int .i64 0) from rfl)
  have z8 := ((hcc 2 (by show (2 : Nat) < 5; omega)).2 2 (by omega)).trans (show _ = some (.int .i64 0) from rfl)
  have z12 := ((hcc 4 (by show (4 : Nat) < 5; omega)).2 0 (by omega)).trans (show _ = some (.int .u8 18) from rfl)
  have z13 := ((hcc 4 (by show (4 : Nat) < 5; omega)).2 1 (by omega)).trans (show _ = some (.int .i64 0) from rfl)
  have z14 := ((hcc 4 (by show (4 : Nat) < 5; omega)).2 2 (by omega)).trans (show _ = some (.int .i64 0) from rfl)
  simp only [Nat.add_zero] at z3 z6 z12
  clear hcc hjc hb8 c9c
  go_wp2_with (fail)
  go_ret
  exact ⟨rfl, Q8.out.K.below⟩
end Go.Proofs.YtdenddknbmiboaaDoor.Lex
namespace Go.Proofs.YtdenddknbmiboaaDoor.Lex
open Go.ChangeShapes Go.WideShapes Go.ChangeAt Go.RowKit Go.Joins
theorem cells25 : Tryd.prog.cellsOf 70 = 4 := by kernel_rfl
theorem cells22 : Tryd.prog.cellsOf 36 = 1 := by kernel_rfl
theorem cells2 : Tryd.prog.cellsOf 2 = 1 := by kernel_rfl
theorem cells23 : Tryd.prog.cellsOf 68 = 1 := by kernel_rfl
theorem bytes25 : Tryd.prog.bytesOf 70 = 56 := by kernel_rfl
theorem list4 {l : List Value} (h : l.length = 4) : ∃ a b c d, l = [a, b, c, d] := by match l, h with | [a, b, c, d], _ => exact ⟨a, b, c, d, rfl⟩
theorem all_mem {H : Type} {P : Program} {e : TypeId} : ∀ {l : List (DataW H)} {i : Nat} {d : DataW H}, l[i]? = some d → ∀ v ∈ d.weights P e, v ∈ DataW.weightsAll P e l
  | [], i, d, h => by simp at h
  | x :: l, 0, d, h => by simp at h; subst h; intro v hv; rw [DataW.weightsAll]; exact List.mem_append_left _ hv
  | x :: l, i + 1, d, h => by simp at h; intro v hv; rw [DataW.weightsAll]; exact List.mem_append_right _ (all_mem h v hv)
theorem add_off (b o n : Nat) : (⟨b, o, none⟩ : Addr).add n = ⟨b, o + n, none⟩ := by unfold Addr.add; split <;> simp_all
theorem cells4 {w : World} {a : Addr} {l : List Value} (h : w.cells? 0 a 4 = some l) : ∃ v0 v1 v2 v3, l = [v0, v1, v2, v3] ∧ w.cell? (a.add 0) = some v0 ∧ w.cell? (a.add 1) = some v1 ∧ w.cell? (a.add 2) = some v2 ∧ w.cell? (a.add 3) = some v3 := by
  unfold World.cells? at h
  rw [if_pos (Nat.zero_le _)] at h
  have hl : l.length = 4 := by have := Lib.mapM_length h; simpa using this
  obtain ⟨v0, v1, v2, v3, rfl⟩ := list4 hl
  have g : ∀ i, i < 4 → w.cell? (a.add i) = [v0, v1, v2, v3][i]? := fun i hi => by
    obtain ⟨b, hb, hf⟩ := Lib.mapM_at h i i (by simp [hi])
    rw [hf, hb]
  exact ⟨v0, v1, v2, v3, rfl, g 0 (by omega), g 1 (by omega), g 2 (by omega), g 3 (by omega)⟩
/-- What came in, as a tree. -/
theorem viewT {H : Type} {enc : TypeId × Value → H} {W : World} : ∀ (m fuel : Nat) (cs : List Value) (d : DataW H) (p : List MemPlace), fuel ≤ m → DataW.trod enc Tryd.prog W 0 (fun _ => true) true fuel 70 cs = some (d, p) → (∀ v ∈ d.weights Tryd.prog 70, v ≤ reachBytes) →
    ∃ (x : Ex) (s : Value), cs = [.int .u8 (x.op : Int), .int .i64 x.n, .string x.name, s] ∧ St W x s := by
  intro m
  induction m with
  | zero => intro fuel cs d p hm h; obtain rfl : fuel = 0 := by omega
            simp [DataW.trod] at h
  | succ m ih =>
    intro fuel cs d p hm h hw
    obtain ⟨xs, n, hn, hx, hl, hlen, hfs⟩ := DataW.trod_struct Tryd.underlying70 h
    rw [cells25] at hl
    obtain ⟨c0, c1, c2, c3, rfl⟩ := list4 hl
    match xs, hlen with
    | [y0, y1, y2, y3], _ =>
      have h0 : DataW.trod enc Tryd.prog W 0 (fun _ => true) true n 36 [c0] = some y0 := by simpa [cells22] using hfs 0 _ rfl
      have h1 : DataW.trod enc Tryd.prog W 0 (fun _ => true) true n 2 [c1] = some y1 := by simpa [cells2] using hfs 1 _ rfl
      have h2 : DataW.trod enc Tryd.prog W 0 (fun _ => true) true n 9 [c2] = some y2 := by simpa [cells9] using hfs 2 _ rfl
      have h3 : DataW.trod enc Tryd.prog W 0 (fun _ => true) true n 68 [c3] = some y3 := by simpa [cells23] using hfs 3 _ rfl
      obtain ⟨op, e0, _, w0⟩ := DataW.trod_int Tryd.underlying36 h0
      obtain ⟨k, e1, _, w1⟩ := DataW.trod_int Tryd.underlying2 h1
      obtain ⟨nm, e2, hy2, _⟩ := DataW.trod_string Tryd.underlying9 h2
      simp only [List.cons.injEq, and_true] at e0 e1 e2
      subst e0 e1 e2
      simp only [Prod.mk.injEq] at hx
      obtain ⟨rfl, _⟩ := hx
      have hw2 : ∀ v ∈ y2.1.weights Tryd.prog 9, v ≤ reachBytes := fun v hv => hw v (by simp [DataW.weights, Tryd.underlying70, DataW.weightsEach]; right; right; left; exact hv)
      have hw3 : ∀ v ∈ y3.1.weights Tryd.prog 68, v ≤ reachBytes := fun v hv => hw v (by simp [DataW.weights, Tryd.underlying70, DataW.weightsEach]; right; right; right; exact hv)
      have hnm : nm.size ≤ 140737488355328 := by
        have := hw2 nm.data.toList.length (by rw [hy2]; simp [DataW.weights])
        rw [← Lib.size_eq] at this
        unfold reachBytes at this
        omega
      have hop : 0 ≤ op ∧ op < 256 := by
        simp [Lit.wf, IntKind.min, IntKind.max, IntKind.signed, IntKind.bits] at w0
        omega
      have hk : -9223372036854775808 ≤ k ∧ k ≤ 9223372036854775807 := by
        simp [Lit.wf, IntKind.min, IntKind.max, IntKind.signed, IntKind.bits] at w1
        omega
      obtain ⟨u, rfl⟩ : ∃ u : Nat, op = (u : Int) := ⟨op.toNat, by omega⟩
      rcases DataW.trod_slice Tryd.underlying68 h3 with ⟨hc, _⟩ | ⟨a, len, cap, elems, rest, n', hn', hc, hy3, hb, hlc, hcm, hel, helem, hsp, _⟩
      · simp only [List.cons.injEq, and_true] at hc
        subst hc
        exact ⟨.mk u k nm [], .slice none 0 0, rfl, St.intro (.mk u k nm []) none 0 (fun _ => .slice none 0 0) (by show u < 256; omega) hk hnm (by show 0 ≤ _; omega) (Nat.le_refl _) (.inl rfl) (fun i hi => by cases hi)⟩
      · simp only [List.cons.injEq, and_true] at hc
        subst hc
        rw [cells25] at helem
        have hwl : (len + rest.length) * 56 ≤ reachBytes := by
          have := hw3 ((elems.map (·.1)).length + (rest.map (·.1)).length |> (· * 56)) (by rw [hy3]; simp [DataW.weights, Tryd.underlying68, bytes25])
          simpa [hel] using this
        have hlen2 : len ≤ 2513169434843 := by unfold reachBytes at hwl; omega
        have each : ∀ i, ∃ q : Ex × Value, i < len → (∃ v0 v1 v2 v3, W.cell? ((a.add (i * 4)).add 0) = some v0 ∧ W.cell? ((a.add (i * 4)).add 1) = some v1 ∧ W.cell? ((a.add (i * 4)).add 2) = some v2 ∧ W.cell? ((a.add (i * 4)).add 3) = some v3 ∧ [v0, v1, v2, v3] = [.int .u8 (q.1.op : Int), .int .i64 q.1.n, .string q.1.name, q.2]) ∧ St W q.1 q.2 := by
          intro i
          by_cases hi : i < len
          · have he := helem i hi
            rw [List.getElem?_eq_getElem (by omega)] at he
            obtain ⟨l, hl1, hl2⟩ := Option.bind_eq_some_iff.1 he
            obtain ⟨v0, v1, v2, v3, rfl, g0, g1, g2, g3⟩ := cells4 hl1
            obtain ⟨x, s, ex, hs⟩ := ih n' _ _ _ (by omega) (show DataW.trod enc Tryd.prog W 0 (fun _ => true) true n' 70 [v0, v1, v2, v3] = some ((elems[i]'(by omega)).1, (elems[i]'(by omega)).2) from hl2) (fun v hv => hw3 v (by
              rw [hy3]
              simp only [DataW.weights, Tryd.underlying68]
              refine List.mem_cons_of_mem _ (List.mem_append_left _ (all_mem (i := i) (d := (elems[i]'(by omega)).1) ?_ v hv))
              rw [List.getElem?_map, List.getElem?_eq_getElem (by omega)]
              rfl))
            exact ⟨(x, s), fun _ => ⟨⟨v0, v1, v2, v3, g0, g1, g2, g3, ex⟩, hs⟩⟩
          · exact ⟨(.mk 0 0 ByteArray.empty [], .slice none 0 0), fun h => absurd h hi⟩
        obtain ⟨f, hf⟩ := Classical.axiomOfChoice each
        have hargs : ((List.range len).map fun i => (f i).1).length = len := by simp
        have hget : ∀ i (hi : i < ((List.range len).map fun i => (f i).1).length), ((List.range len).map fun i => (f i).1)[i] = (f i).1 := fun i hi => by simp
        refine ⟨.mk u k nm ((List.range len).map fun i => (f i).1), .slice (some a) len cap, rfl, ?_⟩
        have key : St W (.mk u k nm ((List.range len).map fun i => (f i).1)) (.slice (some a) ((List.range len).map fun i => (f i).1).length cap) := by
          refine St.intro (.mk u k nm ((List.range len).map fun i => (f i).1)) (some a) cap (fun i => (f i).2) (by show u < 256; omega) hk hnm (by show ((List.range len).map fun i => (f i).1).length ≤ _; omega) (by show ((List.range len).map fun i => (f i).1).length ≤ _; omega) ?_ (fun i hi => ?_)
          · by_cases h00 : len = 0
            · exact .inl (by show ((List.range len).map fun i => (f i).1).length = 0; omega)
            · right
              obtain ⟨b, o, sp⟩ := a
              have hspt : sp = none := by
                obtain ⟨⟨v0, _, _, _, g0, _⟩, _⟩ := hf 0 (by omega)
                simpa [Addr.add] using World.cell?_spot g0
              subst hspt
              refine ⟨b, o, rfl, fun i hi => ?_⟩
              have hi' : i < len := by have : i < ((List.range len).map fun i => (f i).1).length := hi; omega
              obtain ⟨⟨v0, v1, v2, v3, g0, g1, g2, g3, ex⟩, _⟩ := hf i hi'
              simp only [List.cons.injEq, and_true] at ex
              obtain ⟨rfl, rfl, rfl, rfl⟩ := ex
              rw [add_off, add_off] at g0 g1 g2 g3
              have e : (Ex.mk u k nm ((List.range len).map fun i => (f i).1)).args[i] = (f i).1 := hget i hi
              rw [e]
              exact ⟨g0, g1, g2, g3⟩
          · have hi' : i < len := by have : i < ((List.range len).map fun i => (f i).1).length := hi; omega
            have e : (Ex.mk u k nm ((List.range len).map fun i => (f i).1)).args[i] = (f i).1 := hget i hi
            rw [e]
            exact (hf i hi').2
        rwa [hargs] at key
theorem array4 {c : Array Value} (h : c.size = 4) : ∃ a b d e, c = #[a, b, d, e] := by
  obtain ⟨l⟩ := c
  obtain ⟨a, b, d, e, rfl⟩ := list4 (by simpa using h)
  exact ⟨a, b, d, e, rfl⟩
set_option maxRecDepth 100000 in
/-- An api.Expr that came in, opened once. -/
theorem viewE {H : Type} {enc : TypeId × Value → H} {W : World} {r : Reach} {b0 : Nat} {v : Value} {d : DataW H} {p : List MemPlace} {ts : List TypeId} {ds : List (DataW H)} {j : Nat}
    (hv : Value.okWide Tryd.prog W r b0 70 v) (h : DataW.Trod enc Tryd.prog W 0 (fun _ => true) true 70 v d p)
    (hsz : (DataW.weightsEach Tryd.prog ts ds).all (· ≤ reachBytes) = true) (ht : ts[j]? = some 70) (hj : ds[j]? = some d) : ∃ (x : Ex) (s : Value), v = exV x s ∧ St W x s := by
  obtain ⟨cs, rfl, hz⟩ := okWide_struct Tryd.underlying70 hv
  obtain ⟨c0, c1, c2, c3, rfl⟩ := array4 (by rw [hz]; exact cells25)
  obtain ⟨fuel, hf⟩ := h
  obtain ⟨x, s, e, hs⟩ := viewT fuel fuel _ d p (Nat.le_refl _) hf (fun v hv => by
    have := List.all_eq_true.1 hsz _ (DataW.weights_mem_each ht hj v hv)
    simpa using this)
  have e' : [c0, c1, c2, c3] = [.int .u8 (x.op : Int), .int .i64 x.n, .string x.name, s] := by simpa [Value.cells] using e
  simp only [List.cons.injEq, and_true] at e'
  obtain ⟨rfl, rfl, rfl, rfl⟩ := e'
  exact ⟨x, _, rfl, hs⟩
end Go.Proofs.YtdenddknbmiboaaDoor.Lex
