/-
  The document's Check of starts.
  What the document's Check of starts answers is what starts.Check answers.
  Whether each flow of any program has a value from the beginning on is as the document says: the walk of the law.
-/
import Derived.Test.YtejacmgppnafcaaDoorG8
import Derived.Test.YtejacmgppnafcaaDoorG10
import Derived.Test.YtejacmgppnafcaaDoorG5
import Derived.Test.YtejacmgppnafcaaDoorG6
import Derived.Test.YtejacmgppnafcaaDoorG7
namespace Go.Proofs.YtejacmgppnafcaaDoor.Lex
open Go.ChangeShapes Go.WideShapes Go.ChangeAt Go.RowKit Go.Joins
/-- Has a flow one, by Of? -/
def rflS (p : Pg) (f : Fl) : Bool := decide ((ofV p f.body).1 = 0)
/-- What the document's Check answers. -/
def rckV (p : Pg) : Int := if nmErr p = 0 then (if p.flows.all (rflS p) then 0 else 9) else nmErr p
set_option maxRecDepth 100000 in
set_option maxHeartbeats 4000000 in
theorem rstarts_check (p : Pg) (w : World) (A B C : Value) (hP : PgAt w p A B C) (hR : TabR w) (hJ : TabJ w) : Calls Tryd.prog 18 #[pgV p A B C] w fun e w' => e = .returned (.int .i64 (rckV p)) ∧ Below w.heap.size w w' := by
  have X0 := hid (FV.new hP hR hJ)
  obtain ⟨ao, cap, sl0, rfl, _⟩ := hP.flows
  clear hP hR hJ
  go_enter Tryd.func18, Tryd.ntmps18
  go_wp2_with (fail)
  refine (rnames p _ _ _ _ X0.out.P X0.out.R X0.out.J).mono ?_
  rintro e w1 ⟨rfl, hb1⟩
  have X2 := hid (X0.out.keep hb1)
  clear hb1 X0
  by_cases hn : nmErr p = 0
  · have HOV : Hid (rckV p = if p.flows.all (rflS p) then 0 else 9) := hid (by unfold rckV; rw [if_pos hn])
    rw [hn]
    clear hn
    go_wp2_with (fail)
    obtain ⟨ao', cap', sl, heq, hlen, _, hok, hc, hs⟩ := X2.out.P.flows
    obtain ⟨rfl, rfl⟩ : ao = ao' ∧ cap = cap' := by simpa using heq
    have HC := hid hc
    have HS := hid hs
    clear hc hs hok heq
    go_loopw [4] (fun i wr => ∃ r : Nat, r ≤ p.flows.length ∧ i = .int .i64 (r : Int) ∧ Hid (∀ z ∈ p.flows.take r, rflS p z = true) ∧ Hid (Below w1.heap.size w1 wr)) (fun i _ => p.flows.length - (intOf i).toNat)
    case atStart => exact ⟨0, Nat.zero_le _, rfl, hid (by simp), hid (Below.refl _ _)⟩
    case round =>
      obtain ⟨r, hr, rfl, HE, hB⟩ := hrel
      have FX := hid (X2.out.keep hB.out)
      obtain ⟨s0, s1, s2, s3⟩ := row4 FX.out.row
      by_cases hrl : r < p.flows.length
      · have hrl' : (r : Int) < (p.flows.length : Int) := by omega
        have hr0 : (0 : Int) ≤ (r : Int) := by omega
        obtain ⟨gb, go, rfl, hcc⟩ := HC.out.resolve_left (by omega)
        obtain ⟨y0, y1, y2, y3, y4, y5, y6, y7⟩ := (hcc r hrl).keep hB.out
        have HTK := hid (List.take_succ_eq_append_getElem hrl)
        have HMG := hid (List.getElem_mem hrl)
        have HST := hid ((HS.out r hrl).keep hB.out)
        clear hcc
        generalize sl r = sv at *
        generalize hy : p.flows[r] = y at *
        clear hy
        obtain ⟨sa, sc, _, rfl, _⟩ := HST.out.out
        have hdr := (Below.refl wr.heap.size wr).drew
        have c14 := rof_ p y.body _ _ _ _ _ (FX.out.P.keep hdr) (HST.out.keep hdr) (FX.out.R.below hdr) (FX.out.J.below hdr)
        clear hdr
        generalize hoo : ofV p y.body = ov at *
        have HOO := hid hoo
        clear hoo
        obtain ⟨o1, o2⟩ := ov
        go_wp2_with (fail)
        refine wp_region_held_drew (S := fun W => W.cell? ⟨w.heap.size, 0, none⟩ = some (.int .i64 p.st) ∧ W.cell? ⟨w.heap.size, 1, none⟩ = some (A) ∧ W.cell? ⟨w.heap.size, 2, none⟩ = some ((.slice (some ⟨gb, go, none⟩) p.flows.length cap)) ∧ W.cell? ⟨w.heap.size, 3, none⟩ = some (C) ∧ W.cell? ⟨gb, go + r * 8, none⟩ = some (.string y.name) ∧ W.cell? ⟨gb, go + r * 8 + 1, none⟩ = some (.int .u8 (y.ty : Int)) ∧ W.cell? ⟨gb, go + r * 8 + 2, none⟩ = some (.int .i64 y.st) ∧ W.cell? ⟨gb, go + r * 8 + 3, none⟩ = some (.int .i64 y.df) ∧ W.cell? ⟨gb, go + r * 8 + 4, none⟩ = some (.int .u8 (y.body.op : Int)) ∧ W.cell? ⟨gb, go + r * 8 + 5, none⟩ = some (.int .i64 y.body.n) ∧ W.cell? ⟨gb, go + r * 8 + 6, none⟩ = some (.string y.body.name) ∧ W.cell? ⟨gb, go + r * 8 + 7, none⟩ = some (.slice sa y.body.args.length sc)) (by kernel_rfl) ?_ (fun hHeld => ?_)
        · exact ⟨s0, s1, s2, s3, y0, y1, y2, y3, y4, y5, y6, y7⟩
        refine wpAnyH_take (i := 0) (oi := { dst := some 20, op := Go.Op.load 26 (Go.Operand.tmp 1), type := 26, pos := _, after := #[], guard := none }) (v := ?_) rfl (by kernel_rfl) (by kernel_rfl) (by kernel_rfl) (fun _ _ _ h => h) (Or.inl ⟨by rfl, ?_⟩) (by assumption) ?_
        rotate_left
        · intro w hSw; (try dsimp only at hSw); go_simp <;> first | with_reducible rfl | (rw [if_neg (by first | omega | (simp only [ByteArray.size_append] at *; omega))])
        simp only [Act.put, List.setIfInBounds_toArray, List.set_cons_zero, List.set_cons_succ]
        refine wpAnyH_take (i := 1) (oi := { dst := some 21, op := Go.Op.fieldAddr 26 (Go.Operand.tmp 1) 2, type := 0, pos := _, after := #[], guard := none }) (v := ?_) rfl (by kernel_rfl) (by kernel_rfl) (by kernel_rfl) (fun _ _ _ h => h) (Or.inl ⟨by rfl, ?_⟩) (by assumption) ?_
        rotate_left
        · intro w hSw; (try dsimp only at hSw); go_simp <;> first | with_reducible rfl | (rw [if_neg (by first | omega | (simp only [ByteArray.size_append] at *; omega))])
        simp only [Act.put, List.setIfInBounds_toArray, List.set_cons_zero, List.set_cons_succ]
        refine wpAnyH_take (i := 2) (oi := { dst := some 22, op := Go.Op.load 23 (Go.Operand.tmp 21), type := 23, pos := _, after := #[{ on := 1, ground := Go.Ground.data }], guard := none }) (v := ?_) rfl (by kernel_rfl) (by kernel_rfl) (by kernel_rfl) (fun _ _ _ h => h) (Or.inl ⟨by rfl, ?_⟩) (by assumption) ?_
        rotate_left
        · intro w hSw; (try dsimp only at hSw); go_simp <;> first | with_reducible rfl | (rw [if_neg (by first | omega | (simp only [ByteArray.size_append] at *; omega))])
        simp only [Act.put, List.setIfInBounds_toArray, List.set_cons_zero, List.set_cons_succ]
        refine wpAnyH_take (i := 3) (oi := { dst := some 23, op := Go.Op.move (Go.Operand.tmp 4), type := 3, pos := _, after := #[], guard := none }) (v := ?_) rfl (by kernel_rfl) (by kernel_rfl) (by kernel_rfl) (fun _ _ _ h => h) (Or.inl ⟨by rfl, ?_⟩) (by assumption) ?_
        rotate_left
        · intro w hSw; (try dsimp only at hSw); go_simp <;> first | with_reducible rfl | (rw [if_neg (by first | omega | (simp only [ByteArray.size_append] at *; omega))])
        simp only [Act.put, List.setIfInBounds_toArray, List.set_cons_zero, List.set_cons_succ]
        refine wpAnyH_take (i := 4) (oi := { dst := some 24, op := Go.Op.indexAddr 23 (Go.Operand.tmp 22) (Go.Operand.tmp 23), type := 0, pos := _, after := #[{ on := 2, ground := Go.Ground.data }, { on := 3, ground := Go.Ground.data }], guard := none }) (v := ?_) rfl (by kernel_rfl) (by kernel_rfl) (by kernel_rfl) (fun _ _ _ h => h) (Or.inl ⟨by rfl, ?_⟩) (by assumption) ?_
        rotate_left
        · intro w hSw; (try dsimp only at hSw); go_simp <;> first | with_reducible rfl | (rw [if_neg (by first | omega | (simp only [ByteArray.size_append] at *; omega))])
        simp only [Act.put, List.setIfInBounds_toArray, List.set_cons_zero, List.set_cons_succ]
        refine wpAnyH_take (i := 5) (oi := { dst := some 25, op := Go.Op.fieldAddr 53 (Go.Operand.tmp 24) 4, type := 0, pos := _, after := #[{ on := 4, ground := Go.Ground.data }], guard := none }) (v := ?_) rfl (by kernel_rfl) (by kernel_rfl) (by kernel_rfl) (fun _ _ _ h => h) (Or.inl ⟨by rfl, ?_⟩) (by assumption) ?_
        rotate_left
        · intro w hSw; (try dsimp only at hSw); go_simp <;> first | with_reducible rfl | (rw [if_neg (by first | omega | (simp only [ByteArray.size_append] at *; omega))])
        simp only [Act.put, List.setIfInBounds_toArray, List.set_cons_zero, List.set_cons_succ]
        refine wpAnyH_take (i := 6) (oi := { dst := some 26, op := Go.Op.load 30 (Go.Operand.tmp 25), type := 30, pos := _, after := #[{ on := 5, ground := Go.Ground.data }], guard := none }) (v := ?_) rfl (by kernel_rfl) (by kernel_rfl) (by kernel_rfl) (fun _ _ _ h => h) (Or.inl ⟨by rfl, ?_⟩) (by assumption) ?_
        rotate_left
        · intro w hSw; (try dsimp only at hSw); go_simp <;> first | with_reducible rfl | (rw [if_neg (by first | omega | (simp only [ByteArray.size_append] at *; omega))])
        simp only [Act.put, List.setIfInBounds_toArray, List.set_cons_zero, List.set_cons_succ]
        refine wpAnyH_ready (rs := [7]) (by kernel_rfl) (by simp) ?_
        refine AllReadyH.cons (o := { dst := some 27, op := Go.Op.call { callee := Go.Callee.value (Go.Operand.func 14), args := #[Go.Operand.tmp 20, Go.Operand.tmp 26], argTypes := #[26, 30] }, type := 36, pos := _, after := #[{ on := 0, ground := Go.Ground.data }, { on := 6, ground := Go.Ground.data }], guard := none }) rfl (fun K hK => ?_) AllReadyH.nil
        go_simp
        refine c14.mono ?_
        rintro e w3 ⟨rfl, hb3'⟩
        have hb3 : Below wr.heap.size wr w3 := (Below.refl _ _).drew.trans (hb3'.mono (by simp))
        have X3 := hid (FX.out.keep hb3)
        obtain ⟨t0, t1, t2, t3⟩ := row4 X3.out.row
        have x0 := cell_kept y0 hb3
        have x1 := cell_kept y1 hb3
        have x2 := cell_kept y2 hb3
        have x3 := cell_kept y3 hb3
        have x4 := cell_kept y4 hb3
        have x5 := cell_kept y5 hb3
        have x6 := cell_kept y6 hb3
        have x7 := cell_kept y7 hb3
        have HB3 := hid (hB.out.trans (hb3.mono hB.out.size))
        clear hb3 hb3'
        go_wp2_with fail
        refine hK.out _ _ ?_ (fun hHeld1 => ?_)
        · exact ⟨t0, t1, t2, t3, x0, x1, x2, x3, x4, x5, x6, x7⟩
        clear hK K
        refine wpAnyH_take (i := 8) (oi := { dst := some 19, op := Go.Op.move (Go.Operand.tmp 27), type := 36, pos := _, after := #[{ on := 7, ground := Go.Ground.data }], guard := none }) (v := ?_) rfl (by kernel_rfl) (by kernel_rfl) (by kernel_rfl) (fun _ _ _ h => h) (Or.inl ⟨by rfl, ?_⟩) (by assumption) ?_
        rotate_left
        · intro w hSw; (try dsimp only at hSw); go_simp <;> first | with_reducible rfl | (rw [if_neg (by first | omega | (simp only [ByteArray.size_append] at *; omega))])
        simp only [Act.put, List.setIfInBounds_toArray, List.set_cons_zero, List.set_cons_succ]
        refine wpAnyH_take (i := 9) (oi := { dst := some 28, op := Go.Op.extract (Go.Operand.tmp 19) 0, type := 3, pos := _, after := #[{ on := 8, ground := Go.Ground.data }], guard := none }) (v := ?_) rfl (by kernel_rfl) (by kernel_rfl) (by kernel_rfl) (fun _ _ _ h => h) (Or.inl ⟨by rfl, ?_⟩) (by assumption) ?_
        rotate_left
        · intro w hSw; (try dsimp only at hSw); go_simp <;> first | with_reducible rfl | (rw [if_neg (by first | omega | (simp only [ByteArray.size_append] at *; omega))])
        simp only [Act.put, List.setIfInBounds_toArray, List.set_cons_zero, List.set_cons_succ]
        refine wpAnyH_take (i := 10) (oi := { dst := some 29, op := Go.Op.extract (Go.Operand.tmp 19) 1, type := 35, pos := _, after := #[{ on := 8, ground := Go.Ground.data }, { on := 11, ground := Go.Ground.gcOnly Go.Departure.lateStores }], guard := none }) (v := ?_) rfl (by kernel_rfl) (by kernel_rfl) (by kernel_rfl) (fun _ _ _ h => h) (Or.inl ⟨by rfl, ?_⟩) (by assumption) ?_
        rotate_left
        · intro w hSw; (try dsimp only at hSw); go_simp <;> first | with_reducible rfl | (rw [if_neg (by first | omega | (simp only [ByteArray.size_append] at *; omega))])
        simp only [Act.put, List.setIfInBounds_toArray, List.set_cons_zero, List.set_cons_succ]
        refine wpAnyH_take (i := 11) (oi := { dst := some 5, op := Go.Op.assign (Go.Operand.tmp 28), type := 3, pos := _, after := #[{ on := 9, ground := Go.Ground.data }, { on := 7, ground := Go.Ground.chain }, { on := 0, ground := Go.Ground.phase }, { on := 1, ground := Go.Ground.phase }, { on := 2, ground := Go.Ground.phase }, { on := 3, ground := Go.Ground.phase }, { on := 4, ground := Go.Ground.phase }, { on := 5, ground := Go.Ground.phase }, { on := 6, ground := Go.Ground.phase }, { on := 7, ground := Go.Ground.phase }, { on := 8, ground := Go.Ground.phase }, { on := 9, ground := Go.Ground.phase }, { on := 10, ground := Go.Ground.textOnly Go.Departure.lateStores }], guard := none }) (v := ?_) rfl (by kernel_rfl) (by kernel_rfl) (by kernel_rfl) (fun _ _ _ h => h) (Or.inl ⟨by rfl, ?_⟩) (by assumption) ?_
        rotate_left
        · intro w hSw; (try dsimp only at hSw); go_simp <;> first | with_reducible rfl | (rw [if_neg (by first | omega | (simp only [ByteArray.size_append] at *; omega))])
        simp only [Act.put, List.setIfInBounds_toArray, List.set_cons_zero, List.set_cons_succ]
        refine wpAnyH_take (i := 12) (oi := { dst := some 6, op := Go.Op.assign (Go.Operand.tmp 29), type := 35, pos := _, after := #[{ on := 10, ground := Go.Ground.data }, { on := 11, ground := Go.Ground.chain }, { on := 0, ground := Go.Ground.phase }, { on := 1, ground := Go.Ground.phase }, { on := 2, ground := Go.Ground.phase }, { on := 3, ground := Go.Ground.phase }, { on := 4, ground := Go.Ground.phase }, { on := 5, ground := Go.Ground.phase }, { on := 6, ground := Go.Ground.phase }, { on := 7, ground := Go.Ground.phase }, { on := 8, ground := Go.Ground.phase }, { on := 9, ground := Go.Ground.phase }, { on := 10, ground := Go.Ground.phase }, { on := 11, ground := Go.Ground.phase }], guard := none }) (v := ?_) rfl (by kernel_rfl) (by kernel_rfl) (by kernel_rfl) (fun _ _ _ h => h) (Or.inl ⟨by rfl, ?_⟩) (by assumption) ?_
        rotate_left
        · intro w hSw; (try dsimp only at hSw); go_simp <;> first | with_reducible rfl | (rw [if_neg (by first | omega | (simp only [ByteArray.size_append] at *; omega))])
        simp only [Act.put, List.setIfInBounds_toArray, List.set_cons_zero, List.set_cons_succ]
        refine wpAnyH_done (by kernel_rfl) ?_ _
        clear s0 s1 s2 s3 t0 t1 t2 t3 x0 x1 x2 x3 x4 x5 x6 x7 y0 y1 y2 y3 y4 y5 y6 y7 c14
        by_cases ht : o1 = 0
        · have HE2 : Hid (∀ q ∈ p.flows.take (r + 1), rflS p q = true) := hid (fun q hq => by
            rw [HTK.out] at hq
            rcases List.mem_append.1 hq with h | h
            · exact HE.out q h
            · rw [List.mem_singleton.1 h]; unfold rflS; rw [HOO.out, ht]; rfl)
          subst ht
          go_wp2_with (fail)
          go_roundw
          case rel => exact ⟨r + 1, by omega, by go_num, HE2, HB3⟩
          case measure => simp [intOf]; omega
        · have ht' : (0 : Int) < (o1 : Int) := by omega
          have HV : Hid (rckV p = 9) := hid (by rw [HOV.out, if_neg]; intro h; have := List.all_eq_true.1 h y HMG.out; unfold rflS at this; rw [HOO.out] at this; simp [ht] at this)
          clear ht
          go_wp2_with (fail)
          go_ret
          exact ⟨by rw [HV.out]; rfl, X3.out.below⟩
      · have hrl' : ¬ (r : Int) < (p.flows.length : Int) := by omega
        obtain rfl : r = p.flows.length := by omega
        have HV : Hid (rckV p = 0) := hid (by rw [HOV.out, if_pos]; exact List.all_eq_true.2 (fun q hq => HE.out q (by rw [List.take_length]; exact hq)))
        go_wp2_with (fail)
        go_ret
        exact ⟨by rw [HV.out]; rfl, FX.out.below⟩
  · have HV : Hid (rckV p = nmErr p) := hid (by unfold rckV; rw [if_neg hn])
    generalize nmErr p = ne at *
    go_wp2_with (fail)
    go_ret
    exact ⟨by rw [HV.out]; rfl, X2.out.below⟩
end Go.Proofs.YtejacmgppnafcaaDoor.Lex
namespace Go.Proofs.YtejacmgppnafcaaDoor.Lex
theorem nmErr_nm {p : Pg} (h : nmErr p = 0) : nmOk p = true := by
  have hp := nmErr_ok h
  unfold nmErr at h
  rw [if_pos hp] at h
  by_cases hq : nmOk p = true
  · exact hq
  · rw [if_neg hq] at h; omega
theorem asks_ok {p : Pg} (h : nmOk p = true) {f : Fl} (hf : f ∈ p.flows) : asksAll p f.body = true := by
  unfold asksAll
  refine List.all_eq_true.2 (fun r hr => ?_)
  obtain ⟨x, hx⟩ := find_asked_ok h (s := r.1) (by
    unfold askedL asksOf
    exact List.mem_flatMap.2 ⟨f, hf, List.mem_map.2 ⟨r, hr, rfl⟩⟩)
  rw [hx]; rfl
theorem of_st {p : Pg} (h : nmErr p = 0) {f : Fl} (hf : f ∈ p.flows) : (ofV p f.body).1 = stE f.body := by
  have h1 := pgOk_chk (nmErr_ok h) f hf
  have h2 := asks_ok (nmErr_nm h) hf
  unfold ofV
  rw [if_neg (by rw [h1]; simp), if_neg (by rw [h2]; simp)]
theorem rck_eq (p : Pg) : rckV p = ckV p := by
  unfold rckV ckV
  by_cases h : nmErr p = 0
  · rw [if_pos h, if_pos h]
    have e : p.flows.all (rflS p) = p.flows.all flS := by
      rw [Bool.eq_iff_iff, List.all_eq_true, List.all_eq_true]
      constructor
      · intro g f hf; have := g f hf; unfold rflS at this; rw [of_st h hf] at this; exact this
      · intro g f hf; have := g f hf; unfold rflS; rw [of_st h hf]; exact this
    rw [e]
  · rw [if_neg h, if_neg h]
end Go.Proofs.YtejacmgppnafcaaDoor.Lex
namespace Go.Proofs.YtejacmgppnafcaaDoor.Lex
open Go.ChangeShapes Go.WideShapes Go.ChangeAt Go.RowKit Go.Shelf
set_option maxRecDepth 100000 in
set_option maxHeartbeats 4000000 in
theorem walk4 (p : Pg) (w : World) (a b c : Value) (hP : PgAt w p a b c) (hR : TabR w) (hJ : TabJ w) : Calls Tryd.prog 4 #[pgV p a b c] w fun e w' => e = .returned (.bool true) ∧ Below w.heap.size w w' := by
  obtain ⟨a0, a1, rfl, _⟩ := hP.ins
  obtain ⟨b0, b1, sl, rfl, _⟩ := hP.flows
  obtain ⟨c0, c1, rfl, _⟩ := hP.outs
  have F0 := hid (FV.new hP hR hJ)
  have c8 := great p _ _ _ _ F0.out.P
  clear hP hR hJ
  go_enter Tryd.func4, Tryd.ntmps4
  go_wp2_with (fail)
  refine c8.mono ?_
  rintro e w2 ⟨⟨g, rfl, hg⟩, hb2⟩
  have F2 := hid (F0.out.keep hb2)
  obtain ⟨p0, p1, p2, p3⟩ := row4 F2.out.row
  clear hb2 F0 hg c8
  cases g with
  | true =>
    have hB := F2.out.below
    go_wp2_with (fail)
    go_ret
    exact ⟨rfl, hB⟩
  | false =>
    go_wp2_with (fail)
    refine (twin_prog p _ _ _ _ F2.out.P).mono ?_
    rintro e w9 ⟨a', b', c', rfl, hT, hb9⟩
    obtain ⟨ib, ic, rfl, _⟩ := id hT.ins
    obtain ⟨fb, fc, _, rfl, _⟩ := id hT.flows
    obtain ⟨ob, oc, rfl, _⟩ := id hT.outs
    have F9 := hid (F2.out.keep hb9)
    have BA := hid ((Below.refl w9.heap.size w9).alloc (Nat.le_refl _) (.cells #[.int .i64 p.st, .slice (some ⟨ib, 0, none⟩) p.ins.length ic, .slice (some ⟨fb, 0, none⟩) p.flows.length fc, .slice (some ⟨ob, 0, none⟩) p.outs.length oc] 26))
    have T0 := hid (hT.keep BA.out)
    have G0 := hid (F9.out.keep BA.out)
    have K0 := hid (heap_alloc_new w9 (.cells #[.int .i64 p.st, .slice (some ⟨ib, 0, none⟩) p.ins.length ic, .slice (some ⟨fb, 0, none⟩) p.flows.length fc, .slice (some ⟨ob, 0, none⟩) p.outs.length oc] 26))
    clear hT hb9 p0 p1 p2 p3 F2
    obtain ⟨s0, s1, s2, s3⟩ := row4 G0.out.row
    obtain ⟨q0, q1, q2, q3⟩ := row4 K0.out
    go_wp2_with (fail)
    generalize w9.alloc (.cells #[.int .i64 p.st, .slice (some ⟨ib, 0, none⟩) p.ins.length ic, .slice (some ⟨fb, 0, none⟩) p.flows.length fc, .slice (some ⟨ob, 0, none⟩) p.outs.length oc] 26) = W9 at *
    have c10 := (starts_check p _ _ _ _ (T0.out.at.keep (Below.refl _ _).drew) (G0.out.R.below (Below.refl _ _).drew) (G0.out.J.below (Below.refl _ _).drew))
    have hee : (ckV p == ckV p) = true := by simp
    refine wp_region_held_drew (S := fun W => W.cell? ⟨w.heap.size, 0, none⟩ = some (.int .i64 p.st) ∧ W.cell? ⟨w.heap.size, 1, none⟩ = some (.slice a0 p.ins.length a1) ∧ W.cell? ⟨w.heap.size, 2, none⟩ = some (.slice b0 p.flows.length b1) ∧ W.cell? ⟨w.heap.size, 3, none⟩ = some (.slice c0 p.outs.length c1) ∧ W.cell? ⟨w9.heap.size, 0, none⟩ = some (.int .i64 p.st) ∧ W.cell? ⟨w9.heap.size, 1, none⟩ = some (.slice (some ⟨ib, 0, none⟩) p.ins.length ic) ∧ W.cell? ⟨w9.heap.size, 2, none⟩ = some (.slice (some ⟨fb, 0, none⟩) p.flows.length fc) ∧ W.cell? ⟨w9.heap.size, 3, none⟩ = some (.slice (some ⟨ob, 0, none⟩) p.outs.length oc)) (by kernel_rfl) ?_ (fun hHeld => ?_)
    · exact ⟨s0, s1, s2, s3, q0, q1, q2, q3⟩
    refine wpAnyH_take (i := 0) (oi := { dst := some 8, op := Go.Op.load 26 (Go.Operand.tmp 3), type := 26, pos := _, after := #[], guard := none }) (v := ?_) rfl (by kernel_rfl) (by kernel_rfl) (by kernel_rfl) (fun _ _ _ h => h) (Or.inl ⟨by rfl, ?_⟩) (by assumption) ?_
    rotate_left
    · intro w hSw; (try dsimp only at hSw); go_simp <;> first | with_reducible rfl | (rw [if_neg (by first | omega | (simp only [ByteArray.size_append] at *; omega))])
    simp only [Act.put, List.setIfInBounds_toArray, List.set_cons_zero, List.set_cons_succ]
    refine wpAnyH_take (i := 2) (oi := { dst := some 10, op := Go.Op.load 26 (Go.Operand.tmp 1), type := 26, pos := _, after := #[], guard := none }) (v := ?_) rfl (by kernel_rfl) (by kernel_rfl) (by kernel_rfl) (fun _ _ _ h => h) (Or.inl ⟨by rfl, ?_⟩) (by assumption) ?_
    rotate_left
    · intro w hSw; (try dsimp only at hSw); go_simp <;> first | with_reducible rfl | (rw [if_neg (by first | omega | (simp only [ByteArray.size_append] at *; omega))])
    simp only [Act.put, List.setIfInBounds_toArray, List.set_cons_zero, List.set_cons_succ]
    refine wpAnyH_ready (rs := [1]) (by kernel_rfl) (by simp) ?_
    refine AllReadyH.cons (o := { dst := some 9, op := Go.Op.call { callee := Go.Callee.value (Go.Operand.func 17), args := #[Go.Operand.tmp 8], argTypes := #[26] }, type := 35, pos := _, after := #[{ on := 0, ground := Go.Ground.data }], guard := none }) rfl (fun K hK => ?_) AllReadyH.nil
    go_simp
    refine c10.mono ?_
    rintro e v1 ⟨rfl, hb1⟩
    have G1 := hid (G0.out.keep ((Below.refl _ _).drew.trans (hb1.mono (by simp))))
    have T1 := hid (T0.out.keep ((Below.refl _ _).drew.trans (hb1.mono (by simp))))
    have K1 := hid (keep_row K0.out ((Below.refl _ _).drew.trans (hb1.mono (by simp))))
    obtain ⟨x10, x11, x12, x13⟩ := row4 G1.out.row
    obtain ⟨z10, z11, z12, z13⟩ := row4 K1.out
    clear hb1
    go_wp2_with fail
    refine hK.out _ _ ?_ (fun hHeld1 => ?_)
    · exact ⟨x10, x11, x12, x13, z10, z11, z12, z13⟩
    clear hK K
    refine wpAnyH_ready (rs := [3]) (by kernel_rfl) (by simp) ?_
    refine AllReadyH.cons (o := { dst := some 11, op := Go.Op.call { callee := Go.Callee.value (Go.Operand.func 18), args := #[Go.Operand.tmp 10], argTypes := #[26] }, type := 35, pos := _, after := #[{ on := 2, ground := Go.Ground.data }, { on := 1, ground := Go.Ground.chain }], guard := none }) rfl (fun K hK => ?_) AllReadyH.nil
    go_simp
    have c11 := rstarts_check p _ _ _ _ G1.out.P G1.out.R G1.out.J
    rw [rck_eq] at c11
    refine c11.mono ?_
    rintro e v2 ⟨rfl, hb2⟩
    have G2 := hid (G1.out.keep hb2)
    have T2 := hid (T1.out.keep hb2)
    have K2 := hid (keep_row K1.out hb2)
    obtain ⟨x20, x21, x22, x23⟩ := row4 G2.out.row
    obtain ⟨z20, z21, z22, z23⟩ := row4 K2.out
    clear hb2
    go_wp2_with fail
    refine hK.out _ _ ?_ (fun hHeld2 => ?_)
    · exact ⟨x20, x21, x22, x23, z20, z21, z22, z23⟩
    clear hK K
    refine wpAnyH_take (i := 4) (oi := { dst := some 12, op := Go.Op.binOp Go.BinOp.eql 35 (Go.Operand.tmp 9) (Go.Operand.tmp 11) 35, type := 4, pos := _, after := #[{ on := 1, ground := Go.Ground.data }, { on := 3, ground := Go.Ground.data }], guard := none }) (v := ?_) rfl (by kernel_rfl) (by kernel_rfl) (by kernel_rfl) (fun _ _ _ h => h) (Or.inl ⟨by rfl, ?_⟩) (by assumption) ?_
    rotate_left
    · intro w hSw; (try dsimp only at hSw); go_simp <;> first | with_reducible rfl | (rw [if_neg (by first | omega | (simp only [ByteArray.size_append] at *; omega))])
    simp only [Act.put, List.setIfInBounds_toArray, List.set_cons_zero, List.set_cons_succ]
    refine wpAnyH_take (i := 5) (oi := { dst := some 13, op := Go.Op.move (Go.Operand.tmp 12), type := 4, pos := _, after := #[{ on := 4, ground := Go.Ground.data }, { on := 3, ground := Go.Ground.chain }], guard := none }) (v := ?_) rfl (by kernel_rfl) (by kernel_rfl) (by kernel_rfl) (fun _ _ _ h => h) (Or.inl ⟨by rfl, ?_⟩) (by assumption) ?_
    rotate_left
    · intro w hSw; (try dsimp only at hSw); go_simp <;> first | with_reducible rfl | (rw [if_neg (by first | omega | (simp only [ByteArray.size_append] at *; omega))])
    simp only [Act.put, List.setIfInBounds_toArray, List.set_cons_zero, List.set_cons_succ]
    refine wpAnyH_take (i := 6) (oi := { dst := some 14, op := Go.Op.load 26 (Go.Operand.tmp 3), type := 26, pos := _, after := #[{ on := 5, ground := Go.Ground.guard }], guard := some (5, true) }) (v := ?_) rfl (by kernel_rfl) (by kernel_rfl) (by kernel_rfl) (fun _ _ _ h => h) (Or.inl ⟨by rfl, ?_⟩) (by assumption) ?_
    rotate_left
    · intro w hSw; (try dsimp only at hSw); go_simp <;> first | with_reducible rfl | (rw [if_neg (by first | omega | (simp only [ByteArray.size_append] at *; omega))])
    simp only [Act.put, List.setIfInBounds_toArray, List.set_cons_zero, List.set_cons_succ]
    refine wpAnyH_take (i := 7) (oi := { dst := some 15, op := Go.Op.load 26 (Go.Operand.tmp 1), type := 26, pos := _, after := #[{ on := 5, ground := Go.Ground.guard }], guard := some (5, true) }) (v := ?_) rfl (by kernel_rfl) (by kernel_rfl) (by kernel_rfl) (fun _ _ _ h => h) (Or.inl ⟨by rfl, ?_⟩) (by assumption) ?_
    rotate_left
    · intro w hSw; (try dsimp only at hSw); go_simp <;> first | with_reducible rfl | (rw [if_neg (by first | omega | (simp only [ByteArray.size_append] at *; omega))])
    simp only [Act.put, List.setIfInBounds_toArray, List.set_cons_zero, List.set_cons_succ]
    refine wpAnyH_ready (rs := [8]) (by kernel_rfl) (by simp) ?_
    refine AllReadyH.cons (o := { dst := some 16, op := Go.Op.call { callee := Go.Callee.value (Go.Operand.func 15), args := #[Go.Operand.tmp 14, Go.Operand.tmp 15], argTypes := #[26, 26] }, type := 4, pos := _, after := #[{ on := 6, ground := Go.Ground.data }, { on := 7, ground := Go.Ground.data }, { on := 5, ground := Go.Ground.chain }, { on := 5, ground := Go.Ground.guard }], guard := some (5, true) }) rfl (fun K hK => ?_) AllReadyH.nil
    go_simp
    have c12 := left_prog p _ _ _ _ _ _ _ _ T2.out G2.out.P
    refine c12.mono ?_
    rintro e v3 ⟨rfl, hb3⟩
    have G3 := hid (G2.out.keep hb3)
    have T3 := hid (T2.out.keep hb3)
    have K3 := hid (keep_row K2.out hb3)
    obtain ⟨x30, x31, x32, x33⟩ := row4 G3.out.row
    obtain ⟨z30, z31, z32, z33⟩ := row4 K3.out
    clear hb3
    go_wp2_with fail
    refine hK.out _ _ ?_ (fun hHeld3 => ?_)
    · exact ⟨x30, x31, x32, x33, z30, z31, z32, z33⟩
    clear hK K
    refine wpAnyH_take (i := 9) (oi := { dst := some 17, op := Go.Op.pick (Go.Operand.tmp 13) (Go.Operand.tmp 16) (Go.Operand.const (Go.Value.bool false)), type := 4, pos := _, after := #[{ on := 5, ground := Go.Ground.data }, { on := 8, ground := Go.Ground.data }], guard := none }) (v := ?_) rfl (by kernel_rfl) (by kernel_rfl) (by kernel_rfl) (fun _ _ _ h => h) (Or.inl ⟨by rfl, ?_⟩) (by assumption) ?_
    rotate_left
    · intro w hSw; (try dsimp only at hSw); go_simp <;> first | with_reducible rfl | (rw [if_neg (by first | omega | (simp only [ByteArray.size_append] at *; omega))])
    simp only [Act.put, List.setIfInBounds_toArray, List.set_cons_zero, List.set_cons_succ]
    refine wpAnyH_take (i := 10) (oi := { dst := some 2, op := Go.Op.assign (Go.Operand.tmp 17), type := 4, pos := _, after := #[{ on := 9, ground := Go.Ground.data }, { on := 8, ground := Go.Ground.chain }, { on := 0, ground := Go.Ground.phase }, { on := 1, ground := Go.Ground.phase }, { on := 2, ground := Go.Ground.phase }, { on := 3, ground := Go.Ground.phase }, { on := 4, ground := Go.Ground.phase }, { on := 5, ground := Go.Ground.phase }, { on := 6, ground := Go.Ground.phase }, { on := 7, ground := Go.Ground.phase }, { on := 8, ground := Go.Ground.phase }, { on := 9, ground := Go.Ground.phase }], guard := none }) (v := ?_) rfl (by kernel_rfl) (by kernel_rfl) (by kernel_rfl) (fun _ _ _ h => h) (Or.inl ⟨by rfl, ?_⟩) (by assumption) ?_
    rotate_left
    · intro w hSw; (try dsimp only at hSw); go_simp <;> first | with_reducible rfl | (rw [if_neg (by first | omega | (simp only [ByteArray.size_append] at *; omega))])
    simp only [Act.put, List.setIfInBounds_toArray, List.set_cons_zero, List.set_cons_succ]
    refine wpAnyH_done (by kernel_rfl) ?_ _
    have hB := G3.out.below
    go_wp2_with (fail)
    go_ret
    exact ⟨rfl, hB⟩
end Go.Proofs.YtejacmgppnafcaaDoor.Lex
