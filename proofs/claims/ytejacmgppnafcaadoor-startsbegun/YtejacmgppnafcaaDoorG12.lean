/-
  The document's Check of starts.
  What the document's Check of starts answers is what starts.Check answers.
  Each body behind a beginning, an instant ago; one without: the walk of the law.
-/
import Derived.Test.YtejacmgppnafcaaDoorG10
import Derived.Test.YtejacmgppnafcaaDoorG11
import Derived.Test.YtejacmgppnafcaaDoorG7
import Derived.Test.YtejacmgppnafcaaDoorG5
import Derived.Test.YtejacmgppnafcaaDoorG9
import Derived.Test.YtejacmgppnafcaaDoorG6
namespace Go.Proofs.YtejacmgppnafcaaDoor.Lex
open Go.ChangeShapes Go.WideShapes Go.ChangeAt Go.RowKit Go.Joins
/-- Has a flow one, by Of? -/
def rflS (p : Pg) (f : Fl) : Bool := decide ((ofV p f.body).1 = 0)
/-- What the document's Check answers. -/
def rckV (p : Pg) : Int := if nmErr p = 0 then (if p.flows.all (rflS p) then 0 else 9) else nmErr p
set_option maxRecDepth 100000 in
set_option maxHeartbeats 4000000 in
theorem rstarts_check (p : Pg) (w : World) (A B C : Value) (hP : PgAt w p A B C) (hR : TabR w) (hJ : TabJ w) : Calls Tryd.prog 18 #[pgV p A B C] w fun e w' => e = .returned (.int .i64 (rckV p)) ∧ Below w.heap.size w w' := by
  have X0 := hid (FV.new hP hR hJ)
  obtain ⟨ao, cap, sl0, rfl, _⟩ := hP.flows
  clear hP hR hJ
  go_enter Tryd.func18, Tryd.ntmps18
  go_wp2_with (fail)
  refine (rnames p _ _ _ _ X0.out.P X0.out.R X0.out.J).mono ?_
  rintro e w1 ⟨rfl, hb1⟩
  have X2 := hid (X0.out.keep hb1)
  clear hb1 X0
  by_cases hn : nmErr p = 0
  · have HOV : Hid (rckV p = if p.flows.all (rflS p) then 0 else 9) := hid (by unfold rckV; rw [if_pos hn])
    rw [hn]
    clear hn
    go_wp2_with (fail)
    obtain ⟨ao', cap', sl, heq, hlen, _, hok, hc, hs⟩ := X2.out.P.flows
    obtain ⟨rfl, rfl⟩ : ao = ao' ∧ cap = cap' := by simpa using heq
    have HC := hid hc
    have HS := hid hs
    clear hc hs hok heq
    go_loopw [4] (fun i wr => ∃ r : Nat, r ≤ p.flows.length ∧ i = .int .i64 (r : Int) ∧ Hid (∀ z ∈ p.flows.take r, rflS p z = true) ∧ Hid (Below w1.heap.size w1 wr)) (fun i _ => p.flows.length - (intOf i).toNat)
    case atStart => exact ⟨0, Nat.zero_le _, rfl, hid (by simp), hid (Below.refl _ _)⟩
    case round =>
      obtain ⟨r, hr, rfl, HE, hB⟩ := hrel
      have FX := hid (X2.out.keep hB.out)
      obtain ⟨s0, s1, s2, s3⟩ := row4 FX.out.row
      by_cases hrl : r < p.flows.length
      · have hrl' : (r : Int) < (p.flows.length : Int) := by omega
        have hr0 : (0 : Int) ≤ (r : Int) := by omega
        obtain ⟨gb, go, rfl, hcc⟩ := HC.out.resolve_left (by omega)
        obtain ⟨y0, y1, y2, y3, y4, y5, y6, y7⟩ := (hcc r hrl).keep hB.out
        have HTK := hid (List.take_succ_eq_append_getElem hrl)
        have HMG := hid (List.getElem_mem hrl)
        have HST := hid ((HS.out r hrl).keep hB.out)
        clear hcc
        generalize sl r = sv at *
        generalize hy : p.flows[r] = y at *
        clear hy
        obtain ⟨sa, sc, _, rfl, _⟩ := HST.out.out
        have hdr := (Below.refl wr.heap.size wr).drew
        have c14 := rof_ p y.body _ _ _ _ _ (FX.out.P.keep hdr) (HST.out.keep hdr) (FX.out.R.below hdr) (FX.out.J.below hdr)
        clear hdr
        generalize hoo : ofV p y.body = ov at *
        have HOO := hid hoo
        clear hoo
        obtain ⟨o1, o2⟩ := ov
        go_wp2_with (fail)
        refine wp_region_held_drew (S := fun W => W.cell? ⟨w.heap.size, 0, none⟩ = some (.int .i64 p.st) ∧ W.cell? ⟨w.heap.size, 1, none⟩ = some (A) ∧ W.cell? ⟨w.heap.size, 2, none⟩ = some ((.slice (some ⟨gb, go, none⟩) p.flows.length cap)) ∧ W.cell? ⟨w.heap.size, 3, none⟩ = some (C) ∧ W.cell? ⟨gb, go + r * 8, none⟩ = some (.string y.name) ∧ W.cell? ⟨gb, go + r * 8 + 1, none⟩ = some (.int .u8 (y.ty : Int)) ∧ W.cell? ⟨gb, go + r * 8 + 2, none⟩ = some (.int .i64 y.st) ∧ W.cell? ⟨gb, go + r * 8 + 3, none⟩ = some (.int .i64 y.df) ∧ W.cell? ⟨gb, go + r * 8 + 4, none⟩ = some (.int .u8 (y.body.op : Int)) ∧ W.cell? ⟨gb, go + r * 8 + 5, none⟩ = some (.int .i64 y.body.n) ∧ W.cell? ⟨gb, go + r * 8 + 6, none⟩ = some (.string y.body.name) ∧ W.cell? ⟨gb, go + r * 8 + 7, none⟩ = some (.slice sa y.body.args.length sc)) (by kernel_rfl) ?_ (fun hHeld => ?_)
        · exact ⟨s0, s1, s2, s3, y0, y1, y2, y3, y4, y5, y6, y7⟩
        refine wpAnyH_take (i := 0) (oi := { dst := some 20, op := Go.Op.load 26 (Go.Operand.tmp 1), type := 26, pos := _, after := #[], guard := none }) (v := ?_) rfl (by kernel_rfl) (by kernel_rfl) (by kernel_rfl) (fun _ _ _ h => h) (Or.inl ⟨by rfl, ?_⟩) (by assumption) ?_
        rotate_left
        · intro w hSw; (try dsimp only at hSw); go_simp <;> first | with_reducible rfl | (rw [if_neg (by first | omega | (simp only [ByteArray.size_append] at *; omega))])
        simp only [Act.put, List.setIfInBounds_toArray, List.set_cons_zero, List.set_cons_succ]
        refine wpAnyH_take (i := 1) (oi := { dst := some 21, op := Go.Op.fieldAddr 26 (Go.Operand.tmp 1) 2, type := 0, pos := _, after := #[], guard := none }) (v := ?_) rfl (by kernel_rfl) (by kernel_rfl) (by kernel_rfl) (fun _ _ _ h => h) (Or.inl ⟨by rfl, ?_⟩) (by assumption) ?_
        rotate_left
        · intro w hSw; (try dsimp only at hSw); go_simp <;> first | with_reducible rfl | (rw [if_neg (by first | omega | (simp only [ByteArray.size_append] at *; omega))])
        simp only [Act.put, List.setIfInBounds_toArray, List.set_cons_zero, List.set_cons_succ]
        refine wpAnyH_take (i := 2) (oi := { dst := some 22, op := Go.Op.load 23 (Go.Operand.tmp 21), type := 23, pos := _, after := #[{ on := 1, ground := Go.Ground.data }], guard := none }) (v := ?_) rfl (by kernel_rfl) (by kernel_rfl) (by kernel_rfl) (fun _ _ _ h => h) (Or.inl ⟨by rfl, ?_⟩) (by assumption) ?_
        rotate_left
        · intro w hSw; (try dsimp only at hSw); go_simp <;> first | with_reducible rfl | (rw [if_neg (by first | omega | (simp only [ByteArray.size_append] at *; omega))])
        simp only [Act.put, List.setIfInBounds_toArray, List.set_cons_zero, List.set_cons_succ]
        refine wpAnyH_take (i := 3) (oi := { dst := some 23, op := Go.Op.move (Go.Operand.tmp 4), type := 3, pos := _, after := #[], guard := none }) (v := ?_) rfl (by kernel_rfl) (by kernel_rfl) (by kernel_rfl) (fun _ _ _ h => h) (Or.inl ⟨by rfl, ?_⟩) (by assumption) ?_
        rotate_left
        · intro w hSw; (try dsimp only at hSw); go_simp <;> first | with_reducible rfl | (rw [if_neg (by first | omega | (simp only [ByteArray.size_append] at *; omega))])
        simp only [Act.put, List.setIfInBounds_toArray, List.set_cons_zero, List.set_cons_succ]
        refine wpAnyH_take (i := 4) (oi := { dst := some 24, op := Go.Op.indexAddr 23 (Go.Operand.tmp 22) (Go.Operand.tmp 23), type := 0, pos := _, after := #[{ on := 2, ground := Go.Ground.data }, { on := 3, ground := Go.Ground.data }], guard := none }) (v := ?_) rfl (by kernel_rfl) (by kernel_rfl) (by kernel_rfl) (fun _ _ _ h => h) (Or.inl ⟨by rfl, ?_⟩) (by assumption) ?_
        rotate_left
        · intro w hSw; (try dsimp only at hSw); go_simp <;> first | with_reducible rfl | (rw [if_neg (by first | omega | (simp only [ByteArray.size_append] at *; omega))])
        simp only [Act.put, List.setIfInBounds_toArray, List.set_cons_zero, List.set_cons_succ]
        refine wpAnyH_take (i := 5) (oi := { dst := some 25, op := Go.Op.fieldAddr 53 (Go.Operand.tmp 24) 4, type := 0, pos := _, after := #[{ on := 4, ground := Go.Ground.data }], guard := none }) (v := ?_) rfl (by kernel_rfl) (by kernel_rfl) (by kernel_rfl) (fun _ _ _ h => h) (Or.inl ⟨by rfl, ?_⟩) (by assumption) ?_
        rotate_left
        · intro w hSw; (try dsimp only at hSw); go_simp <;> first | with_reducible rfl | (rw [if_neg (by first | omega | (simp only [ByteArray.size_append] at *; omega))])
        simp only [Act.put, List.setIfInBounds_toArray, List.set_cons_zero, List.set_cons_succ]
        refine wpAnyH_take (i := 6) (oi := { dst := some 26, op := Go.Op.load 30 (Go.Operand.tmp 25), type := 30, pos := _, after := #[{ on := 5, ground := Go.Ground.data }], guard := none }) (v := ?_) rfl (by kernel_rfl) (by kernel_rfl) (by kernel_rfl) (fun _ _ _ h => h) (Or.inl ⟨by rfl, ?_⟩) (by assumption) ?_
        rotate_left
        · intro w hSw; (try dsimp only at hSw); go_simp <;> first | with_reducible rfl | (rw [if_neg (by first | omega | (simp only [ByteArray.size_append] at *; omega))])
        simp only [Act.put, List.setIfInBounds_toArray, List.set_cons_zero, List.set_cons_succ]
        refine wpAnyH_ready (rs := [7]) (by kernel_rfl) (by simp) ?_
        refine AllReadyH.cons (o := { dst := some 27, op := Go.Op.call { callee := Go.Callee.value (Go.Operand.func 14), args := #[Go.Operand.tmp 20, Go.Operand.tmp 26], argTypes := #[26, 30] }, type := 36, pos := _, after := #[{ on := 0, ground := Go.Ground.data }, { on := 6, ground := Go.Ground.data }], guard := none }) rfl (fun K hK => ?_) AllReadyH.nil
        go_simp
        refine c14.mono ?_
        rintro e w3 ⟨rfl, hb3'⟩
        have hb3 : Below wr.heap.size wr w3 := (Below.refl _ _).drew.trans (hb3'.mono (by simp))
        have X3 := hid (FX.out.keep hb3)
        obtain ⟨t0, t1, t2, t3⟩ := row4 X3.out.row
        have x0 := cell_kept y0 hb3
        have x1 := cell_kept y1 hb3
        have x2 := cell_kept y2 hb3
        have x3 := cell_kept y3 hb3
        have x4 := cell_kept y4 hb3
        have x5 := cell_kept y5 hb3
        have x6 := cell_kept y6 hb3
        have x7 := cell_kept y7 hb3
        have HB3 := hid (hB.out.trans (hb3.mono hB.out.size))
        clear hb3 hb3'
        go_wp2_with fail
        refine hK.out _ _ ?_ (fun hHeld1 => ?_)
        · exact ⟨t0, t1, t2, t3, x0, x1, x2, x3, x4, x5, x6, x7⟩
        clear hK K
        refine wpAnyH_take (i := 8) (oi := { dst := some 19, op := Go.Op.move (Go.Operand.tmp 27), type := 36, pos := _, after := #[{ on := 7, ground := Go.Ground.data }], guard := none }) (v := ?_) rfl (by kernel_rfl) (by kernel_rfl) (by kernel_rfl) (fun _ _ _ h => h) (Or.inl ⟨by rfl, ?_⟩) (by assumption) ?_
        rotate_left
        · intro w hSw; (try dsimp only at hSw); go_simp <;> first | with_reducible rfl | (rw [if_neg (by first | omega | (simp only [ByteArray.size_append] at *; omega))])
        simp only [Act.put, List.setIfInBounds_toArray, List.set_cons_zero, List.set_cons_succ]
        refine wpAnyH_take (i := 9) (oi := { dst := some 28, op := Go.Op.extract (Go.Operand.tmp 19) 0, type := 3, pos := _, after := #[{ on := 8, ground := Go.Ground.data }], guard := none }) (v := ?_) rfl (by kernel_rfl) (by kernel_rfl) (by kernel_rfl) (fun _ _ _ h => h) (Or.inl ⟨by rfl, ?_⟩) (by assumption) ?_
        rotate_left
        · intro w hSw; (try dsimp only at hSw); go_simp <;> first | with_reducible rfl | (rw [if_neg (by first | omega | (simp only [ByteArray.size_append] at *; omega))])
        simp only [Act.put, List.setIfInBounds_toArray, List.set_cons_zero, List.set_cons_succ]
        refine wpAnyH_take (i := 10) (oi := { dst := some 29, op := Go.Op.extract (Go.Operand.tmp 19) 1, type := 35, pos := _, after := #[{ on := 8, ground := Go.Ground.data }, { on := 11, ground := Go.Ground.gcOnly Go.Departure.lateStores }], guard := none }) (v := ?_) rfl (by kernel_rfl) (by kernel_rfl) (by kernel_rfl) (fun _ _ _ h => h) (Or.inl ⟨by rfl, ?_⟩) (by assumption) ?_
        rotate_left
        · intro w hSw; (try dsimp only at hSw); go_simp <;> first | with_reducible rfl | (rw [if_neg (by first | omega | (simp only [ByteArray.size_append] at *; omega))])
        simp only [Act.put, List.setIfInBounds_toArray, List.set_cons_zero, List.set_cons_succ]
        refine wpAnyH_take (i := 11) (oi := { dst := some 5, op := Go.Op.assign (Go.Operand.tmp 28), type := 3, pos := _, after := #[{ on := 9, ground := Go.Ground.data }, { on := 7, ground := Go.Ground.chain }, { on := 0, ground := Go.Ground.phase }, { on := 1, ground := Go.Ground.phase }, { on := 2, ground := Go.Ground.phase }, { on := 3, ground := Go.Ground.phase }, { on := 4, ground := Go.Ground.phase }, { on := 5, ground := Go.Ground.phase }, { on := 6, ground := Go.Ground.phase }, { on := 7, ground := Go.Ground.phase }, { on := 8, ground := Go.Ground.phase }, { on := 9, ground := Go.Ground.phase }, { on := 10, ground := Go.Ground.textOnly Go.Departure.lateStores }], guard := none }) (v := ?_) rfl (by kernel_rfl) (by kernel_rfl) (by kernel_rfl) (fun _ _ _ h => h) (Or.inl ⟨by rfl, ?_⟩) (by assumption) ?_
        rotate_left
        · intro w hSw; (try dsimp only at hSw); go_simp <;> first | with_reducible rfl | (rw [if_neg (by first | omega | (simp only [ByteArray.size_append] at *; omega))])
        simp only [Act.put, List.setIfInBounds_toArray, List.set_cons_zero, List.set_cons_succ]
        refine wpAnyH_take (i := 12) (oi := { dst := some 6, op := Go.Op.assign (Go.Operand.tmp 29), type := 35, pos := _, after := #[{ on := 10, ground := Go.Ground.data }, { on := 11, ground := Go.Ground.chain }, { on := 0, ground := Go.Ground.phase }, { on := 1, ground := Go.Ground.phase }, { on := 2, ground := Go.Ground.phase }, { on := 3, ground := Go.Ground.phase }, { on := 4, ground := Go.Ground.phase }, { on := 5, ground := Go.Ground.phase }, { on := 6, ground := Go.Ground.phase }, { on := 7, ground := Go.Ground.phase }, { on := 8, ground := Go.Ground.phase }, { on := 9, ground := Go.Ground.phase }, { on := 10, ground := Go.Ground.phase }, { on := 11, ground := Go.Ground.phase }], guard := none }) (v := ?_) rfl (by kernel_rfl) (by kernel_rfl) (by kernel_rfl) (fun _ _ _ h => h) (Or.inl ⟨by rfl, ?_⟩) (by assumption) ?_
        rotate_left
        · intro w hSw; (try dsimp only at hSw); go_simp <;> first | with_reducible rfl | (rw [if_neg (by first | omega | (simp only [ByteArray.size_append] at *; omega))])
        simp only [Act.put, List.setIfInBounds_toArray, List.set_cons_zero, List.set_cons_succ]
        refine wpAnyH_done (by kernel_rfl) ?_ _
        clear s0 s1 s2 s3 t0 t1 t2 t3 x0 x1 x2 x3 x4 x5 x6 x7 y0 y1 y2 y3 y4 y5 y6 y7 c14
        by_cases ht : o1 = 0
        · have HE2 : Hid (∀ q ∈ p.flows.take (r + 1), rflS p q = true) := hid (fun q hq => by
            rw [HTK.out] at hq
            rcases List.mem_append.1 hq with h | h
            · exact HE.out q h
            · rw [List.mem_singleton.1 h]; unfold rflS; rw [HOO.out, ht]; rfl)
          subst ht
          go_wp2_with (fail)
          go_roundw
          case rel => exact ⟨r + 1, by omega, by go_num, HE2, HB3⟩
          case measure => simp [intOf]; omega
        · have ht' : (0 : Int) < (o1 : Int) := by omega
          have HV : Hid (rckV p = 9) := hid (by rw [HOV.out, if_neg]; intro h; have := List.all_eq_true.1 h y HMG.out; unfold rflS at this; rw [HOO.out] at this; simp [ht] at this)
          clear ht
          go_wp2_with (fail)
          go_ret
          exact ⟨by rw [HV.out]; rfl, X3.out.below⟩
      · have hrl' : ¬ (r : Int) < (p.flows.length : Int) := by omega
        obtain rfl : r = p.flows.length := by omega
        have HV : Hid (rckV p = 0) := hid (by rw [HOV.out, if_pos]; exact List.all_eq_true.2 (fun q hq => HE.out q (by rw [List.take_length]; exact hq)))
        go_wp2_with (fail)
        go_ret
        exact ⟨by rw [HV.out]; rfl, FX.out.below⟩
  · have HV : Hid (rckV p = nmErr p) := hid (by unfold rckV; rw [if_neg hn])
    generalize nmErr p = ne at *
    go_wp2_with (fail)
    go_ret
    exact ⟨by rw [HV.out]; rfl, X2.out.below⟩
end Go.Proofs.YtejacmgppnafcaaDoor.Lex
namespace Go.Proofs.YtejacmgppnafcaaDoor.Lex
theorem nmErr_nm {p : Pg} (h : nmErr p = 0) : nmOk p = true := by
  have hp := nmErr_ok h
  unfold nmErr at h
  rw [if_pos hp] at h
  by_cases hq : nmOk p = true
  · exact hq
  · rw [if_neg hq] at h; omega
theorem asks_ok {p : Pg} (h : nmOk p = true) {f : Fl} (hf : f ∈ p.flows) : asksAll p f.body = true := by
  unfold asksAll
  refine List.all_eq_true.2 (fun r hr => ?_)
  obtain ⟨x, hx⟩ := find_asked_ok h (s := r.1) (by
    unfold askedL asksOf
    exact List.mem_flatMap.2 ⟨f, hf, List.mem_map.2 ⟨r, hr, rfl⟩⟩)
  rw [hx]; rfl
theorem of_st {p : Pg} (h : nmErr p = 0) {f : Fl} (hf : f ∈ p.flows) : (ofV p f.body).1 = stE f.body := by
  have h1 := pgOk_chk (nmErr_ok h) f hf
  have h2 := asks_ok (nmErr_nm h) hf
  unfold ofV
  rw [if_neg (by rw [h1]; simp), if_neg (by rw [h2]; simp)]
theorem rck_eq (p : Pg) : rckV p = ckV p := by
  unfold rckV ckV
  by_cases h : nmErr p = 0
  · rw [if_pos h, if_pos h]
    have e : p.flows.all (rflS p) = p.flows.all flS := by
      rw [Bool.eq_iff_iff, List.all_eq_true, List.all_eq_true]
      constructor
      · intro g f hf; have := g f hf; unfold rflS at this; rw [of_st h hf] at this; exact this
      · intro g f hf; have := g f hf; unfold rflS; rw [of_st h hf]; exact this
    rw [e]
  · rw [if_neg h, if_neg h]
end Go.Proofs.YtejacmgppnafcaaDoor.Lex
namespace Go.Proofs.YtejacmgppnafcaaDoor.Lex
open Go.ChangeShapes Go.WideShapes Go.ChangeAt Go.RowKit Go.Joins
/-- So many bodies stand behind a beginning. -/
abbrev gK (k : Nat) : Nat → Fl → Ex := fun i f => if i < k then begB f.name else f.body
theorem bod_congr (g g' : Nat → Fl → Ex) (l : List Fl) (h : ∀ i (hi : i < l.length), g i l[i] = g' i l[i]) : bod g l = bod g' l := by
  apply List.ext_getElem
  · rw [bod_len, bod_len]
  · intro i h1 h2
    have hi : i < l.length := by rw [bod_len] at h1; exact h1
    rw [bod_get g l i hi, bod_get g' l i hi, h i hi]
/-- While the bodies are put. -/
structure BQ (w : World) (p : Pg) (A B C : Value) (fb cap kq : Nat) (aq cq : Value) (k : Nat) (W : World) : Prop where
  row : W.heap[w.heap.size]? = some (.cells (pgC p A B C) 26 (0, 0))
  qrow : W.heap[kq]? = some (.cells (pgC p aq (.slice (some ⟨fb, 0, none⟩) p.flows.length cap) cq) 26 (0, 0))
  q : PQ W fb cap p (bod (gK k) p.flows) aq cq
  lt : w.heap.size < fb ∧ fb < kq
  below : Below w.heap.size w W
theorem BQ.keep {w W W' : World} {p : Pg} {A B C : Value} {fb cap kq : Nat} {aq cq : Value} {k : Nat} (h : BQ w p A B C fb cap kq aq cq k W) (hb : Below W.heap.size W W') : BQ w p A B C fb cap kq aq cq k W' :=
  ⟨keep_row h.row hb, keep_row h.qrow hb, h.q.keep hb, h.lt, bstep h.below hb⟩
theorem BQ.put {w W : World} {p : Pg} {A B C : Value} {fb cap kq : Nat} {aq cq : Value} {k : Nat} (h : BQ w p A B C fb cap kq aq cq k W) (hk : k < p.flows.length) {nm : ByteArray} (hn : p.flows[k].name = nm) {s : Value} (hx : Hi (fb + 1) W (begB nm) s) : BQ w p A B C fb cap kq aq cq (k + 1) (W.setCells fb (k * 8 + 4) (exL (begB nm) s)) := by
  have hl := h.lt
  subst hn
  have e := bod_set (gK k) (gK (k + 1)) p.flows k hk (fun i hi hne => by
    by_cases e : i < k
    · rw [gK, gK, if_pos e, if_pos (by omega)]
    · rw [gK, gK, if_neg e, if_neg (by omega)])
  rw [show gK (k + 1) k p.flows[k] = begB p.flows[k].name from if_pos (by omega)] at e
  have hp := h.q.put (k := k) (by rw [bod_len]; exact hk) hx
  rw [bod_get _ _ _ hk] at hp
  rw [e] at hp
  exact ⟨by rw [heap_setCells_other (by omega)]; exact h.row, by rw [heap_setCells_other (by omega)]; exact h.qrow, hp, h.lt, h.below.grown (grown_setCells _ _ _ _) h.below.size (fun j hj => by cases hj; omega)⟩
/-- The twin of the twin, and one body of it. -/
structure BR (W8 : World) (p : Pg) (kr fb2 cap2 : Nat) (ar cr : Value) (l : List Fl) (W : World) : Prop where
  rrow : W.heap[kr]? = some (.cells (pgC p ar (.slice (some ⟨fb2, 0, none⟩) p.flows.length cap2) cr) 26 (0, 0))
  q : PQ W fb2 cap2 p l ar cr
  lt : W8.heap.size ≤ fb2 ∧ fb2 < kr
  below : Below W8.heap.size W8 W
theorem BR.keep {W8 W W' : World} {p : Pg} {kr fb2 cap2 : Nat} {ar cr : Value} {l : List Fl} (h : BR W8 p kr fb2 cap2 ar cr l W) (hb : Below W.heap.size W W') : BR W8 p kr fb2 cap2 ar cr l W' :=
  ⟨keep_row h.rrow hb, h.q.keep hb, h.lt, bstep h.below hb⟩
theorem BR.put {W8 W : World} {p : Pg} {kr fb2 cap2 : Nat} {ar cr : Value} {k : Nat} {nm : ByteArray} (h : BR W8 p kr fb2 cap2 ar cr (bod (fun _ f => begB f.name) p.flows) W) (hk : k < p.flows.length) {s : Value} (hx : Hi (fb2 + 1) W (preB nm) s) : BR W8 p kr fb2 cap2 ar cr (bod (fun i f => if i = k then preB nm else begB f.name) p.flows) (W.setCells fb2 (k * 8 + 4) (exL (preB nm) s)) := by
  have hl := h.lt
  have e := bod_set (fun _ f => begB f.name) (fun i f => if i = k then preB nm else begB f.name) p.flows k hk (fun i hi hne => by rw [if_neg hne])
  rw [if_pos rfl] at e
  have hp := h.q.put (k := k) (by rw [bod_len]; exact hk) hx
  rw [bod_get _ _ _ hk] at hp
  rw [e] at hp
  exact ⟨by rw [heap_setCells_other (by omega)]; exact h.rrow, hp, h.lt, h.below.grown (grown_setCells _ _ _ _) h.below.size (fun j hj => by cases hj; omega)⟩
set_option maxRecDepth 100000 in
set_option maxHeartbeats 4000000 in
theorem walk8 (p : Pg) (which : Nat) (w : World) (a b c : Value) (hP : PgAt w p a b c) (hwh : which < 256) (hR : TabR w) (hJ : TabJ w) : Calls Tryd.prog 8 #[pgV p a b c, .int .u8 (which : Int)] w fun e w' => e = .returned (.bool true) ∧ Below w.heap.size w w' := by
  have X0 := hid (FV.new hP hR hJ)
  obtain ⟨a0, a1, rfl, _⟩ := hP.ins
  obtain ⟨c0, c1, rfl, _⟩ := hP.outs
  obtain ⟨bo, b1, sl, rfl, hlen, hlc, hok, hc, hs⟩ := hP.flows
  have HP := hid hP
  have HR := hid hR
  have HJ := hid hJ
  have HC := hid hc
  have HOK := hid hok
  clear hP hR hJ hc hs hok hlc
  go_enter Tryd.func8, Tryd.ntmps8
  go_wp2_with (fail)
  refine (alive _ X0.out.R X0.out.J).mono ?_
  rintro e w1 ⟨rfl, hb1⟩
  have X1 := hid (X0.out.keep hb1)
  clear hb1
  obtain ⟨s0, s1, s2, s3⟩ := row4 X1.out.row
  go_wp2_with (fail)
  refine (great p _ _ _ _ X1.out.P).mono ?_
  rintro e w2 ⟨⟨g, rfl, hg⟩, hb2⟩
  have X2 := hid (X1.out.keep hb2)
  clear hb2 X1 X0 s0 s1 s2 s3 hg
  obtain ⟨s0, s1, s2, s3⟩ := row4 X2.out.row
  cases g with
  | true =>
    go_wp2_with (fail)
    refine (alive _ X2.out.R X2.out.J).mono ?_
    rintro e w3 ⟨rfl, hb3⟩
    have X3 := hid (X2.out.keep hb3)
    clear hb3
    have hB := X3.out.below
    go_wp2_with (fail)
    go_ret
    exact ⟨rfl, hB⟩
  | false =>
    go_wp2_with (fail)
    refine ((callsIn_wide (n := 20)).1 (names_check p _ _ _ _ X2.out.P X2.out.R X2.out.J)).mono ?_
    rintro e w3 ⟨rfl, hb3⟩
    have X3 := hid (X2.out.keep hb3)
    clear hb3 X2 s0 s1 s2 s3
    obtain ⟨s0, s1, s2, s3⟩ := row4 X3.out.row
    by_cases hn : nmErr p = 0
    · have HN := hid hn
      rw [hn]
      clear hn
      by_cases h0 : p.flows.length = 0
      · have e0 : ((p.flows.length : Int) == 0) = true := by rw [beq_iff_eq]; omega
        clear h0
        go_wp2_with (fail)
        refine (alive _ X3.out.R X3.out.J).mono ?_
        rintro e w4 ⟨rfl, hb4⟩
        have X4 := hid (X3.out.keep hb4)
        clear hb4
        have hB := X4.out.below
        go_wp2_with (fail)
        go_ret
        exact ⟨rfl, hB⟩
      · have e0 : ((p.flows.length : Int) == 0) = false := by rw [beq_eq_false_iff_ne]; omega
        obtain ⟨gb, go, rfl, hcc⟩ := HC.out.resolve_left h0
        have HCC := hid hcc
        clear hcc HC
        go_wp2_with (fail)
        refine (twin_prog p _ _ _ _ X3.out.P).mono ?_
        rintro e w9 ⟨aq, bq, cq, rfl, hT, hb9⟩
        obtain ⟨fb, cap, _, rfl, hfb, _⟩ := id hT.flows
        obtain ⟨ib, ic, rfl, _⟩ := id hT.ins
        obtain ⟨ob, oc, rfl, _⟩ := id hT.outs
        have hTl := (PQ.ofTw hT).lt
        have hq0 : bod (gK 0) p.flows = p.flows := bod_same _ _ (fun i hi => if_neg (by omega))
        have BA := (Below.refl w9.heap.size w9).alloc (Nat.le_refl _) (.cells #[.int .i64 p.st, (.slice (some ⟨ib, 0, none⟩) p.ins.length ic), (.slice (some ⟨fb, 0, none⟩) p.flows.length cap), (.slice (some ⟨ob, 0, none⟩) p.outs.length oc)] 26)
        have X9 := X3.out.keep hb9
        have hlw : w.heap.size < w3.heap.size := (Array.getElem?_eq_some_iff.1 X3.out.row).1
        have Q0 : Hid (BQ w p (.slice a0 p.ins.length a1) (.slice (some ⟨gb, go, none⟩) p.flows.length b1) (.slice c0 p.outs.length c1) fb cap w9.heap.size (.slice (some ⟨ib, 0, none⟩) p.ins.length ic) (.slice (some ⟨ob, 0, none⟩) p.outs.length oc) 0 (w9.alloc (.cells #[.int .i64 p.st, (.slice (some ⟨ib, 0, none⟩) p.ins.length ic), (.slice (some ⟨fb, 0, none⟩) p.flows.length cap), (.slice (some ⟨ob, 0, none⟩) p.outs.length oc)] 26))) := hid ⟨keep_row X9.row BA, heap_alloc_new w9 _, by rw [hq0]; exact (PQ.ofTw hT).keep BA, ⟨by omega, by omega⟩, bstep X9.below BA⟩
        clear BA X9 hT hb9 X3 s0 s1 s2 s3 hfb hTl hq0 hlw
        go_wp2_with (fail)
        generalize w9.alloc (.cells #[.int .i64 p.st, (.slice (some ⟨ib, 0, none⟩) p.ins.length ic), (.slice (some ⟨fb, 0, none⟩) p.flows.length cap), (.slice (some ⟨ob, 0, none⟩) p.outs.length oc)] 26) = W9 at *
        generalize w9.heap.size = kq at *
        have hmx := hlen
        go_loopw [6] (fun i wr => ∃ k : Nat, k ≤ p.flows.length ∧ i = .int .i64 (k : Int) ∧ Hid (BQ w p (.slice a0 p.ins.length a1) (.slice (some ⟨gb, go, none⟩) p.flows.length b1) (.slice c0 p.outs.length c1) fb cap kq (.slice (some ⟨ib, 0, none⟩) p.ins.length ic) (.slice (some ⟨ob, 0, none⟩) p.outs.length oc) k wr)) (fun i _ => p.flows.length - (intOf i).toNat)
        case atStart => exact ⟨0, Nat.zero_le _, rfl, Q0⟩
        case round =>
          obtain ⟨k, hk, rfl, HQ⟩ := hrel
          obtain ⟨s0, s1, s2, s3⟩ := row4 HQ.out.row
          obtain ⟨r0, r1, r2, r3⟩ := row4 HQ.out.qrow
          by_cases hkl : k < p.flows.length
          · have hkl' : (k : Int) < (p.flows.length : Int) := by omega
            have hk0 : (0 : Int) ≤ (k : Int) := by omega
            have hnm0 := (HOK.out _ (List.getElem_mem hkl)).1
            have hck0 := (HCC.out k hkl).1
            obtain ⟨nm, hnm⟩ : ∃ nm, p.flows[k].name = nm := ⟨_, rfl⟩
            rw [hnm] at hnm0 hck0
            have HNM := hid hnm0
            have HCK := hid hck0
            have HKN := hid hnm
            clear hnm hnm0 hck0
            have HS : Hid (∀ (j : Nat) (W : World), BQ w p (.slice a0 p.ins.length a1) (.slice (some ⟨gb, go, none⟩) p.flows.length b1) (.slice c0 p.outs.length c1) fb cap kq (.slice (some ⟨ib, 0, none⟩) p.ins.length ic) (.slice (some ⟨ob, 0, none⟩) p.outs.length oc) j W → W.cell? ⟨w.heap.size, 0, none⟩ = some (.int .i64 p.st) ∧ W.cell? ⟨w.heap.size, 1, none⟩ = some ((.slice a0 p.ins.length a1)) ∧ W.cell? ⟨w.heap.size, 2, none⟩ = some ((.slice (some ⟨gb, go, none⟩) p.flows.length b1)) ∧ W.cell? ⟨w.heap.size, 3, none⟩ = some ((.slice c0 p.outs.length c1)) ∧ W.cell? ⟨kq, 0, none⟩ = some (.int .i64 p.st) ∧ W.cell? ⟨kq, 1, none⟩ = some ((.slice (some ⟨ib, 0, none⟩) p.ins.length ic)) ∧ W.cell? ⟨kq, 2, none⟩ = some ((.slice (some ⟨fb, 0, none⟩) p.flows.length cap)) ∧ W.cell? ⟨kq, 3, none⟩ = some ((.slice (some ⟨ob, 0, none⟩) p.outs.length oc)) ∧ W.cell? ⟨gb, go + k * 8, none⟩ = some (.string nm)) := hid (fun j W h => by
              obtain ⟨a0, a1, a2, a3⟩ := row4 h.row
              obtain ⟨b0, b1, b2, b3⟩ := row4 h.qrow
              exact ⟨a0, a1, a2, a3, b0, b1, b2, b3, cell_kept HCK.out h.below⟩)
            have K0 := hid (HQ.out.keep (Below.refl _ _).drew)
            clear HQ Q0
            go_wp2_with (fail)
            refine wp_region_held_drew (S := fun W => W.cell? ⟨w.heap.size, 0, none⟩ = some (.int .i64 p.st) ∧ W.cell? ⟨w.heap.size, 1, none⟩ = some ((.slice a0 p.ins.length a1)) ∧ W.cell? ⟨w.heap.size, 2, none⟩ = some ((.slice (some ⟨gb, go, none⟩) p.flows.length b1)) ∧ W.cell? ⟨w.heap.size, 3, none⟩ = some ((.slice c0 p.outs.length c1)) ∧ W.cell? ⟨kq, 0, none⟩ = some (.int .i64 p.st) ∧ W.cell? ⟨kq, 1, none⟩ = some ((.slice (some ⟨ib, 0, none⟩) p.ins.length ic)) ∧ W.cell? ⟨kq, 2, none⟩ = some ((.slice (some ⟨fb, 0, none⟩) p.flows.length cap)) ∧ W.cell? ⟨kq, 3, none⟩ = some ((.slice (some ⟨ob, 0, none⟩) p.outs.length oc)) ∧ W.cell? ⟨gb, go + k * 8, none⟩ = some (.string nm)) (by kernel_rfl) ?_ (fun hHeld => ?_)
            · exact HS.out _ _ K0.out
            refine wpAnyH_take (i := 0) (oi := { dst := some 36, op := Go.Op.fieldAddr 26 (Go.Operand.tmp 5) 2, type := 0, pos := _, after := #[], guard := none }) (v := ?_) rfl (by kernel_rfl) (by kernel_rfl) (by kernel_rfl) (fun _ _ _ h => h) (Or.inl ⟨by rfl, ?_⟩) (by assumption) ?_
            rotate_left
            · intro w hSw; (try dsimp only at hSw); go_simp <;> first | with_reducible rfl | (rw [if_neg (by first | omega | (simp only [ByteArray.size_append] at *; omega))])
            simp only [Act.put, List.setIfInBounds_toArray, List.set_cons_zero, List.set_cons_succ]
            refine wpAnyH_take (i := 1) (oi := { dst := some 37, op := Go.Op.load 23 (Go.Operand.tmp 36), type := 23, pos := _, after := #[{ on := 0, ground := Go.Ground.data }], guard := none }) (v := ?_) rfl (by kernel_rfl) (by kernel_rfl) (by kernel_rfl) (fun _ _ _ h => h) (Or.inl ⟨by rfl, ?_⟩) (by assumption) ?_
            rotate_left
            · intro w hSw; (try dsimp only at hSw); go_simp <;> first | with_reducible rfl | (rw [if_neg (by first | omega | (simp only [ByteArray.size_append] at *; omega))])
            simp only [Act.put, List.setIfInBounds_toArray, List.set_cons_zero, List.set_cons_succ]
            refine wpAnyH_take (i := 2) (oi := { dst := some 38, op := Go.Op.move (Go.Operand.tmp 6), type := 3, pos := _, after := #[], guard := none }) (v := ?_) rfl (by kernel_rfl) (by kernel_rfl) (by kernel_rfl) (fun _ _ _ h => h) (Or.inl ⟨by rfl, ?_⟩) (by assumption) ?_
            rotate_left
            · intro w hSw; (try dsimp only at hSw); go_simp <;> first | with_reducible rfl | (rw [if_neg (by first | omega | (simp only [ByteArray.size_append] at *; omega))])
            simp only [Act.put, List.setIfInBounds_toArray, List.set_cons_zero, List.set_cons_succ]
            refine wpAnyH_take (i := 4) (oi := { dst := some 40, op := Go.Op.fieldAddr 26 (Go.Operand.tmp 2) 2, type := 0, pos := _, after := #[], guard := none }) (v := ?_) rfl (by kernel_rfl) (by kernel_rfl) (by kernel_rfl) (fun _ _ _ h => h) (Or.inl ⟨by rfl, ?_⟩) (by assumption) ?_
            rotate_left
            · intro w hSw; (try dsimp only at hSw); go_simp <;> first | with_reducible rfl | (rw [if_neg (by first | omega | (simp only [ByteArray.size_append] at *; omega))])
            simp only [Act.put, List.setIfInBounds_toArray, List.set_cons_zero, List.set_cons_succ]
            refine wpAnyH_take (i := 5) (oi := { dst := some 41, op := Go.Op.load 23 (Go.Operand.tmp 40), type := 23, pos := _, after := #[{ on := 4, ground := Go.Ground.data }], guard := none }) (v := ?_) rfl (by kernel_rfl) (by kernel_rfl) (by kernel_rfl) (fun _ _ _ h => h) (Or.inl ⟨by rfl, ?_⟩) (by assumption) ?_
            rotate_left
            · intro w hSw; (try dsimp only at hSw); go_simp <;> first | with_reducible rfl | (rw [if_neg (by first | omega | (simp only [ByteArray.size_append] at *; omega))])
            simp only [Act.put, List.setIfInBounds_toArray, List.set_cons_zero, List.set_cons_succ]
            refine wpAnyH_take (i := 6) (oi := { dst := some 42, op := Go.Op.move (Go.Operand.tmp 6), type := 3, pos := _, after := #[], guard := none }) (v := ?_) rfl (by kernel_rfl) (by kernel_rfl) (by kernel_rfl) (fun _ _ _ h => h) (Or.inl ⟨by rfl, ?_⟩) (by assumption) ?_
            rotate_left
            · intro w hSw; (try dsimp only at hSw); go_simp <;> first | with_reducible rfl | (rw [if_neg (by first | omega | (simp only [ByteArray.size_append] at *; omega))])
            simp only [Act.put, List.setIfInBounds_toArray, List.set_cons_zero, List.set_cons_succ]
            refine wpAnyH_take (i := 7) (oi := { dst := some 43, op := Go.Op.indexAddr 23 (Go.Operand.tmp 41) (Go.Operand.tmp 42), type := 0, pos := _, after := #[{ on := 5, ground := Go.Ground.data }, { on := 6, ground := Go.Ground.data }], guard := none }) (v := ?_) rfl (by kernel_rfl) (by kernel_rfl) (by kernel_rfl) (fun _ _ _ h => h) (Or.inl ⟨by rfl, ?_⟩) (by assumption) ?_
            rotate_left
            · intro w hSw; (try dsimp only at hSw); go_simp <;> first | with_reducible rfl | (rw [if_neg (by first | omega | (simp only [ByteArray.size_append] at *; omega))])
            simp only [Act.put, List.setIfInBounds_toArray, List.set_cons_zero, List.set_cons_succ]
            refine wpAnyH_take (i := 8) (oi := { dst := some 44, op := Go.Op.fieldAddr 53 (Go.Operand.tmp 43) 0, type := 0, pos := _, after := #[{ on := 7, ground := Go.Ground.data }], guard := none }) (v := ?_) rfl (by kernel_rfl) (by kernel_rfl) (by kernel_rfl) (fun _ _ _ h => h) (Or.inl ⟨by rfl, ?_⟩) (by assumption) ?_
            rotate_left
            · intro w hSw; (try dsimp only at hSw); go_simp <;> first | with_reducible rfl | (rw [if_neg (by first | omega | (simp only [ByteArray.size_append] at *; omega))])
            simp only [Act.put, List.setIfInBounds_toArray, List.set_cons_zero, List.set_cons_succ]
            refine wpAnyH_take (i := 9) (oi := { dst := some 45, op := Go.Op.load 9 (Go.Operand.tmp 44), type := 9, pos := _, after := #[{ on := 8, ground := Go.Ground.data }], guard := none }) (v := ?_) rfl (by kernel_rfl) (by kernel_rfl) (by kernel_rfl) (fun _ _ _ h => h) (Or.inl ⟨by rfl, ?_⟩) (by assumption) ?_
            rotate_left
            · intro w hSw; (try dsimp only at hSw); go_simp <;> first | with_reducible rfl | (rw [if_neg (by first | omega | (simp only [ByteArray.size_append] at *; omega))])
            simp only [Act.put, List.setIfInBounds_toArray, List.set_cons_zero, List.set_cons_succ]
            refine wpAnyH_ready (rs := [3]) (by kernel_rfl) (by simp) ?_
            refine AllReadyH.cons (o := { dst := some 39, op := Go.Op.call { callee := Go.Callee.value (Go.Operand.func 21), args := #[], argTypes := #[] }, type := 30, pos := _, after := #[], guard := none }) rfl (fun K hK => ?_) AllReadyH.nil
            go_simp
            refine (nought_at _).mono ?_
            rintro e v1 ⟨rfl, hb1⟩
            have K1 := hid (K0.out.keep hb1)
            go_wp2_with fail
            refine hK.out _ _ ?_ (fun hHeld1 => ?_)
            · exact HS.out _ _ K1.out
            clear hK K
            clear hb1
            refine wpAnyH_ready (rs := [10]) (by kernel_rfl) (by simp) ?_
            refine AllReadyH.cons (o := { dst := some 46, op := Go.Op.call { callee := Go.Callee.value (Go.Operand.func 19), args := #[Go.Operand.tmp 45], argTypes := #[9] }, type := 30, pos := _, after := #[{ on := 9, ground := Go.Ground.data }, { on := 3, ground := Go.Ground.chain }], guard := none }) rfl (fun K hK => ?_) AllReadyH.nil
            go_simp
            refine (name_at nm _).mono ?_
            rintro e v2 ⟨rfl, hb2⟩
            have K2 := hid (K1.out.keep hb2)
            go_wp2_with fail
            refine hK.out _ _ ?_ (fun hHeld2 => ?_)
            · exact HS.out _ _ K2.out
            clear hK K
            clear hb2
            refine wpAnyH_ready (rs := [11]) (by kernel_rfl) (by simp) ?_
            refine AllReadyH.cons (o := { dst := some 47, op := Go.Op.buildSlice 28 1 #[(0, Go.Operand.tmp 46)], type := 28, pos := _, after := #[{ on := 10, ground := Go.Ground.data }], guard := none }) rfl (fun K hK => ?_) AllReadyH.nil
            go_simp
            go_wp2_with fail
            have L3 := hid ((Hi.one (x := ⟨3, 0, nm, []⟩) (lo := fb + 1) (fun V _ => st_leaf V ⟨3, 0, nm, []⟩ rfl (by show (3 : Nat) < 256; omega) ⟨by show (-9223372036854775808 : Int) ≤ 0; omega, by show (0 : Int) ≤ _; omega⟩ HNM.out) 19 (by decide) K2.out.q.lt))
            have K3 := hid (K2.out.keep ((Below.refl _ _).alloc (Nat.le_refl _) (.cells #[.int .u8 3, .int .i64 0, .string nm, .slice none 0 0] 30)))
            refine hK.out _ _ ?_ (fun hHeld3 => ?_)
            · exact HS.out _ _ K3.out
            clear hK K
            refine wpAnyH_ready (rs := [12]) (by kernel_rfl) (by simp) ?_
            refine AllReadyH.cons (o := { dst := some 48, op := Go.Op.call { callee := Go.Callee.value (Go.Operand.func 20), args := #[Go.Operand.const (Go.Value.int Go.IntKind.u8 19), Go.Operand.tmp 47], argTypes := #[27, 28] }, type := 30, pos := _, after := #[{ on := 11, ground := Go.Ground.data }, { on := 10, ground := Go.Ground.chain }], guard := none }) rfl (fun K hK => ?_) AllReadyH.nil
            go_simp
            refine (of_pl 19 _ _ _ _).mono ?_
            rintro e v4 ⟨rfl, hb4⟩
            have K4 := hid (K3.out.keep hb4)
            have L4 := hid (L3.out.keep hb4 K3.out.q.lt)
            go_wp2_with fail
            refine hK.out _ _ ?_ (fun hHeld4 => ?_)
            · exact HS.out _ _ K4.out
            clear hK K
            clear hb4
            refine wpAnyH_ready (rs := [13]) (by kernel_rfl) (by simp) ?_
            refine AllReadyH.cons (o := { dst := some 49, op := Go.Op.buildSlice 28 2 #[(0, Go.Operand.tmp 39), (1, Go.Operand.tmp 48)], type := 28, pos := _, after := #[{ on := 3, ground := Go.Ground.data }, { on := 12, ground := Go.Ground.data }], guard := none }) rfl (fun K hK => ?_) AllReadyH.nil
            go_simp
            go_wp2_with fail
            have L5 := hid ((Hi.two (x := exO) (y := preB nm) (lo := fb + 1) (fun V _ => stO V) 18 (by decide) L4.out K4.out.q.lt))
            have K5 := hid (K4.out.keep ((Below.refl _ _).alloc (Nat.le_refl _) (.cells #[.int .u8 1, .int .i64 0, .string ⟨#[]⟩, .slice none 0 0, .int .u8 19, .int .i64 0, .string ⟨#[]⟩, .slice (some ⟨v2.heap.size, 0, none⟩) 1 1] 30)))
            refine hK.out _ _ ?_ (fun hHeld5 => ?_)
            · exact HS.out _ _ K5.out
            clear hK K
            refine wpAnyH_ready (rs := [14]) (by kernel_rfl) (by simp) ?_
            refine AllReadyH.cons (o := { dst := some 50, op := Go.Op.call { callee := Go.Callee.value (Go.Operand.func 20), args := #[Go.Operand.const (Go.Value.int Go.IntKind.u8 18), Go.Operand.tmp 49], argTypes := #[27, 28] }, type := 30, pos := _, after := #[{ on := 13, ground := Go.Ground.data }, { on := 12, ground := Go.Ground.chain }], guard := none }) rfl (fun K hK => ?_) AllReadyH.nil
            go_simp
            refine (of_pl 18 _ _ _ _).mono ?_
            rintro e v6 ⟨rfl, hb6⟩
            have K6 := hid (K5.out.keep hb6)
            have L6 := hid (L5.out.keep hb6 K5.out.q.lt)
            go_wp2_with fail
            refine hK.out _ _ ?_ (fun hHeld6 => ?_)
            · exact HS.out _ _ K6.out
            clear hK K
            clear hb6
            refine wpAnyH_take (i := 15) (oi := { dst := some 51, op := Go.Op.indexAddr 23 (Go.Operand.tmp 37) (Go.Operand.tmp 38), type := 0, pos := _, after := #[{ on := 1, ground := Go.Ground.data }, { on := 2, ground := Go.Ground.data }, { on := 0, ground := Go.Ground.phase }, { on := 1, ground := Go.Ground.phase }, { on := 2, ground := Go.Ground.phase }, { on := 3, ground := Go.Ground.phase }, { on := 4, ground := Go.Ground.phase }, { on := 5, ground := Go.Ground.phase }, { on := 6, ground := Go.Ground.phase }, { on := 7, ground := Go.Ground.phase }, { on := 8, ground := Go.Ground.phase }, { on := 9, ground := Go.Ground.phase }, { on := 10, ground := Go.Ground.phase }, { on := 11, ground := Go.Ground.phase }, { on := 12, ground := Go.Ground.phase }, { on := 13, ground := Go.Ground.phase }, { on := 14, ground := Go.Ground.phase }], guard := none }) (v := ?_) rfl (by kernel_rfl) (by kernel_rfl) (by kernel_rfl) (fun _ _ _ h => h) (Or.inl ⟨by rfl, ?_⟩) (by assumption) ?_
            rotate_left
            · intro w hSw; (try dsimp only at hSw); go_simp <;> first | with_reducible rfl | (rw [if_neg (by first | omega | (simp only [ByteArray.size_append] at *; omega))])
            simp only [Act.put, List.setIfInBounds_toArray, List.set_cons_zero, List.set_cons_succ]
            refine wpAnyH_take (i := 16) (oi := { dst := some 52, op := Go.Op.fieldAddr 53 (Go.Operand.tmp 51) 4, type := 0, pos := _, after := #[{ on := 15, ground := Go.Ground.data }, { on := 0, ground := Go.Ground.phase }, { on := 1, ground := Go.Ground.phase }, { on := 2, ground := Go.Ground.phase }, { on := 3, ground := Go.Ground.phase }, { on := 4, ground := Go.Ground.phase }, { on := 5, ground := Go.Ground.phase }, { on := 6, ground := Go.Ground.phase }, { on := 7, ground := Go.Ground.phase }, { on := 8, ground := Go.Ground.phase }, { on := 9, ground := Go.Ground.phase }, { on := 10, ground := Go.Ground.phase }, { on := 11, ground := Go.Ground.phase }, { on := 12, ground := Go.Ground.phase }, { on := 13, ground := Go.Ground.phase }, { on := 14, ground := Go.Ground.phase }], guard := none }) (v := ?_) rfl (by kernel_rfl) (by kernel_rfl) (by kernel_rfl) (fun _ _ _ h => h) (Or.inl ⟨by rfl, ?_⟩) (by assumption) ?_
            rotate_left
            · intro w hSw; (try dsimp only at hSw); go_simp <;> first | with_reducible rfl | (rw [if_neg (by first | omega | (simp only [ByteArray.size_append] at *; omega))])
            simp only [Act.put, List.setIfInBounds_toArray, List.set_cons_zero, List.set_cons_succ]
            refine wpAnyH_ready (rs := [17]) (by kernel_rfl) (by simp) ?_
            refine AllReadyH.cons (o := { dst := none, op := Go.Op.store 30 (Go.Operand.tmp 52) (Go.Operand.tmp 50), type := 0, pos := _, after := #[{ on := 16, ground := Go.Ground.data }, { on := 14, ground := Go.Ground.data }, { on := 14, ground := Go.Ground.chain }, { on := 0, ground := Go.Ground.phase }, { on := 1, ground := Go.Ground.phase }, { on := 2, ground := Go.Ground.phase }, { on := 3, ground := Go.Ground.phase }, { on := 4, ground := Go.Ground.phase }, { on := 5, ground := Go.Ground.phase }, { on := 6, ground := Go.Ground.phase }, { on := 7, ground := Go.Ground.phase }, { on := 8, ground := Go.Ground.phase }, { on := 9, ground := Go.Ground.phase }, { on := 10, ground := Go.Ground.phase }, { on := 11, ground := Go.Ground.phase }, { on := 12, ground := Go.Ground.phase }, { on := 13, ground := Go.Ground.phase }, { on := 14, ground := Go.Ground.phase }], guard := none }) rfl (fun K hK => ?_) AllReadyH.nil
            refine if_take (by rfl) ?_
            refine wp_store_mid 30 _ _ rfl fb (k * 8 + 4) #[.int .u8 18, .int .i64 0, .string ⟨#[]⟩, .slice (some ⟨v4.heap.size, 0, none⟩) 2 2] rfl rfl (K6.out.q.blk.there (by have := K6.out.q.len; rw [bod_len] at this; simp; omega)) info30 (by simp [Value.oneCell']) ?_
            have NX : Hid (BQ w p (.slice a0 p.ins.length a1) (.slice (some ⟨gb, go, none⟩) p.flows.length b1) (.slice c0 p.outs.length c1) fb cap kq (.slice (some ⟨ib, 0, none⟩) p.ins.length ic) (.slice (some ⟨ob, 0, none⟩) p.outs.length oc) (k + 1) (v6.setCells fb (k * 8 + 4) (#[.int .u8 18, .int .i64 0, .string ⟨#[]⟩, .slice (some ⟨v4.heap.size, 0, none⟩) 2 2] : Array Value).toList)) := hid (K6.out.put hkl HKN.out L6.out)
            refine hK.out _ _ ?_ (fun hHeld7 => ?_)
            · exact HS.out _ _ NX.out
            clear hK K
            refine wpAnyH_done (by kernel_rfl) ?_ _
            generalize v6.setCells fb (k * 8 + 4) (#[.int .u8 18, .int .i64 0, .string ⟨#[]⟩, .slice (some ⟨v4.heap.size, 0, none⟩) 2 2] : Array Value).toList = V9 at *
            go_wp2_with (fail)
            go_roundw
            case rel => exact ⟨k + 1, by omega, by go_num, NX⟩
            case measure => simp [intOf]; omega
          · have hkl' : ¬ (k : Int) < (p.flows.length : Int) := by omega
            obtain rfl : k = p.flows.length := by omega
            have Q8 := HQ.out.q.at
            rw [bod_congr (gK p.flows.length) (fun _ f => begB f.name) p.flows (fun i hi => if_pos hi), bod_len] at Q8
            have PQ8 := hid Q8
            have RW8 := hid (And.intro HQ.out.row (And.intro HQ.out.qrow HQ.out.below))
            clear Q8 HQ Q0 hkl hk
            obtain ⟨m, hm⟩ : ∃ m, which % p.flows.length = m := ⟨_, rfl⟩
            have hkl : m < p.flows.length := by rw [← hm]; exact Nat.mod_lt _ (by omega)
            have hmod : (which : Int) % (p.flows.length : Int) = (m : Int) := by rw [← hm]; simp
            have hmod' : Int.tmod (which : Int) (p.flows.length : Int) = (m : Int) := by rw [← hmod]; exact Int.tmod_eq_emod_of_nonneg (by omega)
            have hwr : IntKind.i64.wrap (which : Int) = (which : Int) := by rw [IntKind.wrap_i64]; omega
            have hwm : IntKind.i64.wrap (m : Int) = (m : Int) := by rw [IntKind.wrap_i64]; omega
            clear hm
            go_wp2_with (fail)
            refine (twin_prog (bodP (fun _ f => begB f.name) p) _ _ _ _ PQ8.out).mono ?_
            rintro e w10 ⟨ar, br, cr, rfl, hT, hb10⟩
            obtain ⟨fb2, cap2, _, rfl, hfb2, _⟩ := id hT.flows
            obtain ⟨ib2, ic2, rfl, _⟩ := id hT.ins
            obtain ⟨ob2, oc2, rfl, _⟩ := id hT.outs
            rw [show (bodP (fun _ f => begB f.name) p).flows.length = p.flows.length from bod_len _ _] at hT ⊢
            have hTq := PQ.ofTw hT
            have BA := (Below.refl w10.heap.size w10).alloc (Nat.le_refl _) (.cells #[.int .i64 p.st, (.slice (some ⟨ib2, 0, none⟩) p.ins.length ic2), (.slice (some ⟨fb2, 0, none⟩) p.flows.length cap2), (.slice (some ⟨ob2, 0, none⟩) p.outs.length oc2)] 26)
            have R0 : Hid (BR wr p w10.heap.size fb2 cap2 (.slice (some ⟨ib2, 0, none⟩) p.ins.length ic2) (.slice (some ⟨ob2, 0, none⟩) p.outs.length oc2) (bod (fun _ f => begB f.name) p.flows) (w10.alloc (.cells #[.int .i64 p.st, (.slice (some ⟨ib2, 0, none⟩) p.ins.length ic2), (.slice (some ⟨fb2, 0, none⟩) p.flows.length cap2), (.slice (some ⟨ob2, 0, none⟩) p.outs.length oc2)] 26))) := hid ⟨heap_alloc_new w10 _, by have h := hTq.keep BA; exact ⟨h.st, h.ins, h.insAt, h.outs, h.outsAt, h.len, h.ok, h.flows, h.blk⟩, ⟨hfb2, by have := hTq.lt; omega⟩, bstep hb10 BA⟩
            clear BA hT hTq hb10 hfb2 s0 s1 s2 s3 r0 r1 r2 r3
            go_wp2_with (fail)
            generalize w10.alloc (.cells #[.int .i64 p.st, (.slice (some ⟨ib2, 0, none⟩) p.ins.length ic2), (.slice (some ⟨fb2, 0, none⟩) p.flows.length cap2), (.slice (some ⟨ob2, 0, none⟩) p.outs.length oc2)] 26) = W9 at *
            generalize w10.heap.size = kr at *
            generalize wr = W8 at *
            have h00 : 0 < p.flows.length := by omega
            have h00' : (0 : Int) < (p.flows.length : Int) := by omega
            have HNM : Hid (p.flows[0].name.size ≤ 140737488355328) := hid (HOK.out _ (List.getElem_mem h00)).1
            have hck := (HCC.out 0 h00).1
            rw [Nat.zero_mul, Nat.add_zero] at hck
            have HCK := hid hck
            have HCV := hid (ck_pre HN.out hkl (nm := p.flows[0].name) ⟨_, List.getElem_mem h00, rfl⟩)
            have HCB := hid (ck_beg HN.out)
            clear hck
            generalize p.flows[0].name = nm at *
            generalize m = k at *
            have HS : Hid (∀ (l : List Fl) (W : World), BR W8 p kr fb2 cap2 (.slice (some ⟨ib2, 0, none⟩) p.ins.length ic2) (.slice (some ⟨ob2, 0, none⟩) p.outs.length oc2) l W → W.cell? ⟨w.heap.size, 0, none⟩ = some (.int .i64 p.st) ∧ W.cell? ⟨w.heap.size, 1, none⟩ = some ((.slice a0 p.ins.length a1)) ∧ W.cell? ⟨w.heap.size, 2, none⟩ = some ((.slice (some ⟨gb, go, none⟩) p.flows.length b1)) ∧ W.cell? ⟨w.heap.size, 3, none⟩ = some ((.slice c0 p.outs.length c1)) ∧ W.cell? ⟨kr, 0, none⟩ = some (.int .i64 p.st) ∧ W.cell? ⟨kr, 1, none⟩ = some ((.slice (some ⟨ib2, 0, none⟩) p.ins.length ic2)) ∧ W.cell? ⟨kr, 2, none⟩ = some ((.slice (some ⟨fb2, 0, none⟩) p.flows.length cap2)) ∧ W.cell? ⟨kr, 3, none⟩ = some ((.slice (some ⟨ob2, 0, none⟩) p.outs.length oc2)) ∧ W.cell? ⟨gb, go, none⟩ = some (.string nm)) := hid (fun l W h => by
              obtain ⟨a0, a1, a2, a3⟩ := row4 (keep_row RW8.out.1 h.below)
              obtain ⟨b0, b1, b2, b3⟩ := row4 h.rrow
              exact ⟨a0, a1, a2, a3, b0, b1, b2, b3, cell_kept HCK.out (bstep RW8.out.2.2 h.below)⟩)
            have K0 := hid (R0.out.keep (Below.refl _ _).drew)
            clear R0
            refine wp_region_held_drew (S := fun W => W.cell? ⟨w.heap.size, 0, none⟩ = some (.int .i64 p.st) ∧ W.cell? ⟨w.heap.size, 1, none⟩ = some ((.slice a0 p.ins.length a1)) ∧ W.cell? ⟨w.heap.size, 2, none⟩ = some ((.slice (some ⟨gb, go, none⟩) p.flows.length b1)) ∧ W.cell? ⟨w.heap.size, 3, none⟩ = some ((.slice c0 p.outs.length c1)) ∧ W.cell? ⟨kr, 0, none⟩ = some (.int .i64 p.st) ∧ W.cell? ⟨kr, 1, none⟩ = some ((.slice (some ⟨ib2, 0, none⟩) p.ins.length ic2)) ∧ W.cell? ⟨kr, 2, none⟩ = some ((.slice (some ⟨fb2, 0, none⟩) p.flows.length cap2)) ∧ W.cell? ⟨kr, 3, none⟩ = some ((.slice (some ⟨ob2, 0, none⟩) p.outs.length oc2)) ∧ W.cell? ⟨gb, go, none⟩ = some (.string nm)) (by kernel_rfl) ?_ (fun hHeld => ?_)
            · exact HS.out _ _ K0.out
            refine wpAnyH_take (i := 0) (oi := { dst := some 61, op := Go.Op.fieldAddr 26 (Go.Operand.tmp 8) 2, type := 0, pos := _, after := #[], guard := none }) (v := ?_) rfl (by kernel_rfl) (by kernel_rfl) (by kernel_rfl) (fun _ _ _ h => h) (Or.inl ⟨by rfl, ?_⟩) (by assumption) ?_
            rotate_left
            · intro w hSw; (try dsimp only at hSw); go_simp <;> first | with_reducible rfl | (rw [if_neg (by first | omega | (simp only [ByteArray.size_append] at *; omega))])
            simp only [Act.put, List.setIfInBounds_toArray, List.set_cons_zero, List.set_cons_succ]
            refine wpAnyH_take (i := 1) (oi := { dst := some 62, op := Go.Op.load 23 (Go.Operand.tmp 61), type := 23, pos := _, after := #[{ on := 0, ground := Go.Ground.data }], guard := none }) (v := ?_) rfl (by kernel_rfl) (by kernel_rfl) (by kernel_rfl) (fun _ _ _ h => h) (Or.inl ⟨by rfl, ?_⟩) (by assumption) ?_
            rotate_left
            · intro w hSw; (try dsimp only at hSw); go_simp <;> first | with_reducible rfl | (rw [if_neg (by first | omega | (simp only [ByteArray.size_append] at *; omega))])
            simp only [Act.put, List.setIfInBounds_toArray, List.set_cons_zero, List.set_cons_succ]
            refine wpAnyH_take (i := 2) (oi := { dst := some 63, op := Go.Op.move (Go.Operand.tmp 7), type := 3, pos := _, after := #[], guard := none }) (v := ?_) rfl (by kernel_rfl) (by kernel_rfl) (by kernel_rfl) (fun _ _ _ h => h) (Or.inl ⟨by rfl, ?_⟩) (by assumption) ?_
            rotate_left
            · intro w hSw; (try dsimp only at hSw); go_simp <;> first | with_reducible rfl | (rw [if_neg (by first | omega | (simp only [ByteArray.size_append] at *; omega))])
            simp only [Act.put, List.setIfInBounds_toArray, List.set_cons_zero, List.set_cons_succ]
            refine wpAnyH_take (i := 3) (oi := { dst := some 64, op := Go.Op.fieldAddr 26 (Go.Operand.tmp 2) 2, type := 0, pos := _, after := #[], guard := none }) (v := ?_) rfl (by kernel_rfl) (by kernel_rfl) (by kernel_rfl) (fun _ _ _ h => h) (Or.inl ⟨by rfl, ?_⟩) (by assumption) ?_
            rotate_left
            · intro w hSw; (try dsimp only at hSw); go_simp <;> first | with_reducible rfl | (rw [if_neg (by first | omega | (simp only [ByteArray.size_append] at *; omega))])
            simp only [Act.put, List.setIfInBounds_toArray, List.set_cons_zero, List.set_cons_succ]
            refine wpAnyH_take (i := 4) (oi := { dst := some 65, op := Go.Op.load 23 (Go.Operand.tmp 64), type := 23, pos := _, after := #[{ on := 3, ground := Go.Ground.data }], guard := none }) (v := ?_) rfl (by kernel_rfl) (by kernel_rfl) (by kernel_rfl) (fun _ _ _ h => h) (Or.inl ⟨by rfl, ?_⟩) (by assumption) ?_
            rotate_left
            · intro w hSw; (try dsimp only at hSw); go_simp <;> first | with_reducible rfl | (rw [if_neg (by first | omega | (simp only [ByteArray.size_append] at *; omega))])
            simp only [Act.put, List.setIfInBounds_toArray, List.set_cons_zero, List.set_cons_succ]
            refine wpAnyH_take (i := 5) (oi := { dst := some 66, op := Go.Op.indexAddr 23 (Go.Operand.tmp 65) (Go.Operand.const (Go.Value.int Go.IntKind.i64 0)), type := 0, pos := _, after := #[{ on := 4, ground := Go.Ground.data }], guard := none }) (v := ?_) rfl (by kernel_rfl) (by kernel_rfl) (by kernel_rfl) (fun _ _ _ h => h) (Or.inl ⟨by rfl, ?_⟩) (by assumption) ?_
            rotate_left
            · intro w hSw; (try dsimp only at hSw); go_simp <;> first | with_reducible rfl | (rw [if_neg (by first | omega | (simp only [ByteArray.size_append] at *; omega))])
            simp only [Act.put, List.setIfInBounds_toArray, List.set_cons_zero, List.set_cons_succ]
            refine wpAnyH_take (i := 6) (oi := { dst := some 67, op := Go.Op.fieldAddr 53 (Go.Operand.tmp 66) 0, type := 0, pos := _, after := #[{ on := 5, ground := Go.Ground.data }], guard := none }) (v := ?_) rfl (by kernel_rfl) (by kernel_rfl) (by kernel_rfl) (fun _ _ _ h => h) (Or.inl ⟨by rfl, ?_⟩) (by assumption) ?_
            rotate_left
            · intro w hSw; (try dsimp only at hSw); go_simp <;> first | with_reducible rfl | (rw [if_neg (by first | omega | (simp only [ByteArray.size_append] at *; omega))])
            simp only [Act.put, List.setIfInBounds_toArray, List.set_cons_zero, List.set_cons_succ]
            refine wpAnyH_take (i := 7) (oi := { dst := some 68, op := Go.Op.load 9 (Go.Operand.tmp 67), type := 9, pos := _, after := #[{ on := 6, ground := Go.Ground.data }], guard := none }) (v := ?_) rfl (by kernel_rfl) (by kernel_rfl) (by kernel_rfl) (fun _ _ _ h => h) (Or.inl ⟨by rfl, ?_⟩) (by assumption) ?_
            rotate_left
            · intro w hSw; (try dsimp only at hSw); go_simp <;> first | with_reducible rfl | (rw [if_neg (by first | omega | (simp only [ByteArray.size_append] at *; omega))])
            simp only [Act.put, List.setIfInBounds_toArray, List.set_cons_zero, List.set_cons_succ]
            refine wpAnyH_ready (rs := [8]) (by kernel_rfl) (by simp) ?_
            refine AllReadyH.cons (o := { dst := some 69, op := Go.Op.call { callee := Go.Callee.value (Go.Operand.func 19), args := #[Go.Operand.tmp 68], argTypes := #[9] }, type := 30, pos := _, after := #[{ on := 7, ground := Go.Ground.data }], guard := none }) rfl (fun K hK => ?_) AllReadyH.nil
            go_simp
            refine (name_at nm _).mono ?_
            rintro e v1 ⟨rfl, hb1⟩
            have K1 := hid (K0.out.keep hb1)
            go_wp2_with fail
            refine hK.out _ _ ?_ (fun hHeld1 => ?_)
            · exact HS.out _ _ K1.out
            clear hK K
            clear hb1
            refine wpAnyH_ready (rs := [9]) (by kernel_rfl) (by simp) ?_
            refine AllReadyH.cons (o := { dst := some 70, op := Go.Op.buildSlice 28 1 #[(0, Go.Operand.tmp 69)], type := 28, pos := _, after := #[{ on := 8, ground := Go.Ground.data }], guard := none }) rfl (fun K hK => ?_) AllReadyH.nil
            go_simp
            go_wp2_with fail
            have L2 := hid ((Hi.one (x := ⟨3, 0, nm, []⟩) (lo := fb2 + 1) (fun V _ => st_leaf V ⟨3, 0, nm, []⟩ rfl (by show (3 : Nat) < 256; omega) ⟨by show (-9223372036854775808 : Int) ≤ 0; omega, by show (0 : Int) ≤ _; omega⟩ HNM.out) 19 (by decide) K1.out.q.lt))
            have K2 := hid (K1.out.keep ((Below.refl _ _).alloc (Nat.le_refl _) (.cells #[.int .u8 3, .int .i64 0, .string nm, .slice none 0 0] 30)))
            refine hK.out _ _ ?_ (fun hHeld2 => ?_)
            · exact HS.out _ _ K2.out
            clear hK K
            refine wpAnyH_ready (rs := [10]) (by kernel_rfl) (by simp) ?_
            refine AllReadyH.cons (o := { dst := some 71, op := Go.Op.call { callee := Go.Callee.value (Go.Operand.func 20), args := #[Go.Operand.const (Go.Value.int Go.IntKind.u8 19), Go.Operand.tmp 70], argTypes := #[27, 28] }, type := 30, pos := _, after := #[{ on := 9, ground := Go.Ground.data }, { on := 8, ground := Go.Ground.chain }], guard := none }) rfl (fun K hK => ?_) AllReadyH.nil
            go_simp
            refine (of_pl 19 _ _ _ _).mono ?_
            rintro e v3 ⟨rfl, hb3⟩
            have K3 := hid (K2.out.keep hb3)
            have L3 := hid (L2.out.keep hb3 K2.out.q.lt)
            go_wp2_with fail
            refine hK.out _ _ ?_ (fun hHeld3 => ?_)
            · exact HS.out _ _ K3.out
            clear hK K
            clear hb3
            refine wpAnyH_take (i := 11) (oi := { dst := some 72, op := Go.Op.indexAddr 23 (Go.Operand.tmp 62) (Go.Operand.tmp 63), type := 0, pos := _, after := #[{ on := 1, ground := Go.Ground.data }, { on := 2, ground := Go.Ground.data }, { on := 0, ground := Go.Ground.phase }, { on := 1, ground := Go.Ground.phase }, { on := 2, ground := Go.Ground.phase }, { on := 3, ground := Go.Ground.phase }, { on := 4, ground := Go.Ground.phase }, { on := 5, ground := Go.Ground.phase }, { on := 6, ground := Go.Ground.phase }, { on := 7, ground := Go.Ground.phase }, { on := 8, ground := Go.Ground.phase }, { on := 9, ground := Go.Ground.phase }, { on := 10, ground := Go.Ground.phase }], guard := none }) (v := ?_) rfl (by kernel_rfl) (by kernel_rfl) (by kernel_rfl) (fun _ _ _ h => h) (Or.inl ⟨by rfl, ?_⟩) (by assumption) ?_
            rotate_left
            · intro w hSw; (try dsimp only at hSw); go_simp <;> first | with_reducible rfl | (rw [if_neg (by first | omega | (simp only [ByteArray.size_append] at *; omega))])
            simp only [Act.put, List.setIfInBounds_toArray, List.set_cons_zero, List.set_cons_succ]
            refine wpAnyH_take (i := 12) (oi := { dst := some 73, op := Go.Op.fieldAddr 53 (Go.Operand.tmp 72) 4, type := 0, pos := _, after := #[{ on := 11, ground := Go.Ground.data }, { on := 0, ground := Go.Ground.phase }, { on := 1, ground := Go.Ground.phase }, { on := 2, ground := Go.Ground.phase }, { on := 3, ground := Go.Ground.phase }, { on := 4, ground := Go.Ground.phase }, { on := 5, ground := Go.Ground.phase }, { on := 6, ground := Go.Ground.phase }, { on := 7, ground := Go.Ground.phase }, { on := 8, ground := Go.Ground.phase }, { on := 9, ground := Go.Ground.phase }, { on := 10, ground := Go.Ground.phase }], guard := none }) (v := ?_) rfl (by kernel_rfl) (by kernel_rfl) (by kernel_rfl) (fun _ _ _ h => h) (Or.inl ⟨by rfl, ?_⟩) (by assumption) ?_
            rotate_left
            · intro w hSw; (try dsimp only at hSw); go_simp <;> first | with_reducible rfl | (rw [if_neg (by first | omega | (simp only [ByteArray.size_append] at *; omega))])
            simp only [Act.put, List.setIfInBounds_toArray, List.set_cons_zero, List.set_cons_succ]
            refine wpAnyH_ready (rs := [13]) (by kernel_rfl) (by simp) ?_
            refine AllReadyH.cons (o := { dst := none, op := Go.Op.store 30 (Go.Operand.tmp 73) (Go.Operand.tmp 71), type := 0, pos := _, after := #[{ on := 12, ground := Go.Ground.data }, { on := 10, ground := Go.Ground.data }, { on := 10, ground := Go.Ground.chain }, { on := 0, ground := Go.Ground.phase }, { on := 1, ground := Go.Ground.phase }, { on := 2, ground := Go.Ground.phase }, { on := 3, ground := Go.Ground.phase }, { on := 4, ground := Go.Ground.phase }, { on := 5, ground := Go.Ground.phase }, { on := 6, ground := Go.Ground.phase }, { on := 7, ground := Go.Ground.phase }, { on := 8, ground := Go.Ground.phase }, { on := 9, ground := Go.Ground.phase }, { on := 10, ground := Go.Ground.phase }], guard := none }) rfl (fun K hK => ?_) AllReadyH.nil
            refine if_take (by rfl) ?_
            refine wp_store_mid 30 _ _ rfl fb2 (k * 8 + 4) #[.int .u8 19, .int .i64 0, .string ⟨#[]⟩, .slice (some ⟨v1.heap.size, 0, none⟩) 1 1] rfl rfl (K3.out.q.blk.there (by have := K3.out.q.len; rw [bod_len] at this; simp; omega)) info30 (by simp [Value.oneCell']) ?_
            have NX : Hid (BR W8 p kr fb2 cap2 (.slice (some ⟨ib2, 0, none⟩) p.ins.length ic2) (.slice (some ⟨ob2, 0, none⟩) p.outs.length oc2) (bod (fun i f => if i = k then preB nm else begB f.name) p.flows) (v3.setCells fb2 (k * 8 + 4) (#[.int .u8 19, .int .i64 0, .string ⟨#[]⟩, .slice (some ⟨v1.heap.size, 0, none⟩) 1 1] : Array Value).toList)) := hid (K3.out.put hkl L3.out)
            refine hK.out _ _ ?_ (fun hHeld4 => ?_)
            · exact HS.out _ _ NX.out
            clear hK K
            refine wpAnyH_done (by kernel_rfl) ?_ _
            generalize v3.setCells fb2 (k * 8 + 4) (#[.int .u8 19, .int .i64 0, .string ⟨#[]⟩, .slice (some ⟨v1.heap.size, 0, none⟩) 1 1] : Array Value).toList = V9 at *
            have B9 := hid (bstep RW8.out.2.2 NX.out.below)
            obtain ⟨q0, q1, q2, q3⟩ := row4 (keep_row RW8.out.2.1 NX.out.below)
            go_wp2_with (fail)
            refine (starts_check (bodP (fun _ f => begB f.name) p) _ _ _ _ (PQ8.out.keep NX.out.below) (HR.out.below B9.out) (HJ.out.below B9.out)).mono ?_
            rintro e w11 ⟨rfl, hb11⟩
            rw [HCB.out]
            have N2 := hid (NX.out.keep hb11)
            have B11 := hid (bstep B9.out hb11)
            clear hb11 q0 q1 q2 q3
            obtain ⟨q0, q1, q2, q3⟩ := row4 N2.out.rrow
            have PA := N2.out.q.at
            rw [bod_len] at PA
            go_wp2_with (fail)
            refine (starts_check (bodP (fun i f => if i = k then preB nm else begB f.name) p) _ _ _ _ PA (HR.out.below B11.out) (HJ.out.below B11.out)).mono ?_
            rintro e w12 ⟨rfl, hb12⟩
            rw [HCV.out]
            have hB := bstep B11.out hb12
            go_wp2_with (fail)
            go_ret
            exact ⟨rfl, hB⟩
    · have hn' : (nmErr p != 0) = true := by simpa using hn
      clear hn
      generalize nmErr p = ne at *
      go_wp2_with (fail)
      refine (alive _ X3.out.R X3.out.J).mono ?_
      rintro e w4 ⟨rfl, hb4⟩
      have X4 := hid (X3.out.keep hb4)
      clear hb4
      have hB := X4.out.below
      go_wp2_with (fail)
      go_ret
      exact ⟨rfl, hB⟩
end Go.Proofs.YtejacmgppnafcaaDoor.Lex
