/-
  What stands in a place that asks for a rank: the contract of part.
  What stands in a place: a choice; and the contract of part, whatever stands there.
  The whole of what is read: a panic is caught, and told as an error.
  What is worked out, from some token on: the contract of Parse.
  The contract of Parse, whatever the tokens.
  Whatever may be is read where its tokens stand.
-/
import Derived.Test.YtkieljleopbhoaaDoorA6
import Derived.ScopeJumps
import Derived.Recover
import Derived.Test.YtkieljleopbhoaaDoorA3
namespace Go.Proofs.YtkieljleopbhoaaDoor.Lex
open Go.ChangeShapes Go.WideShapes Go.ChangeAt Go.RowKit Go.Joins Go.WideMaps Go.WideElems Go.Maps
abbrev c25 : Array Value := #[.int .u8 0, .int .i64 0, .string ⟨#[]⟩, .slice none 0 0]
/-- Where part goes on: what has been read, its rank, and the place. -/
structure PJ (r mp : Nat) (v : Value) (ts : List Mark) (a p : Nat) (w : World) (x : Ex) (s : Value) (rk q b5 : Nat) (W : World) : Prop where
  grown : w.grownBy W (some r)
  rdr : Rdr r mp v ts q W
  box : W.heap[w.heap.size]? = some (.cells c25 25 (0, 0))
  keep : Keep2 w.heap.size W b5 x s
  res : Lp ts a x rk q = P ts a p
  lt : p < q
  rk7 : rk ≤ 7
/-- The whole frame there. -/
def PF (r a B b5 rk : Nat) (act : Act) : Prop := ∃ (u7 u8 u9 u10 u11 u12 u13 u14 u15 u16 u17 u18 u19 u20 u21 u22 u23 u24 u25 u26 u27 u28 u29 u30 u31 u32 u33 u34 u35 u36 u37 u38 u39 u40 u41 u42 u43 u44 u45 u46 u47 u48 u49 u50 u51 u52 u53 u54 u55 u56 u57 u58 u59 : Value), act = { tmps := #[.pointer (some ⟨r, 0, none⟩), .int .i64 (a : Int), undef, undef, .pointer (some ⟨B, 0, none⟩), .pointer (some ⟨b5, 0, none⟩), .int .i64 (rk : Int), u7, u8, u9, u10, u11, u12, u13, u14, u15, u16, u17, u18, u19, u20, u21, u22, u23, u24, u25, u26, u27, u28, u29, u30, u31, u32, u33, u34, u35, u36, u37, u38, u39, u40, u41, u42, u43, u44, u45, u46, u47, u48, u49, u50, u51, u52, u53, u54, u55, u56, u57, u58, u59], defers := [] }
def PA (r mp : Nat) (v : Value) (ts : List Mark) (a p : Nat) (w : World) (act : Act) (W : World) : Prop := ∃ x s rk q b5, PF r a w.heap.size b5 rk act ∧ PJ r mp v ts a p w x s rk q b5 W
theorem e105 : (sgn [105, 102]).toList = [105, 102] := by rw [ByteArray.toList_eq]
theorem prsP_far (ts : List Mark) : ∀ a q x q', P ts a q = .ok (x, q') → q < q' := fun a q x q' h => (prs_far ts _).1 a q x q' h
theorem skip_seq {c : Code} {Q : Exit → Act → World → Prop} {a : Act} {w : World} (h : Code.wp Tryd.prog c Q a w) : Code.wp Tryd.prog (Code.skip.seq c) Q a w := wp_seq (wp_skip h)
set_option maxRecDepth 100000 in
set_option maxHeartbeats 4000000 in
theorem part_at (r mp : Nat) (v : Value) (ts : List Mark) (a p : Nat) (ha : a ≤ 7) (w : World) (h : Rdr r mp v ts p w) (E : PEnv r mp w) (hT : TsOk ts) (hif : ¬ (a = 0 ∧ isMk (markAt ts p) 1 (sgn [105, 102]) = true))
    (ih : ∀ (q b : Nat) W, p < q → b ≤ 7 → w.grownBy W (some r) → Rdr r mp v ts q W → Calls Tryd.prog 65 #[.pointer (some ⟨r, 0, none⟩), .int .i64 (b : Int)] W (Post r mp v ts W (P ts b q))) :
    Calls Tryd.prog 65 #[.pointer (some ⟨r, 0, none⟩), .int .i64 (a : Int)] w (Post r mp v ts w (P ts a p)) := by
  go_enter Tryd.func65, Tryd.ntmps65
  go_wp2
  refine (fun (pass : ∀ act W, PA r mp v ts a p w act W → Code.wp Tryd.prog _ (Exit.jump 0 (fun a' w' => PA r mp v ts a p w a' w' ∧ ts.length - (atR w' r).toNat < ts.length - (atR W r).toNat) _) act W) => wp_scope_jumps 0 (PA r mp v ts a p w) (fun _ W => ts.length - (atR W r).toNat) rfl ?_ (fun act W hJ => skip_seq (pass act W hJ))) ?_
  · have PASS := hid pass
    clear pass
    have b0 := (Below.refl w.heap.size w).alloc (Nat.le_refl _) (.cells c25 25)
    have c0 := peek r mp v ts p _ (h.step b0)
    have ca : ∀ W, Below w.heap.size w W → Calls Tryd.prog 84 #[.pointer (some ⟨r, 0, none⟩)] W (Post r mp v ts W (atomR ts (P ts) p)) := fun W hW => atom_at (h.step hW) (E.below hW) hT (fun b hb W' g hr => ih (p + 1) b W' (by omega) (by omega) (grown_on (grown_below hW _) g) hr)
    have HP := hid (P_atom hif)
    have FAR := hid (fun x q => atomR_far (ts := ts) (part := P ts) (prsP_far ts) (p := p) (q := q) (x := x))
    have B0 := hid b0
    have H := hid h
    have X0 := hid (heap_alloc_new w (.cells c25 25))
    clear b0 ih E hT h
    generalize hR : atomR ts (P ts) p = R at *
    by_cases a0 : a = 0
    · have hm : isMk (markAt ts p) 1 (sgn [105, 102]) = false := by
        cases e : isMk (markAt ts p) 1 (sgn [105, 102]) with
        | false => rfl
        | true => exact (hif ⟨a0, e⟩).elim
      subst a0
      clear hif ha
      generalize markAt ts p = m at *
      cases R with
      | error nq =>
        obtain ⟨n, q⟩ := nq
        rcases isMk_no hm with h1 | ⟨h1, h2⟩ <;> clear hm
        · go_wp2_with (first
            | (go_at_call 80; refine c0.mono ?_; rintro e w2 ⟨rfl, b2⟩; have B2' := hid b2; have B2 := hid (bstep B0.out b2); clear b2 c0)
            | (go_at_call 84; refine (ca _ B2.out).mono ?_; rintro e w3 ⟨g3, rfl, h3⟩; have G3 := hid (grown_on (grown_below B2.out _) g3); have H3 := hid h3; clear g3 h3 ca))
          exact ⟨rfl, by rw [HP.out]; exact ⟨G3.out, rfl, H3.out⟩⟩
        · rw [e105] at h2
          go_wp2_with (first
            | (go_at_call 80; refine c0.mono ?_; rintro e w2 ⟨rfl, b2⟩; have B2' := hid b2; have B2 := hid (bstep B0.out b2); clear b2 c0)
            | (go_at_call 84; refine (ca _ B2.out).mono ?_; rintro e w3 ⟨g3, rfl, h3⟩; have G3 := hid (grown_on (grown_below B2.out _) g3); have H3 := hid h3; clear g3 h3 ca))
          exact ⟨rfl, by rw [HP.out]; exact ⟨G3.out, rfl, H3.out⟩⟩
      | ok xq =>
        obtain ⟨x, q⟩ := xq
        rcases isMk_no hm with h1 | ⟨h1, h2⟩ <;> clear hm
        · go_wp2_with (first
            | (go_at_call 80; refine c0.mono ?_; rintro e w2 ⟨rfl, b2⟩; have B2' := hid b2; have B2 := hid (bstep B0.out b2); clear b2 c0)
            | (go_at_call 84; refine (ca _ B2.out).mono ?_; rintro e w3 ⟨g3, s, rfl, st, h3⟩; obtain ⟨ao, cap, rfl⟩ := st.form; have Z3 := hid (B2.out.size); have SZ := hid (show w.heap.size < w2.heap.size from by have := B2'.out.size; simp at this; omega); have ST := hid (Keep2.new st SZ.out g3.size); have b4 := (Below.refl w3.heap.size w3).alloc (Nat.le_refl _) (.cells (ex4 x (.slice ao x.args.length cap)) 25); have G3 := hid (grown_on (grown_on (grown_below B2.out _) g3) (grown_below b4 _)); have X3 := hid (kept (kept ((B2'.out.block _ (by simp)).trans X0.out) g3 H.out.lt) (grown_below b4 (some r)) H.out.lt); have H3 := hid (h3.step b4); clear g3 h3 ca st b4))
          go_step3
          rename_i K hK
          refine hK _ _ ?_
          clear hK K
          refine Code.wp_mono (fun e _ _ h => ?_) (PASS.out _ _ ⟨x, _, 7, q, w3.heap.size, ⟨_, _, _, _, _, _, _, _, _, _, _, _, _, _, _, _, _, _, _, _, _, _, _, _, _, _, _, _, _, _, _, _, _, _, _, _, _, _, _, _, _, _, _, _, _, _, _, _, _, _, _, _, _, rfl⟩, ⟨G3.out, H3.out, X3.out, ST.out, HP.out.symm, FAR.out x q rfl, by omega⟩⟩)
          · cases e <;> first | exact h | exact ⟨h.1, h.2.1⟩
        · rw [e105] at h2
          go_wp2_with (first
            | (go_at_call 80; refine c0.mono ?_; rintro e w2 ⟨rfl, b2⟩; have B2' := hid b2; have B2 := hid (bstep B0.out b2); clear b2 c0)
            | (go_at_call 84; refine (ca _ B2.out).mono ?_; rintro e w3 ⟨g3, s, rfl, st, h3⟩; obtain ⟨ao, cap, rfl⟩ := st.form; have Z3 := hid (B2.out.size); have SZ := hid (show w.heap.size < w2.heap.size from by have := B2'.out.size; simp at this; omega); have ST := hid (Keep2.new st SZ.out g3.size); have b4 := (Below.refl w3.heap.size w3).alloc (Nat.le_refl _) (.cells (ex4 x (.slice ao x.args.length cap)) 25); have G3 := hid (grown_on (grown_on (grown_below B2.out _) g3) (grown_below b4 _)); have X3 := hid (kept (kept ((B2'.out.block _ (by simp)).trans X0.out) g3 H.out.lt) (grown_below b4 (some r)) H.out.lt); have H3 := hid (h3.step b4); clear g3 h3 ca st b4))
          go_step3
          rename_i K hK
          refine hK _ _ ?_
          clear hK K
          refine Code.wp_mono (fun e _ _ h => ?_) (PASS.out _ _ ⟨x, _, 7, q, w3.heap.size, ⟨_, _, _, _, _, _, _, _, _, _, _, _, _, _, _, _, _, _, _, _, _, _, _, _, _, _, _, _, _, _, _, _, _, _, _, _, _, _, _, _, _, _, _, _, _, _, _, _, _, _, _, _, _, rfl⟩, ⟨G3.out, H3.out, X3.out, ST.out, HP.out.symm, FAR.out x q rfl, by omega⟩⟩)
          · cases e <;> first | exact h | exact ⟨h.1, h.2.1⟩
    · have ha0 : ((a : Int) == 0) = false := by simp; omega
      clear hif c0
      cases R with
      | error nq =>
        obtain ⟨n, q⟩ := nq
        go_wp2_with (first
          | (go_at_call 84; refine (ca _ B0.out).mono ?_; rintro e w3 ⟨g3, rfl, h3⟩; have G3 := hid (grown_on (grown_below B0.out _) g3); have H3 := hid h3; clear g3 h3 ca))
        exact ⟨rfl, by rw [HP.out]; exact ⟨G3.out, rfl, H3.out⟩⟩
      | ok xq =>
        obtain ⟨x, q⟩ := xq
        go_wp2_with (first
          | (go_at_call 84; refine (ca _ B0.out).mono ?_; rintro e w3 ⟨g3, s, rfl, st, h3⟩; obtain ⟨ao, cap, rfl⟩ := st.form; have Z3 := hid (B0.out.size); have SZ := hid (show w.heap.size < (w.alloc (.cells c25 25)).heap.size from by simp); have ST := hid (Keep2.new st SZ.out g3.size); have b4 := (Below.refl w3.heap.size w3).alloc (Nat.le_refl _) (.cells (ex4 x (.slice ao x.args.length cap)) 25); have G3 := hid (grown_on (grown_on (grown_below B0.out _) g3) (grown_below b4 _)); have X3 := hid (kept (kept X0.out g3 H.out.lt) (grown_below b4 (some r)) H.out.lt); have H3 := hid (h3.step b4); clear g3 h3 ca st b4))
        go_step3
        rename_i K hK
        refine hK _ _ ?_
        clear hK K
        refine Code.wp_mono (fun e _ _ h => ?_) (PASS.out _ _ ⟨x, _, 7, q, w3.heap.size, ⟨_, _, _, _, _, _, _, _, _, _, _, _, _, _, _, _, _, _, _, _, _, _, _, _, _, _, _, _, _, _, _, _, _, _, _, _, _, _, _, _, _, _, _, _, _, _, _, _, _, _, _, _, _, rfl⟩, ⟨G3.out, H3.out, X3.out, ST.out, HP.out.symm, FAR.out x q rfl, by omega⟩⟩)
        · cases e <;> first | exact h | exact ⟨h.1, h.2.1⟩
  · rintro act W ⟨x, s, rk, q, b5, ⟨u7, u8, u9, u10, u11, u12, u13, u14, u15, u16, u17, u18, u19, u20, u21, u22, u23, u24, u25, u26, u27, u28, u29, u30, u31, u32, u33, u34, u35, u36, u37, u38, u39, u40, u41, u42, u43, u44, u45, u46, u47, u48, u49, u50, u51, u52, u53, u54, u55, u56, u57, u58, u59, rfl⟩, J⟩
    obtain ⟨ao, cap, rfl⟩ := J.keep.st.form
    have cpk := peek r mp v ts q W J.rdr
    have cj := fun W' (hW : Below W.heap.size W W') => joinAt (markAt ts q) W' ((E.grown J.grown).tabJ.below hW)
    have GR := hid J.grown
    have RD := hid J.rdr
    have KP := hid J.keep
    have XB := hid J.box
    have LT := hid J.lt
    have R7 := hid J.rk7
    have H := hid h
    have E0 := hid E
    cases hj : jAt (markAt ts q) with
    | none =>
      have RES : Hid (P ts a p = .ok (x, q)) := by rw [← J.res, Lp_none hj]; exact hid rfl
      have ej : jAtOut (markAt ts q) = jrow j0 := by unfold jAtOut; rw [hj]; rfl
      simp only [ej, hj, Option.isSome_none] at cj
      clear J h E hj ej ih hT hif
      generalize markAt ts q = m at *
      generalize j0 = j at *
      unfold jrow at cj
      go_wp2_with (first
        | (go_at_call 80; refine cpk.mono ?_; rintro e w2 ⟨rfl, b2⟩; have B2 := hid b2; clear b2 cpk)
        | (go_at_call 85; refine (cj _ B2.out).mono ?_; rintro e w3 ⟨rfl, b3⟩; have b4 := bstep (bstep B2.out b3) ((Below.refl w3.heap.size w3).alloc (Nat.le_refl _) (.cells (jrow j) 83)); have B4 := hid b4; have X5 := (b4.block _ (Array.getElem?_eq_some_iff.1 KP.out.row).1).trans KP.out.row; have X4 := (b4.block _ (Array.getElem?_eq_some_iff.1 XB.out).1).trans XB.out; clear b3 b4 cj)
        | (refine wpList_load_row rfl 25 _ rfl b5 rfl 25 (ex4 x (.slice ao x.args.length cap)) (0, 0) _ X5 Tryd.underlying25 rfl info25 ?_)
        | (refine wpList_store_row rfl 25 _ _ rfl w.heap.size (ex4 x (.slice ao x.args.length cap)) rfl rfl 25 _ X4 info25 rfl (by simp [Value.oneCell', ex4]) ?_))
      refine bodyPost_ret (results_cell_row rfl _ _ w.heap.size 25 (ex4 x (.slice ao x.args.length cap)) (0, 0) _ rfl (setRow_heap _ _ _ _ _ _ X4) Tryd.underlying25 rfl info25) rfl ?_
      rw [RES.out]
      refine ⟨grown_setRow (grown_on GR.out (grown_below B4.out _)) _, _, rfl, ?_, H.out.setRow (RD.out.step B4.out) _⟩
      exact StP.carryN (fun b hb hl => (setRow_other _ _ _ _ (by have : w.heap.size < b := hb.1; omega)).trans (B4.out.block b hl)) (fun b _ hb => Nat.le_of_lt hb.1) _ x _ (Nat.le_refl _) KP.out.st
    | some j =>
      have ej : jAtOut (markAt ts q) = jrow j := by unfold jAtOut; rw [hj]; rfl
      simp only [ej] at cj
      rw [hj] at cj
      simp only [Option.isSome_some] at cj
      by_cases c1 : j.rank < a
      · have RES : Hid (P ts a p = .ok (x, q)) := by rw [← J.res, Lp_stop hj (.inl c1)]; exact hid rfl
        have hc1 : (j.rank : Int) < (a : Int) := by omega
        clear J h E hj ej ih hT hif
        generalize markAt ts q = m at *
        unfold jrow at cj
        go_wp2_with (first
          | (go_at_call 80; refine cpk.mono ?_; rintro e w2 ⟨rfl, b2⟩; have B2 := hid b2; clear b2 cpk)
          | (go_at_call 85; refine (cj _ B2.out).mono ?_; rintro e w3 ⟨rfl, b3⟩; have b4 := bstep (bstep B2.out b3) ((Below.refl w3.heap.size w3).alloc (Nat.le_refl _) (.cells (jrow j) 83)); have B4 := hid b4; have X5 := (b4.block _ (Array.getElem?_eq_some_iff.1 KP.out.row).1).trans KP.out.row; have X4 := (b4.block _ (Array.getElem?_eq_some_iff.1 XB.out).1).trans XB.out; clear b3 b4 cj)
          | (refine wpList_load_row rfl 25 _ rfl b5 rfl 25 (ex4 x (.slice ao x.args.length cap)) (0, 0) _ X5 Tryd.underlying25 rfl info25 ?_)
          | (refine wpList_store_row rfl 25 _ _ rfl w.heap.size (ex4 x (.slice ao x.args.length cap)) rfl rfl 25 _ X4 info25 rfl (by simp [Value.oneCell', ex4]) ?_))
        refine bodyPost_ret (results_cell_row rfl _ _ w.heap.size 25 (ex4 x (.slice ao x.args.length cap)) (0, 0) _ rfl (setRow_heap _ _ _ _ _ _ X4) Tryd.underlying25 rfl info25) rfl ?_
        rw [RES.out]
        refine ⟨grown_setRow (grown_on GR.out (grown_below B4.out _)) _, _, rfl, ?_, H.out.setRow (RD.out.step B4.out) _⟩
        exact StP.carryN (fun b hb hl => (setRow_other _ _ _ _ (by have : w.heap.size < b := hb.1; omega)).trans (B4.out.block b hl)) (fun b _ hb => Nat.le_of_lt hb.1) _ x _ (Nat.le_refl _) KP.out.st
      · by_cases c2 : rk < j.first
        · have RES : Hid (P ts a p = .ok (x, q)) := by rw [← J.res, Lp_stop hj (.inr c2)]; exact hid rfl
          have hc1 : ¬ (j.rank : Int) < (a : Int) := by omega
          have hc2 : (rk : Int) < (j.first : Int) := by omega
          clear J h E hj ej ih hT hif
          generalize markAt ts q = m at *
          unfold jrow at cj
          go_wp2_with (first
            | (go_at_call 80; refine cpk.mono ?_; rintro e w2 ⟨rfl, b2⟩; have B2 := hid b2; clear b2 cpk)
            | (go_at_call 85; refine (cj _ B2.out).mono ?_; rintro e w3 ⟨rfl, b3⟩; have b4 := bstep (bstep B2.out b3) ((Below.refl w3.heap.size w3).alloc (Nat.le_refl _) (.cells (jrow j) 83)); have B4 := hid b4; have X5 := (b4.block _ (Array.getElem?_eq_some_iff.1 KP.out.row).1).trans KP.out.row; have X4 := (b4.block _ (Array.getElem?_eq_some_iff.1 XB.out).1).trans XB.out; clear b3 b4 cj)
            | (refine wpList_load_row rfl 25 _ rfl b5 rfl 25 (ex4 x (.slice ao x.args.length cap)) (0, 0) _ X5 Tryd.underlying25 rfl info25 ?_)
            | (refine wpList_store_row rfl 25 _ _ rfl w.heap.size (ex4 x (.slice ao x.args.length cap)) rfl rfl 25 _ X4 info25 rfl (by simp [Value.oneCell', ex4]) ?_))
          refine bodyPost_ret (results_cell_row rfl _ _ w.heap.size 25 (ex4 x (.slice ao x.args.length cap)) (0, 0) _ rfl (setRow_heap _ _ _ _ _ _ X4) Tryd.underlying25 rfl info25) rfl ?_
          rw [RES.out]
          refine ⟨grown_setRow (grown_on GR.out (grown_below B4.out _)) _, _, rfl, ?_, H.out.setRow (RD.out.step B4.out) _⟩
          exact StP.carryN (fun b hb hl => (setRow_other _ _ _ _ (by have : w.heap.size < b := hb.1; omega)).trans (B4.out.block b hl)) (fun b _ hb => Nat.le_of_lt hb.1) _ x _ (Nat.le_refl _) KP.out.st
        · have hq := jAt_lt hj
          have hlaw := JT_laws j (jAt_mem hj)
          have hc1 : decide (j.rank < a) = false := by simp; omega
          have hc2 : decide (rk < j.first) = false := by simp; omega
          have RES0 := hid (J.res.symm.trans (Lp_go (x := x) hj (Nat.le_of_not_lt c1) (Nat.le_of_not_lt c2)))
          have cq := fun V (g : w.grownBy V (some r)) (hr : Rdr r mp v ts (q + 1) V) => ih (q + 1) j.second V (by have := J.lt; omega) (by omega) g hr
          have MV := hid (fun V (b : Below W.heap.size W V) => moved (J.rdr.step b) hq)
          have HQ := hid hq
          have JL := hid hlaw
          have hfew : (q : Int) < 140737488355328 := by have := J.rdr.few; omega
          clear J h E hj ej ih hT hif hq hlaw c1 c2
          generalize markAt ts q = m at *
          unfold jrow at cj
          go_wp2_with (first
            | (go_at_call 80; refine cpk.mono ?_; rintro e w2 ⟨rfl, b2⟩; have B2 := hid b2; clear b2 cpk)
            | (go_at_call 85; refine (cj _ B2.out).mono ?_; rintro e w3 ⟨rfl, b3⟩; have b4 := bstep (bstep B2.out b3) ((Below.refl w3.heap.size w3).alloc (Nat.le_refl _) (.cells #[.int .u8 (j.op : Int), .int .u8 (j.kind : Int), .string j.text, .int .i64 (j.rank : Int), .int .i64 (j.first : Int), .int .i64 (j.second : Int)] 83)); have S3 := hid ((bstep B2.out b3).size); obtain ⟨y0, y1, hg, hr⟩ := MV.out _ b4; have G5 := hid (grown_on GR.out (grown_on (grown_below b4 _) hg)); have G45 := hid (grown_on (grown_below b4 _) hg); have R5 := hid hr; have X7 := hid (kept (heap_alloc_new w3 (.cells #[.int .u8 (j.op : Int), .int .u8 (j.kind : Int), .string j.text, .int .i64 (j.rank : Int), .int .i64 (j.first : Int), .int .i64 (j.second : Int)] 83)) hg (Nat.lt_of_lt_of_le H.out.lt (Nat.le_trans GR.out.size (bstep B2.out b3).size))); clear b3 b4 cj hg hr MV))
          rename_i K8 hK8
          have D5 := below_drewN (Below.refl ((w3.alloc (.cells #[.int .u8 (j.op : Int), .int .u8 (j.kind : Int), .string j.text, .int .i64 (j.rank : Int), .int .i64 (j.first : Int), .int .i64 (j.second : Int)] 83)).setCell ⟨r, 1, none⟩ (.int .i64 ((q : Int) + 1))).heap.size ((w3.alloc (.cells #[.int .u8 (j.op : Int), .int .u8 (j.kind : Int), .string j.text, .int .i64 (j.rank : Int), .int .i64 (j.first : Int), .int .i64 (j.second : Int)] 83)).setCell ⟨r, 1, none⟩ (.int .i64 ((q : Int) + 1)))) 1
          have K5 := hid ((KP.out.grown G45.out H.out.lt).grown (grown_below D5 (some r)) H.out.lt)
          have X4 := hid (kept (kept XB.out G45.out H.out.lt) (grown_below D5 (some r)) H.out.lt)
          have N7 := hid (show r < w3.heap.size from Nat.lt_of_lt_of_le H.out.lt (Nat.le_trans GR.out.size S3.out))
          have X7 := hid (kept X7.out (grown_below D5 (some r)) N7.out)
          have G5 := hid (grown_on G5.out (grown_below D5 (some r)))
          have R5 := hid (R5.out.step D5)
          have N5 := hid (show w.heap.size < (((w3.alloc (.cells #[.int .u8 (j.op : Int), .int .u8 (j.kind : Int), .string j.text, .int .i64 (j.rank : Int), .int .i64 (j.first : Int), .int .i64 (j.second : Int)] 83)).setCell ⟨r, 1, none⟩ (.int .i64 ((q : Int) + 1))).drewN 1).heap.size from Nat.lt_of_le_of_lt (Nat.le_trans GR.out.size S3.out) (show w3.heap.size < ((w3.alloc (.cells #[.int .u8 (j.op : Int), .int .u8 (j.kind : Int), .string j.text, .int .i64 (j.rank : Int), .int .i64 (j.first : Int), .int .i64 (j.second : Int)] 83)).setCell ⟨r, 1, none⟩ (.int .i64 ((q : Int) + 1))).heap.size by simp [World.setCell]))
          have N55 := hid ((Array.getElem?_eq_some_iff.1 K5.out.row).1)
          have N75 := hid (show b5 < w3.heap.size from Nat.lt_of_lt_of_le (Array.getElem?_eq_some_iff.1 KP.out.row).1 S3.out)
          clear y0 y1 D5 G45
          cases hP : P ts j.second (q + 1) with
          | error nq =>
            obtain ⟨n, q2⟩ := nq
            have RES := hid (RES0.out.trans (by rw [hP, Res.go_error]))
            simp only [hP] at cq
            clear hP
            refine wp_region_held_drew (S := fun V => V.cell? ⟨w3.heap.size, 0, none⟩ = some (.int .u8 (j.op : Int)) ∧ V.cell? ⟨w3.heap.size, 3, none⟩ = some (.int .i64 (j.rank : Int)) ∧ V.cell? ⟨w3.heap.size, 5, none⟩ = some (.int .i64 (j.second : Int))) (by kernel_rfl) ?_ (fun hHeld => ?_)
            · exact ⟨(cell_of_row _ _ _ _ 83 (0, 0) X7.out).trans rfl, (cell_of_row _ _ _ _ 83 (0, 0) X7.out).trans rfl, (cell_of_row _ _ _ _ 83 (0, 0) X7.out).trans rfl⟩
            refine wpAnyH_take (i := 0) (oi := { dst := some 49, op := Go.Op.fieldAddr 83 (Go.Operand.tmp 7) 0, type := 0, pos := _, after := #[], guard := none }) (v := ?_) rfl (by kernel_rfl) (by kernel_rfl) (by kernel_rfl) (fun _ _ _ h => h) (Or.inl ⟨by rfl, ?_⟩) (by assumption) ?_
            rotate_left
            · intro w hSw; (try dsimp only at hSw); go_simp <;> with_reducible rfl
            simp only [Act.put, List.setIfInBounds_toArray, List.set_cons_zero, List.set_cons_succ]
            refine wpAnyH_take (i := 1) (oi := { dst := some 50, op := Go.Op.load 22 (Go.Operand.tmp 49), type := 22, pos := _, after := #[{ on := 0, ground := Go.Ground.data }], guard := none }) (v := ?_) rfl (by kernel_rfl) (by kernel_rfl) (by kernel_rfl) (fun _ _ _ h => h) (Or.inl ⟨by rfl, ?_⟩) (by assumption) ?_
            rotate_left
            · intro w hSw; (try dsimp only at hSw); go_simp <;> with_reducible rfl
            simp only [Act.put, List.setIfInBounds_toArray, List.set_cons_zero, List.set_cons_succ]
            refine wpAnyH_take (i := 3) (oi := { dst := some 52, op := Go.Op.move (Go.Operand.tmp 0), type := 67, pos := _, after := #[], guard := none }) (v := ?_) rfl (by kernel_rfl) (by kernel_rfl) (by kernel_rfl) (fun _ _ _ h => h) (Or.inl ⟨by rfl, ?_⟩) (by assumption) ?_
            rotate_left
            · intro w hSw; (try dsimp only at hSw); go_simp <;> with_reducible rfl
            simp only [Act.put, List.setIfInBounds_toArray, List.set_cons_zero, List.set_cons_succ]
            refine wpAnyH_take (i := 4) (oi := { dst := some 53, op := Go.Op.fieldAddr 83 (Go.Operand.tmp 7) 4, type := 0, pos := _, after := #[], guard := none }) (v := ?_) rfl (by kernel_rfl) (by kernel_rfl) (by kernel_rfl) (fun _ _ _ h => h) (Or.inl ⟨by rfl, ?_⟩) (by assumption) ?_
            rotate_left
            · intro w hSw; (try dsimp only at hSw); go_simp <;> with_reducible rfl
            simp only [Act.put, List.setIfInBounds_toArray, List.set_cons_zero, List.set_cons_succ]
            refine wpAnyH_take (i := 5) (oi := { dst := some 54, op := Go.Op.load 3 (Go.Operand.tmp 53), type := 3, pos := _, after := #[{ on := 4, ground := Go.Ground.data }], guard := none }) (v := ?_) rfl (by kernel_rfl) (by kernel_rfl) (by kernel_rfl) (fun _ _ _ h => h) (Or.inl ⟨by rfl, ?_⟩) (by assumption) ?_
            rotate_left
            · intro w hSw; (try dsimp only at hSw); go_simp <;> with_reducible rfl
            simp only [Act.put, List.setIfInBounds_toArray, List.set_cons_zero, List.set_cons_succ]
            refine wpAnyH_take (i := 9) (oi := { dst := some 58, op := Go.Op.fieldAddr 83 (Go.Operand.tmp 7) 2, type := 0, pos := _, after := #[{ on := 11, ground := Go.Ground.gcOnly Go.Departure.lateStores }], guard := none }) (v := ?_) rfl (by kernel_rfl) (by kernel_rfl) (by kernel_rfl) (fun _ _ _ h => h) (Or.inl ⟨by rfl, ?_⟩) (by assumption) ?_
            rotate_left
            · intro w hSw; (try dsimp only at hSw); go_simp <;> with_reducible rfl
            simp only [Act.put, List.setIfInBounds_toArray, List.set_cons_zero, List.set_cons_succ]
            refine wpAnyH_take (i := 10) (oi := { dst := some 59, op := Go.Op.load 3 (Go.Operand.tmp 58), type := 3, pos := _, after := #[{ on := 9, ground := Go.Ground.data }, { on := 11, ground := Go.Ground.gcOnly Go.Departure.lateStores }], guard := none }) (v := ?_) rfl (by kernel_rfl) (by kernel_rfl) (by kernel_rfl) (fun _ _ _ h => h) (Or.inl ⟨by rfl, ?_⟩) (by assumption) ?_
            rotate_left
            · intro w hSw; (try dsimp only at hSw); go_simp <;> with_reducible rfl
            simp only [Act.put, List.setIfInBounds_toArray, List.set_cons_zero, List.set_cons_succ]
            refine wpAnyH_ready (rs := [2, 6]) (by kernel_rfl) (by simp) ?_
            refine AllReadyH.cons (o := { dst := some 51, op := Go.Op.load 25 (Go.Operand.tmp 5), type := 25, pos := _, after := #[], guard := none }) rfl (fun K hK => ?_) (AllReadyH.cons (o := { dst := some 55, op := Go.Op.call { callee := Go.Callee.value (Go.Operand.func 65), args := #[Go.Operand.tmp 52, Go.Operand.tmp 54], argTypes := #[67, 3] }, type := 25, pos := _, after := #[{ on := 3, ground := Go.Ground.data }, { on := 5, ground := Go.Ground.data }], guard := none }) rfl (fun K hK => ?_) AllReadyH.nil)
            · refine if_take (by rfl) ?_
              refine wp_load_row 25 _ rfl b5 rfl 25 (ex4 x (.slice ao x.args.length cap)) (0, 0) _ K5.out.row Tryd.underlying25 rfl info25 ?_
              refine hK.out _ _ (by assumption) (fun _ => ?_)
              clear hK K
              simp only [Act.put, List.setIfInBounds_toArray, List.set_cons_zero, List.set_cons_succ]
              refine wpAnyH_ready (rs := [6]) (by kernel_rfl) (by simp) ?_
              refine AllReadyH.cons (o := { dst := some 55, op := Go.Op.call { callee := Go.Callee.value (Go.Operand.func 65), args := #[Go.Operand.tmp 52, Go.Operand.tmp 54], argTypes := #[67, 3] }, type := 25, pos := _, after := #[{ on := 3, ground := Go.Ground.data }, { on := 5, ground := Go.Ground.data }], guard := none }) rfl (fun K hK => ?_) AllReadyH.nil
              go_simp
              refine (cq _ G5.out R5.out).mono ?_
              rintro e w6 ⟨g6, rfl, h6⟩
              exact ⟨rfl, by rw [RES.out]; exact ⟨grown_on G5.out g6, rfl, h6⟩⟩
            · go_simp
              refine (cq _ G5.out R5.out).mono ?_
              rintro e w6 ⟨g6, rfl, h6⟩
              exact ⟨rfl, by rw [RES.out]; exact ⟨grown_on G5.out g6, rfl, h6⟩⟩
          | ok yq =>
            obtain ⟨y, q2⟩ := yq
            have RES := hid (RES0.out.trans (by rw [hP, Res.go_ok]))
            have FQ := hid (prsP_far ts _ _ _ _ hP)
            simp only [hP] at cq
            clear hP
            refine wp_region_held_drew (S := fun V => V.cell? ⟨w3.heap.size, 0, none⟩ = some (.int .u8 (j.op : Int)) ∧ V.cell? ⟨w3.heap.size, 3, none⟩ = some (.int .i64 (j.rank : Int)) ∧ V.cell? ⟨w3.heap.size, 5, none⟩ = some (.int .i64 (j.second : Int))) (by kernel_rfl) ?_ (fun hHeld => ?_)
            · exact ⟨(cell_of_row _ _ _ _ 83 (0, 0) X7.out).trans rfl, (cell_of_row _ _ _ _ 83 (0, 0) X7.out).trans rfl, (cell_of_row _ _ _ _ 83 (0, 0) X7.out).trans rfl⟩
            refine wpAnyH_take (i := 0) (oi := { dst := some 49, op := Go.Op.fieldAddr 83 (Go.Operand.tmp 7) 0, type := 0, pos := _, after := #[], guard := none }) (v := ?_) rfl (by kernel_rfl) (by kernel_rfl) (by kernel_rfl) (fun _ _ _ h => h) (Or.inl ⟨by rfl, ?_⟩) (by assumption) ?_
            rotate_left
            · intro w hSw; (try dsimp only at hSw); go_simp <;> with_reducible rfl
            simp only [Act.put, List.setIfInBounds_toArray, List.set_cons_zero, List.set_cons_succ]
            refine wpAnyH_take (i := 1) (oi := { dst := some 50, op := Go.Op.load 22 (Go.Operand.tmp 49), type := 22, pos := _, after := #[{ on := 0, ground := Go.Ground.data }], guard := none }) (v := ?_) rfl (by kernel_rfl) (by kernel_rfl) (by kernel_rfl) (fun _ _ _ h => h) (Or.inl ⟨by rfl, ?_⟩) (by assumption) ?_
            rotate_left
            · intro w hSw; (try dsimp only at hSw); go_simp <;> with_reducible rfl
            simp only [Act.put, List.setIfInBounds_toArray, List.set_cons_zero, List.set_cons_succ]
            refine wpAnyH_take (i := 3) (oi := { dst := some 52, op := Go.Op.move (Go.Operand.tmp 0), type := 67, pos := _, after := #[], guard := none }) (v := ?_) rfl (by kernel_rfl) (by kernel_rfl) (by kernel_rfl) (fun _ _ _ h => h) (Or.inl ⟨by rfl, ?_⟩) (by assumption) ?_
            rotate_left
            · intro w hSw; (try dsimp only at hSw); go_simp <;> with_reducible rfl
            simp only [Act.put, List.setIfInBounds_toArray, List.set_cons_zero, List.set_cons_succ]
            refine wpAnyH_take (i := 4) (oi := { dst := some 53, op := Go.Op.fieldAddr 83 (Go.Operand.tmp 7) 4, type := 0, pos := _, after := #[], guard := none }) (v := ?_) rfl (by kernel_rfl) (by kernel_rfl) (by kernel_rfl) (fun _ _ _ h => h) (Or.inl ⟨by rfl, ?_⟩) (by assumption) ?_
            rotate_left
            · intro w hSw; (try dsimp only at hSw); go_simp <;> with_reducible rfl
            simp only [Act.put, List.setIfInBounds_toArray, List.set_cons_zero, List.set_cons_succ]
            refine wpAnyH_take (i := 5) (oi := { dst := some 54, op := Go.Op.load 3 (Go.Operand.tmp 53), type := 3, pos := _, after := #[{ on := 4, ground := Go.Ground.data }], guard := none }) (v := ?_) rfl (by kernel_rfl) (by kernel_rfl) (by kernel_rfl) (fun _ _ _ h => h) (Or.inl ⟨by rfl, ?_⟩) (by assumption) ?_
            rotate_left
            · intro w hSw; (try dsimp only at hSw); go_simp <;> with_reducible rfl
            simp only [Act.put, List.setIfInBounds_toArray, List.set_cons_zero, List.set_cons_succ]
            refine wpAnyH_take (i := 9) (oi := { dst := some 58, op := Go.Op.fieldAddr 83 (Go.Operand.tmp 7) 2, type := 0, pos := _, after := #[{ on := 11, ground := Go.Ground.gcOnly Go.Departure.lateStores }], guard := none }) (v := ?_) rfl (by kernel_rfl) (by kernel_rfl) (by kernel_rfl) (fun _ _ _ h => h) (Or.inl ⟨by rfl, ?_⟩) (by assumption) ?_
            rotate_left
            · intro w hSw; (try dsimp only at hSw); go_simp <;> with_reducible rfl
            simp only [Act.put, List.setIfInBounds_toArray, List.set_cons_zero, List.set_cons_succ]
            refine wpAnyH_take (i := 10) (oi := { dst := some 59, op := Go.Op.load 3 (Go.Operand.tmp 58), type := 3, pos := _, after := #[{ on := 9, ground := Go.Ground.data }, { on := 11, ground := Go.Ground.gcOnly Go.Departure.lateStores }], guard := none }) (v := ?_) rfl (by kernel_rfl) (by kernel_rfl) (by kernel_rfl) (fun _ _ _ h => h) (Or.inl ⟨by rfl, ?_⟩) (by assumption) ?_
            rotate_left
            · intro w hSw; (try dsimp only at hSw); go_simp <;> with_reducible rfl
            simp only [Act.put, List.setIfInBounds_toArray, List.set_cons_zero, List.set_cons_succ]
            refine wpAnyH_ready (rs := [2, 6]) (by kernel_rfl) (by simp) ?_
            refine AllReadyH.cons (o := { dst := some 51, op := Go.Op.load 25 (Go.Operand.tmp 5), type := 25, pos := _, after := #[], guard := none }) rfl (fun K hK => ?_) (AllReadyH.cons (o := { dst := some 55, op := Go.Op.call { callee := Go.Callee.value (Go.Operand.func 65), args := #[Go.Operand.tmp 52, Go.Operand.tmp 54], argTypes := #[67, 3] }, type := 25, pos := _, after := #[{ on := 3, ground := Go.Ground.data }, { on := 5, ground := Go.Ground.data }], guard := none }) rfl (fun K hK => ?_) AllReadyH.nil)
            · refine if_take (by rfl) ?_
              refine wp_load_row 25 _ rfl b5 rfl 25 (ex4 x (.slice ao x.args.length cap)) (0, 0) _ K5.out.row Tryd.underlying25 rfl info25 ?_
              refine hK.out _ _ (by assumption) (fun _ => ?_)
              clear hK K
              simp only [Act.put, List.setIfInBounds_toArray, List.set_cons_zero, List.set_cons_succ]
              refine wpAnyH_ready (rs := [6]) (by kernel_rfl) (by simp) ?_
              refine AllReadyH.cons (o := { dst := some 55, op := Go.Op.call { callee := Go.Callee.value (Go.Operand.func 65), args := #[Go.Operand.tmp 52, Go.Operand.tmp 54], argTypes := #[67, 3] }, type := 25, pos := _, after := #[{ on := 3, ground := Go.Ground.data }, { on := 5, ground := Go.Ground.data }], guard := none }) rfl (fun K hK => ?_) AllReadyH.nil
              go_simp
              refine (cq _ G5.out R5.out).mono ?_
              rintro e w6 ⟨g6, t, rfl, st6, h6⟩
              obtain ⟨ao2, cap2, rfl⟩ := st6.form
              have K6 := hid (K5.out.grown g6 H.out.lt)
              have X76 := kept X7.out g6 (by have := H.out.lt; have := N7.out; omega)
              have X46 := hid (kept X4.out g6 H.out.lt)
              have G6 := hid (grown_on G5.out g6)
              have R6 := hid h6
              have Y6 := hid (StP.carryN (ok' := fun k => w.heap.size < k ∧ k ≠ b5) (fun b _ _ => rfl) (fun b _ hb => ⟨Nat.lt_of_lt_of_le N5.out hb, Nat.ne_of_gt (Nat.lt_of_lt_of_le N55.out hb)⟩) _ y _ (Nat.le_refl _) st6)
              have Z6 := hid (Nat.lt_of_lt_of_le N5.out g6.size)
              clear g6 st6 h6
              go_wp2_with fail
              refine hK.out _ _ ?_ (fun hHeld1 => ?_)
              · exact ⟨by rw [cell_of_row _ _ _ _ 83 (0, 0) X76]; rfl, by rw [cell_of_row _ _ _ _ 83 (0, 0) X76]; rfl, by rw [cell_of_row _ _ _ _ 83 (0, 0) X76]; rfl⟩
              clear hK K
              refine wpAnyH_ready (rs := [7]) (by kernel_rfl) (by simp) ?_
              refine AllReadyH.cons (o := { dst := some 56, op := Go.Op.buildSlice 23 2 #[(0, Go.Operand.tmp 51), (1, Go.Operand.tmp 55)], type := 23, pos := _, after := #[{ on := 2, ground := Go.Ground.data }, { on := 6, ground := Go.Ground.data }], guard := none }) rfl (fun K hK => ?_) AllReadyH.nil
              refine if_take (by rfl) ?_
              obtain ⟨ie, hie, hz, hsz⟩ := inf25
              refine wp_buildSlice 23 25 2 _ rfl (ex4 x (.slice ao x.args.length cap) ++ ex4 y (.slice ao2 y.args.length cap2)) ie z25 Tryd.underlying23 hie hz (by rw [hsz]; decide) (by rw [hsz]; decide) (by rw [hsz]; simp only [List.map_toArray, List.map_cons, List.map_nil]; exact fill2 x y ao ao2 _ _ _ _) ?_
              clear hie hz hsz
              have b7 := (Below.refl w6.heap.size w6).alloc (Nat.le_refl _) (.cells (ex4 x (.slice ao x.args.length cap) ++ ex4 y (.slice ao2 y.args.length cap2)) 25)
              have X77 := (b7.block _ (Array.getElem?_eq_some_iff.1 X76).1).trans X76
              have X57 := (b7.block _ (Array.getElem?_eq_some_iff.1 K6.out.row).1).trans K6.out.row
              have C7 := hid (heap_alloc_new w6 (.cells (ex4 x (.slice ao x.args.length cap) ++ ex4 y (.slice ao2 y.args.length cap2)) 25))
              have B7 := hid b7
              clear b7
              refine hK.out _ _ ?_ (fun _ => ?_)
              · exact ⟨by rw [cell_of_row _ _ _ _ 83 (0, 0) X77]; rfl, by rw [cell_of_row _ _ _ _ 83 (0, 0) X77]; rfl, by rw [cell_of_row _ _ _ _ 83 (0, 0) X77]; rfl⟩
              clear hK K
              simp only [Act.put, List.setIfInBounds_toArray, List.set_cons_zero, List.set_cons_succ]
              refine wpAnyH_take (i := 8) (oi := { dst := some 57, op := Go.Op.build 25 #[(0, Go.Operand.tmp 50), (3, Go.Operand.tmp 56)], type := 25, pos := _, after := #[{ on := 1, ground := Go.Ground.data }, { on := 7, ground := Go.Ground.data }], guard := none }) (v := ?_) rfl (by kernel_rfl) (by kernel_rfl) (by kernel_rfl) (fun _ _ _ h => h) (Or.inl ⟨by rfl, ?_⟩) (by assumption) ?_
              rotate_left
              · intro w hSw; (try dsimp only at hSw); go_simp <;> with_reducible rfl
              simp only [Act.put, List.setIfInBounds_toArray, List.set_cons_zero, List.set_cons_succ]
              refine wpAnyH_ready (rs := [11]) (by kernel_rfl) (by simp) ?_
              refine AllReadyH.cons (o := { dst := none, op := Go.Op.store 25 (Go.Operand.tmp 5) (Go.Operand.tmp 57), type := 0, pos := _, after := #[{ on := 8, ground := Go.Ground.data }, { on := 6, ground := Go.Ground.chain }, { on := 0, ground := Go.Ground.phase }, { on := 1, ground := Go.Ground.phase }, { on := 2, ground := Go.Ground.phase }, { on := 3, ground := Go.Ground.phase }, { on := 4, ground := Go.Ground.phase }, { on := 5, ground := Go.Ground.phase }, { on := 6, ground := Go.Ground.phase }, { on := 7, ground := Go.Ground.phase }, { on := 8, ground := Go.Ground.phase }, { on := 9, ground := Go.Ground.textOnly Go.Departure.lateStores }, { on := 10, ground := Go.Ground.textOnly Go.Departure.lateStores }], guard := none }) rfl (fun K hK => ?_) AllReadyH.nil
              refine if_take (by rfl) ?_
              refine wp_store_row 25 _ _ rfl b5 (ex4 ⟨j.op, 0, ByteArray.empty, [x, y]⟩ (.slice (some ⟨w6.heap.size, 0, none⟩) 2 2)) rfl rfl 25 _ X57 info25 rfl (by simp [Value.oneCell', ex4]) ?_
              have X78 := (setRow_other (w6.alloc (.cells (ex4 x (.slice ao x.args.length cap) ++ ex4 y (.slice ao2 y.args.length cap2)) 25)) b5 _ (ex4 ⟨j.op, 0, ByteArray.empty, [x, y]⟩ (.slice (some ⟨w6.heap.size, 0, none⟩) 2 2)) (Nat.ne_of_gt N75.out)).trans X77
              refine hK.out _ _ ?_ (fun _ => ?_)
              · exact ⟨by rw [cell_of_row _ _ _ _ 83 (0, 0) X78]; rfl, by rw [cell_of_row _ _ _ _ 83 (0, 0) X78]; rfl, by rw [cell_of_row _ _ _ _ 83 (0, 0) X78]; rfl⟩
              clear hK K
              refine wpAnyH_take (i := 12) (oi := { dst := some 6, op := Go.Op.assign (Go.Operand.tmp 59), type := 3, pos := _, after := #[{ on := 10, ground := Go.Ground.data }, { on := 11, ground := Go.Ground.chain }, { on := 0, ground := Go.Ground.phase }, { on := 1, ground := Go.Ground.phase }, { on := 2, ground := Go.Ground.phase }, { on := 3, ground := Go.Ground.phase }, { on := 4, ground := Go.Ground.phase }, { on := 5, ground := Go.Ground.phase }, { on := 6, ground := Go.Ground.phase }, { on := 7, ground := Go.Ground.phase }, { on := 8, ground := Go.Ground.phase }, { on := 9, ground := Go.Ground.phase }, { on := 10, ground := Go.Ground.phase }, { on := 11, ground := Go.Ground.phase }], guard := none }) (v := ?_) rfl (by kernel_rfl) (by kernel_rfl) (by kernel_rfl) (fun _ _ _ h => h) (Or.inl ⟨by rfl, ?_⟩) (by assumption) ?_
              rotate_left
              · intro w hSw; (try dsimp only at hSw); go_simp <;> with_reducible rfl
              simp only [Act.put, List.setIfInBounds_toArray, List.set_cons_zero, List.set_cons_succ]
              refine wpAnyH_done (by kernel_rfl) ?_ _
              refine hK8 _ _ ?_
              go_step3
              have hb6 : b5 < w6.heap.size := (Array.getElem?_eq_some_iff.1 K6.out.row).1
              have hw6 : w.heap.size < w6.heap.size := Z6.out
              have R8 := H.out.setRowAt (R6.out.step B7.out) (Nat.le_of_lt KP.out.lt) (ex4 ⟨j.op, 0, ByteArray.empty, [x, y]⟩ (.slice (some ⟨w6.heap.size, 0, none⟩) 2 2))
              refine ⟨rfl, ⟨⟨j.op, 0, ByteArray.empty, [x, y]⟩, _, j.rank, q2, b5, ⟨_, _, _, _, _, _, _, _, _, _, _, _, _, _, _, _, _, _, _, _, _, _, _, _, _, _, _, _, _, _, _, _, _, _, _, _, _, _, _, _, _, _, _, _, _, _, _, _, _, _, _, _, _, rfl⟩, ⟨grown_setRowAt (grown_on G6.out (grown_below B7.out _)) (Nat.le_of_lt KP.out.lt) _, R8, (setRow_other _ _ _ _ (Nat.ne_of_lt KP.out.lt)).trans ((B7.out.block _ hw6).trans X46.out), ⟨setRow_heap _ _ _ _ _ _ X57, StP.two j.op JL.out.2.2.2.2.2.2.2.2 w6.heap.size ⟨hw6, Nat.ne_of_gt hb6⟩ ?_ ?_ ((setRow_other _ _ _ _ (Nat.ne_of_gt hb6)).trans C7.out), KP.out.lt⟩, RES.out.symm, Nat.lt_trans LT.out (Nat.lt_trans (Nat.lt_succ_self q) FQ.out), Nat.le_trans JL.out.2.2.2.1 (by omega)⟩⟩, ?_⟩
              · exact StP.carryN (fun b hb hl => (setRow_other _ _ _ _ hb.2).trans (B7.out.block b hl)) (fun b _ hb => hb) _ x _ (Nat.le_refl _) K6.out.st
              · exact StP.carryN (fun b hb hl => (setRow_other _ _ _ _ hb.2).trans (B7.out.block b hl)) (fun b _ hb => hb) _ y _ (Nat.le_refl _) Y6.out
              · rw [atR_of R8, atR_of RD.out]; have := HQ.out; have := FQ.out; have := R8.le; omega
            · go_simp
              refine (cq _ G5.out R5.out).mono ?_
              rintro e w6 ⟨g6, t, rfl, st6, h6⟩
              obtain ⟨ao2, cap2, rfl⟩ := st6.form
              have K6 := hid (K5.out.grown g6 H.out.lt)
              have X76 := kept X7.out g6 (by have := H.out.lt; have := N7.out; omega)
              have X46 := hid (kept X4.out g6 H.out.lt)
              have G6 := hid (grown_on G5.out g6)
              have R6 := hid h6
              have Y6 := hid (StP.carryN (ok' := fun k => w.heap.size < k ∧ k ≠ b5) (fun b _ _ => rfl) (fun b _ hb => ⟨Nat.lt_of_lt_of_le N5.out hb, Nat.ne_of_gt (Nat.lt_of_lt_of_le N55.out hb)⟩) _ y _ (Nat.le_refl _) st6)
              have Z6 := hid (Nat.lt_of_lt_of_le N5.out g6.size)
              clear g6 st6 h6
              go_wp2_with fail
              refine hK.out _ _ ?_ (fun hHeld1 => ?_)
              · exact ⟨by rw [cell_of_row _ _ _ _ 83 (0, 0) X76]; rfl, by rw [cell_of_row _ _ _ _ 83 (0, 0) X76]; rfl, by rw [cell_of_row _ _ _ _ 83 (0, 0) X76]; rfl⟩
              clear hK K
              refine wpAnyH_ready (rs := [2]) (by kernel_rfl) (by simp) ?_
              refine AllReadyH.cons (o := { dst := some 51, op := Go.Op.load 25 (Go.Operand.tmp 5), type := 25, pos := _, after := #[], guard := none }) rfl (fun K hK => ?_) AllReadyH.nil
              refine if_take (by rfl) ?_
              refine wp_load_row 25 _ rfl b5 rfl 25 (ex4 x (.slice ao x.args.length cap)) (0, 0) _ K6.out.row Tryd.underlying25 rfl info25 ?_
              refine hK.out _ _ (by assumption) (fun _ => ?_)
              clear hK K
              simp only [Act.put, List.setIfInBounds_toArray, List.set_cons_zero, List.set_cons_succ]
              refine wpAnyH_ready (rs := [7]) (by kernel_rfl) (by simp) ?_
              refine AllReadyH.cons (o := { dst := some 56, op := Go.Op.buildSlice 23 2 #[(0, Go.Operand.tmp 51), (1, Go.Operand.tmp 55)], type := 23, pos := _, after := #[{ on := 2, ground := Go.Ground.data }, { on := 6, ground := Go.Ground.data }], guard := none }) rfl (fun K hK => ?_) AllReadyH.nil
              refine if_take (by rfl) ?_
              obtain ⟨ie, hie, hz, hsz⟩ := inf25
              refine wp_buildSlice 23 25 2 _ rfl (ex4 x (.slice ao x.args.length cap) ++ ex4 y (.slice ao2 y.args.length cap2)) ie z25 Tryd.underlying23 hie hz (by rw [hsz]; decide) (by rw [hsz]; decide) (by rw [hsz]; simp only [List.map_toArray, List.map_cons, List.map_nil]; exact fill2 x y ao ao2 _ _ _ _) ?_
              clear hie hz hsz
              have b7 := (Below.refl w6.heap.size w6).alloc (Nat.le_refl _) (.cells (ex4 x (.slice ao x.args.length cap) ++ ex4 y (.slice ao2 y.args.length cap2)) 25)
              have X77 := (b7.block _ (Array.getElem?_eq_some_iff.1 X76).1).trans X76
              have X57 := (b7.block _ (Array.getElem?_eq_some_iff.1 K6.out.row).1).trans K6.out.row
              have C7 := hid (heap_alloc_new w6 (.cells (ex4 x (.slice ao x.args.length cap) ++ ex4 y (.slice ao2 y.args.length cap2)) 25))
              have B7 := hid b7
              clear b7
              refine hK.out _ _ ?_ (fun _ => ?_)
              · exact ⟨by rw [cell_of_row _ _ _ _ 83 (0, 0) X77]; rfl, by rw [cell_of_row _ _ _ _ 83 (0, 0) X77]; rfl, by rw [cell_of_row _ _ _ _ 83 (0, 0) X77]; rfl⟩
              clear hK K
              simp only [Act.put, List.setIfInBounds_toArray, List.set_cons_zero, List.set_cons_succ]
              refine wpAnyH_take (i := 8) (oi := { dst := some 57, op := Go.Op.build 25 #[(0, Go.Operand.tmp 50), (3, Go.Operand.tmp 56)], type := 25, pos := _, after := #[{ on := 1, ground := Go.Ground.data }, { on := 7, ground := Go.Ground.data }], guard := none }) (v := ?_) rfl (by kernel_rfl) (by kernel_rfl) (by kernel_rfl) (fun _ _ _ h => h) (Or.inl ⟨by rfl, ?_⟩) (by assumption) ?_
              rotate_left
              · intro w hSw; (try dsimp only at hSw); go_simp <;> with_reducible rfl
              simp only [Act.put, List.setIfInBounds_toArray, List.set_cons_zero, List.set_cons_succ]
              refine wpAnyH_ready (rs := [11]) (by kernel_rfl) (by simp) ?_
              refine AllReadyH.cons (o := { dst := none, op := Go.Op.store 25 (Go.Operand.tmp 5) (Go.Operand.tmp 57), type := 0, pos := _, after := #[{ on := 8, ground := Go.Ground.data }, { on := 6, ground := Go.Ground.chain }, { on := 0, ground := Go.Ground.phase }, { on := 1, ground := Go.Ground.phase }, { on := 2, ground := Go.Ground.phase }, { on := 3, ground := Go.Ground.phase }, { on := 4, ground := Go.Ground.phase }, { on := 5, ground := Go.Ground.phase }, { on := 6, ground := Go.Ground.phase }, { on := 7, ground := Go.Ground.phase }, { on := 8, ground := Go.Ground.phase }, { on := 9, ground := Go.Ground.textOnly Go.Departure.lateStores }, { on := 10, ground := Go.Ground.textOnly Go.Departure.lateStores }], guard := none }) rfl (fun K hK => ?_) AllReadyH.nil
              refine if_take (by rfl) ?_
              refine wp_store_row 25 _ _ rfl b5 (ex4 ⟨j.op, 0, ByteArray.empty, [x, y]⟩ (.slice (some ⟨w6.heap.size, 0, none⟩) 2 2)) rfl rfl 25 _ X57 info25 rfl (by simp [Value.oneCell', ex4]) ?_
              have X78 := (setRow_other (w6.alloc (.cells (ex4 x (.slice ao x.args.length cap) ++ ex4 y (.slice ao2 y.args.length cap2)) 25)) b5 _ (ex4 ⟨j.op, 0, ByteArray.empty, [x, y]⟩ (.slice (some ⟨w6.heap.size, 0, none⟩) 2 2)) (Nat.ne_of_gt N75.out)).trans X77
              refine hK.out _ _ ?_ (fun _ => ?_)
              · exact ⟨by rw [cell_of_row _ _ _ _ 83 (0, 0) X78]; rfl, by rw [cell_of_row _ _ _ _ 83 (0, 0) X78]; rfl, by rw [cell_of_row _ _ _ _ 83 (0, 0) X78]; rfl⟩
              clear hK K
              refine wpAnyH_take (i := 12) (oi := { dst := some 6, op := Go.Op.assign (Go.Operand.tmp 59), type := 3, pos := _, after := #[{ on := 10, ground := Go.Ground.data }, { on := 11, ground := Go.Ground.chain }, { on := 0, ground := Go.Ground.phase }, { on := 1, ground := Go.Ground.phase }, { on := 2, ground := Go.Ground.phase }, { on := 3, ground := Go.Ground.phase }, { on := 4, ground := Go.Ground.phase }, { on := 5, ground := Go.Ground.phase }, { on := 6, ground := Go.Ground.phase }, { on := 7, ground := Go.Ground.phase }, { on := 8, ground := Go.Ground.phase }, { on := 9, ground := Go.Ground.phase }, { on := 10, ground := Go.Ground.phase }, { on := 11, ground := Go.Ground.phase }], guard := none }) (v := ?_) rfl (by kernel_rfl) (by kernel_rfl) (by kernel_rfl) (fun _ _ _ h => h) (Or.inl ⟨by rfl, ?_⟩) (by assumption) ?_
              rotate_left
              · intro w hSw; (try dsimp only at hSw); go_simp <;> with_reducible rfl
              simp only [Act.put, List.setIfInBounds_toArray, List.set_cons_zero, List.set_cons_succ]
              refine wpAnyH_done (by kernel_rfl) ?_ _
              refine hK8 _ _ ?_
              go_step3
              have hb6 : b5 < w6.heap.size := (Array.getElem?_eq_some_iff.1 K6.out.row).1
              have hw6 : w.heap.size < w6.heap.size := Z6.out
              have R8 := H.out.setRowAt (R6.out.step B7.out) (Nat.le_of_lt KP.out.lt) (ex4 ⟨j.op, 0, ByteArray.empty, [x, y]⟩ (.slice (some ⟨w6.heap.size, 0, none⟩) 2 2))
              refine ⟨rfl, ⟨⟨j.op, 0, ByteArray.empty, [x, y]⟩, _, j.rank, q2, b5, ⟨_, _, _, _, _, _, _, _, _, _, _, _, _, _, _, _, _, _, _, _, _, _, _, _, _, _, _, _, _, _, _, _, _, _, _, _, _, _, _, _, _, _, _, _, _, _, _, _, _, _, _, _, _, rfl⟩, ⟨grown_setRowAt (grown_on G6.out (grown_below B7.out _)) (Nat.le_of_lt KP.out.lt) _, R8, (setRow_other _ _ _ _ (Nat.ne_of_lt KP.out.lt)).trans ((B7.out.block _ hw6).trans X46.out), ⟨setRow_heap _ _ _ _ _ _ X57, StP.two j.op JL.out.2.2.2.2.2.2.2.2 w6.heap.size ⟨hw6, Nat.ne_of_gt hb6⟩ ?_ ?_ ((setRow_other _ _ _ _ (Nat.ne_of_gt hb6)).trans C7.out), KP.out.lt⟩, RES.out.symm, Nat.lt_trans LT.out (Nat.lt_trans (Nat.lt_succ_self q) FQ.out), Nat.le_trans JL.out.2.2.2.1 (by omega)⟩⟩, ?_⟩
              · exact StP.carryN (fun b hb hl => (setRow_other _ _ _ _ hb.2).trans (B7.out.block b hl)) (fun b _ hb => hb) _ x _ (Nat.le_refl _) K6.out.st
              · exact StP.carryN (fun b hb hl => (setRow_other _ _ _ _ hb.2).trans (B7.out.block b hl)) (fun b _ hb => hb) _ y _ (Nat.le_refl _) Y6.out
              · rw [atR_of R8, atR_of RD.out]; have := HQ.out; have := FQ.out; have := R8.le; omega
end Go.Proofs.YtkieljleopbhoaaDoor.Lex
namespace Go.Proofs.YtkieljleopbhoaaDoor.Lex
open Go.ChangeShapes Go.WideShapes Go.ChangeAt Go.RowKit Go.Joins Go.WideMaps Go.WideElems Go.Maps
theorem choice_c {r mp : Nat} {v : Value} {ts : List Mark} {p : Nat} {w : World} (h : Rdr r mp v ts p w) (hp : p < ts.length)
    (ih : ∀ (q b : Nat) W, p < q → b ≤ 7 → w.grownBy W (some r) → Rdr r mp v ts q W → Calls Tryd.prog 65 #[.pointer (some ⟨r, 0, none⟩), .int .i64 (b : Int)] W (Post r mp v ts W (P ts b q))) : Calls Tryd.prog 83 #[.pointer (some ⟨r, 0, none⟩)] w (Post r mp v ts w (choiceR ts (P ts) p)) := by
  have c1 := fun W g hr => ih (p + 1) 0 W (by omega) (by omega) g hr
  unfold choiceR
  cases e1 : P ts 0 (p + 1) with
  | error nq =>
    obtain ⟨n, q⟩ := nq
    rw [e1] at c1
    rw [Res.go_error]
    exact choice_bad1 r mp v ts p w h hp n q c1
  | ok xq =>
    obtain ⟨x1, q1⟩ := xq
    rw [e1] at c1
    rw [Res.go_ok]
    have f1 := prsP_far ts _ _ _ _ e1
    cases m1 : isMk (markAt ts q1) 1 (sgn [116, 104, 101, 110]) with
    | false =>
      unfold passR
      rw [m1]
      exact choice_bad2 r mp v ts p w h hp x1 q1 c1 m1
    | true =>
      rw [passR, if_pos m1]
      have c2 := fun W g hr => ih (q1 + 1) 0 W (by omega) (by omega) g hr
      cases e2 : P ts 0 (q1 + 1) with
      | error nq =>
        obtain ⟨n, q⟩ := nq
        rw [e2] at c2
        rw [Res.go_error]
        exact choice_bad3 r mp v ts p w h hp x1 q1 c1 m1 n q c2
      | ok xq =>
        obtain ⟨x2, q2⟩ := xq
        rw [e2] at c2
        rw [Res.go_ok]
        have f2 := prsP_far ts _ _ _ _ e2
        cases m2 : isMk (markAt ts q2) 1 (sgn [101, 108, 115, 101]) with
        | false =>
          unfold passR
          rw [m2]
          exact choice_bad4 r mp v ts p w h hp x1 q1 c1 m1 x2 q2 c2 m2
        | true =>
          rw [passR, if_pos m2]
          have c3 := fun W g hr => ih (q2 + 1) 0 W (by omega) (by omega) g hr
          cases e3 : P ts 0 (q2 + 1) with
          | error nq =>
            obtain ⟨n, q⟩ := nq
            rw [e3] at c3
            rw [Res.go_error]
            exact choice_bad5 r mp v ts p w h hp x1 q1 c1 m1 x2 q2 c2 m2 n q c3
          | ok xq =>
            obtain ⟨x3, q3⟩ := xq
            rw [e3] at c3
            rw [Res.go_ok]
            exact choice_ok r mp v ts p w h hp x1 q1 c1 m1 x2 q2 c2 m2 x3 q3 c3
set_option maxRecDepth 100000 in
set_option maxHeartbeats 2000000 in
theorem part_if (r mp : Nat) (v : Value) (ts : List Mark) (p : Nat) (w : World) (h : Rdr r mp v ts p w) (hif : isMk (markAt ts p) 1 (sgn [105, 102]) = true)
    (ih : ∀ (q b : Nat) W, p < q → b ≤ 7 → w.grownBy W (some r) → Rdr r mp v ts q W → Calls Tryd.prog 65 #[.pointer (some ⟨r, 0, none⟩), .int .i64 (b : Int)] W (Post r mp v ts W (P ts b q))) :
    Calls Tryd.prog 65 #[.pointer (some ⟨r, 0, none⟩), .int .i64 0] w (Post r mp v ts w (P ts 0 p)) := by
  have hp := isMk_lt (by omega) hif
  have RES := hid (P_if hif)
  have b0 := (Below.refl w.heap.size w).alloc (Nat.le_refl _) (.cells c25 25)
  have c0 := peek r mp v ts p _ (h.step b0)
  have cc : ∀ W, Below w.heap.size w W → Calls Tryd.prog 83 #[.pointer (some ⟨r, 0, none⟩)] W (Post r mp v ts W (choiceR ts (P ts) p)) := fun W hW => choice_c (h.step hW) hp (fun q b W' hq hb g hr => ih q b W' hq hb (grown_on (grown_below hW _) g) hr)
  have B0 := hid b0
  have H := hid h
  have X0 := hid (heap_alloc_new w (.cells c25 25))
  obtain ⟨h1, h2⟩ := isMk_yes hif
  rw [e105] at h2
  clear b0 ih h hp hif
  generalize choiceR ts (P ts) p = R at *
  generalize markAt ts p = m at *
  cases R with
  | error nq =>
    obtain ⟨n, q⟩ := nq
    go_enter Tryd.func65, Tryd.ntmps65
    go_wp2
    go_step3
    go_wp2_with (first
      | (go_at_call 80; refine c0.mono ?_; rintro e w2 ⟨rfl, b2⟩; have B2 := hid (bstep B0.out b2); clear b2 c0)
      | (go_at_call 83; refine (cc _ B2.out).mono ?_; rintro e w3 ⟨g3, rfl, h3⟩; have G3 := hid (grown_on (grown_below B2.out _) g3); have H3 := hid h3; clear g3 h3 cc))
    exact ⟨rfl, by rw [RES.out]; exact ⟨G3.out, rfl, H3.out⟩⟩
  | ok xq =>
    obtain ⟨x, q⟩ := xq
    go_enter Tryd.func65, Tryd.ntmps65
    go_wp2
    go_step3
    go_wp2_with (first
      | (go_at_call 80; refine c0.mono ?_; rintro e w2 ⟨rfl, b2⟩; have B2' := hid b2; have B2 := hid (bstep B0.out b2); clear b2 c0)
      | (go_at_call 83; refine (cc _ B2.out).mono ?_; rintro e w3 ⟨g3, s, rfl, st, h3⟩; obtain ⟨ao, cap, rfl⟩ := st.form; have X3 := kept ((B2'.out.block _ (by simp)).trans X0.out) g3 H.out.lt; have Q := hid (Post.behind H.out B2.out (by have := B2'.out.size; simp at this; omega) g3 st h3 (ex4 x (.slice ao x.args.length cap))); clear g3 h3 cc st)
      | (refine wpList_store_row rfl 25 _ _ rfl w.heap.size (ex4 x (.slice ao x.args.length cap)) rfl rfl 25 _ X3 info25 rfl (by simp [Value.oneCell', ex4]) ?_))
    refine bodyPost_ret (results_cell_row rfl _ _ w.heap.size 25 (ex4 x (.slice ao x.args.length cap)) (0, 0) _ rfl (setRow_heap _ _ _ _ _ _ X3) Tryd.underlying25 rfl info25) rfl ?_
    rw [RES.out]
    exact ⟨Q.out.1, _, rfl, Q.out.2.1, Q.out.2.2⟩
/-- part, whatever stands there. -/
theorem part_any (r mp : Nat) (v : Value) (ts : List Mark) (hT : TsOk ts) : ∀ (n p a : Nat) (w : World), ts.length + 1 ≤ n + p → a ≤ 7 → Rdr r mp v ts p w → PEnv r mp w → Calls Tryd.prog 65 #[.pointer (some ⟨r, 0, none⟩), .int .i64 (a : Int)] w (Post r mp v ts w (P ts a p))
  | 0, p, a, w, hn, _, h, _ => by have := h.le; omega
  | n + 1, p, a, w, hn, ha, h, E => by
    have ih : ∀ (q b : Nat) W, p < q → b ≤ 7 → w.grownBy W (some r) → Rdr r mp v ts q W → Calls Tryd.prog 65 #[.pointer (some ⟨r, 0, none⟩), .int .i64 (b : Int)] W (Post r mp v ts W (P ts b q)) := fun q b W hq hb g hr => part_any r mp v ts hT n q b W (by omega) hb hr (E.grown g)
    by_cases hif : a = 0 ∧ isMk (markAt ts p) 1 (sgn [105, 102]) = true
    · obtain ⟨rfl, hm⟩ := hif
      exact part_if r mp v ts p w h hm ih
    · exact part_at r mp v ts a p ha w h E hT hif ih
end Go.Proofs.YtkieljleopbhoaaDoor.Lex
namespace Go.Proofs.YtkieljleopbhoaaDoor.Lex
open Go.ChangeShapes Go.WideShapes Go.ChangeAt Go.RowKit Go.Joins Go.WideMaps Go.WideElems Go.Maps
set_option maxRecDepth 100000 in
theorem catch_panicking (p : Addr) (x e : Int) (older : List PanicEntry) (w : World) (hc : w.cell? p = some (.int .i64 x)) (hz : w.frozen? p = false) :
    CallsD Tryd.prog 64 #[.pointer (some p)] (.panicking ({ v := .iface 28 (.int .i64 e), recovered := false } :: older)) w fun en u' w' =>
      en = .returned (.tuple #[]) ∧ u' = .panicking ({ v := .iface 28 (.int .i64 e), recovered := true } :: older) ∧ w' = w.setCell p (.int .i64 e) := by
  have hta : ∀ W : World, (Instr.typeAssert (.iface 28 (.int .i64 e)) 20 28 true).run Tryd.prog W = .ok (.tuple #[.int .i64 e, .bool true]) W := fun W => by kernel_rfl
  refine callsD_of_wpS Tryd.func64 rfl fun c₀ cs hu => ?_
  apply wpS_seq
  apply wpS_region
  simp [wpOpsS, go_sem, recoverD, hu, Tryd.ntmps64, Exit.thenS, hta]
  apply wpS_seq
  apply wpS_region
  simp [wpOpsS, go_sem, Exit.thenS]
  refine wpS_cond (t := true) (by simp [Act.eval, Array.replicate]) ?_
  simp only [if_true]
  apply wpS_region
  simp [wpOpsS, go_sem, hc, hz, bodyPostS, results, Tryd.results64]
set_option maxRecDepth 100000 in
theorem catch_idle (p : Addr) (w : World) :
    CallsD Tryd.prog 64 #[.pointer (some p)] .returning w fun e u' w' => e = .returned (.tuple #[]) ∧ u' = .returning ∧ w' = w := by
  have hta : ∀ W : World, (Instr.typeAssert .nilIface 20 28 true).run Tryd.prog W = .ok (.tuple #[.int .i64 0, .bool false]) W := fun W => by kernel_rfl
  refine callsD_of_wpS Tryd.func64 rfl fun c₀ cs hu => ?_
  apply wpS_seq
  apply wpS_region
  simp [wpOpsS, go_sem, recoverD, hu, Tryd.ntmps64, Exit.thenS, hta]
  apply wpS_seq
  apply wpS_region
  simp [wpOpsS, go_sem, Exit.thenS]
  refine wpS_cond (t := false) (by simp [Act.eval, Array.replicate]) ?_
  simp only [Bool.false_eq_true, if_false]
  refine wpS_of_wp (wp_skip ?_)
  cases c₀
  simp_all [bodyPostS, results, Tryd.results64]
theorem Rdr.other {r mp : Nat} {v : Value} {ts : List Mark} {p q : Nat} {w W W' : World} (h : Rdr r mp v ts p w) (h2 : Rdr r mp v ts q W) {b : Nat} (hb : w.heap.size ≤ b) (ho : ∀ k, k ≠ b → W'.heap[k]? = W.heap[k]?) : Rdr r mp v ts q W' := by
  have hlt := h.lt
  refine ⟨(ho r (by omega)).trans h2.cell, ?_, h2.le, h2.few, h2.far, h2.own⟩
  obtain ⟨a, cap, rfl, hc⟩ := h.toks
  by_cases h0 : ts.length = 0
  · obtain ⟨a2, cap2, e2, _⟩ := h2.toks
    exact ⟨a2, cap2, e2, .inl h0⟩
  · obtain ⟨g, o, hg, hcc⟩ := hc.resolve_left h0
    refine h2.toks.carry fun a' n c' ev hl => ho _ ?_
    intro he
    injection ev with e1 e2 e3
    rw [hg] at e1
    injection e1 with e1
    have hlt2 : g < w.heap.size := World.block_lt_of_cell? w ⟨g, o + 0 * 3, none⟩ (hcc 0 (by omega)).1
    rw [← e1] at he
    simp only at he
    omega
theorem set_far (W : World) (b : Nat) (u : Value) : ∀ k, k ≠ b → (W.setCell ⟨b, 0, none⟩ u).heap[k]? = W.heap[k]? := fun k hk => Below.heap_setCell W ⟨b, 0, none⟩ u k hk
theorem grown_set {w W : World} {r : Option Nat} (g : w.grownBy W r) {b : Nat} (hb : w.heap.size ≤ b) (u : Value) : w.grownBy (W.setCell ⟨b, 0, none⟩ u) r :=
  ⟨g.os, g.tape, g.output, by have := g.size; simpa [World.setCell] using this, fun k hk hkr => (set_far W b u k (by omega)).trans (g.block k hk hkr)⟩
/-- What reading answers, the panics caught. -/
def PostW (r mp : Nat) (v : Value) (ts : List Mark) (w : World) (res : Res) (e : Ending) (w' : World) : Prop :=
  w.grownBy w' (some r) ∧ match res with
    | .ok (x, q) => ∃ s, e = .returned (.tuple #[exV x s, .int .i64 0]) ∧ StP (fun b => w.heap.size ≤ b) w' x s ∧ Rdr r mp v ts q w'
    | .error (n, q) => e = .returned (.tuple #[.agg c25, .int .i64 (n : Int)]) ∧ Rdr r mp v ts q w'
set_option maxRecDepth 100000 in
set_option maxHeartbeats 1000000 in
theorem whole_bad (r mp : Nat) (v : Value) (ts : List Mark) (p n q : Nat) (w : World) (h : Rdr r mp v ts p w) (cp : ∀ W, w.grownBy W (some r) → Rdr r mp v ts p W → Calls Tryd.prog 65 #[.pointer (some ⟨r, 0, none⟩), .int .i64 0] W (Post r mp v ts W (.error (n, q)))) : Calls Tryd.prog 36 #[.pointer (some ⟨r, 0, none⟩)] w (PostW r mp v ts w (.error (n, q))) := by
  have hmf : ∀ (fn : Fn) (first cap : Array Value) (w : World), (Instr.makeFunc fn first cap).run Tryd.prog w = .ok (.func fn first cap) w := fun _ _ _ _ => rfl
  have b0 := (Below.refl w.heap.size w).alloc (Nat.le_refl _) (.cells c25 25)
  have b1 := bstep b0 ((Below.refl (w.alloc (.cells c25 25)).heap.size (w.alloc (.cells c25 25))).alloc (Nat.le_refl _) (.cells #[.int .i64 0] 28))
  have cp1 := cp _ (grown_below b1 _) (h.step b1)
  have B1 := hid b1
  have H := hid h
  clear b0 b1 cp h
  go_enter_defers Tryd.func36, Tryd.ntmps36
  go_wp2_with (go_at_call 65; refine cp1.mono ?_; rintro e w2 ⟨g2, rfl, h2⟩; have G2 := hid g2; have H2 := hid h2; clear g2 h2 cp1)
  have X1 := kept (W := (w.alloc (.cells c25 25)).alloc (.cells #[.int .i64 0] 28)) (k := w.heap.size + 1) (o := .cells #[.int .i64 0] 28 (0, 0)) (by have := heap_alloc_new (w.alloc (.cells c25 25)) (.cells #[.int .i64 0] 28); simpa using this) G2.out (by have := H.out.lt; omega)
  have X0 := kept (W := (w.alloc (.cells c25 25)).alloc (.cells #[.int .i64 0] 28)) (k := w.heap.size) (o := .cells c25 25 (0, 0)) (by rw [Below.heap_alloc _ _ _ (by simp)]; exact heap_alloc_new w _) G2.out H.out.lt
  have hc : w2.cell? ⟨w.heap.size + 1, 0, none⟩ = some (.int .i64 0) := by rw [cell_of_row _ _ _ _ 28 (0, 0) X1]; rfl
  have hz : w2.frozen? ⟨w.heap.size + 1, 0, none⟩ = false := frozen_of_row _ _ _ _ _ X1
  refine leaves_cons (f := 64) (args := #[.pointer (some ⟨w.heap.size + 1, 0, none⟩)]) (by simp) (by simp [go_sem]) ?_
  refine (catch_panicking ⟨w.heap.size + 1, 0, none⟩ 0 (n : Int) [] w2 hc hz).mono ?_
  rintro e u' w'' ⟨rfl, rfl, rfl⟩
  have Y0 : (w2.setCell ⟨w.heap.size + 1, 0, none⟩ (.int .i64 (n : Int))).heap[w.heap.size]? = some (.cells c25 25 (0, 0)) := by rw [Below.heap_setCell _ _ _ _ (by show w.heap.size ≠ w.heap.size + 1; omega)]; exact X0
  have Y1 : (w2.setCell ⟨w.heap.size + 1, 0, none⟩ (.int .i64 (n : Int))).cell? ⟨w.heap.size + 1, 0, none⟩ = some (.int .i64 (n : Int)) := World.cell?_setCell_same _ _ _ hc
  have z0 : w2.cell? ⟨w.heap.size, 0, none⟩ = some (.int .u8 0) := by rw [cell_of_row _ _ _ _ 25 (0, 0) X0]; rfl
  have z1 : w2.cell? ⟨w.heap.size, 1, none⟩ = some (.int .i64 0) := by rw [cell_of_row _ _ _ _ 25 (0, 0) X0]; rfl
  have z2 : w2.cell? ⟨w.heap.size, 2, none⟩ = some (.string ⟨#[]⟩) := by rw [cell_of_row _ _ _ _ 25 (0, 0) X0]; rfl
  have z3 : w2.cell? ⟨w.heap.size, 3, none⟩ = some (.slice none 0 0) := by rw [cell_of_row _ _ _ _ 25 (0, 0) X0]; rfl
  have R2 := H.out.other H2.out (b := w.heap.size + 1) (by omega) (set_far w2 _ (.int .i64 (n : Int)))
  have G3 := grown_set (grown_on (grown_below B1.out _) G2.out) (b := w.heap.size + 1) (by omega) (.int .i64 (n : Int))
  simp [Leaves, settle, results, Tryd.results36, go_sem, z0, z1, z2, z3, Y1]
  exact ⟨G3, rfl, R2⟩
set_option maxRecDepth 100000 in
set_option maxHeartbeats 1000000 in
theorem whole_ok (r mp : Nat) (v : Value) (ts : List Mark) (p q : Nat) (x : Ex) (w : World) (h : Rdr r mp v ts p w) (cp : ∀ W, w.grownBy W (some r) → Rdr r mp v ts p W → Calls Tryd.prog 65 #[.pointer (some ⟨r, 0, none⟩), .int .i64 0] W (Post r mp v ts W (.ok (x, q)))) : Calls Tryd.prog 36 #[.pointer (some ⟨r, 0, none⟩)] w (PostW r mp v ts w (.ok (x, q))) := by
  have hmf : ∀ (fn : Fn) (first cap : Array Value) (w : World), (Instr.makeFunc fn first cap).run Tryd.prog w = .ok (.func fn first cap) w := fun _ _ _ _ => rfl
  have b0 := (Below.refl w.heap.size w).alloc (Nat.le_refl _) (.cells c25 25)
  have b1 := bstep b0 ((Below.refl (w.alloc (.cells c25 25)).heap.size (w.alloc (.cells c25 25))).alloc (Nat.le_refl _) (.cells #[.int .i64 0] 28))
  have cp1 := cp _ (grown_below b1 _) (h.step b1)
  have B1 := hid b1
  have H := hid h
  clear b0 b1 cp h
  go_enter_defers Tryd.func36, Tryd.ntmps36
  go_wp2_with (go_at_call 99)
  go_at_call 65
  refine cp1.mono ?_
  rintro e w2 ⟨g2, s, rfl, st, h2⟩
  obtain ⟨ao, cap, rfl⟩ := st.form
  have X1 := kept (W := (w.alloc (.cells c25 25)).alloc (.cells #[.int .i64 0] 28)) (k := w.heap.size + 1) (o := .cells #[.int .i64 0] 28 (0, 0)) (by have := heap_alloc_new (w.alloc (.cells c25 25)) (.cells #[.int .i64 0] 28); simpa using this) g2 (by have := H.out.lt; omega)
  have X0 := kept (W := (w.alloc (.cells c25 25)).alloc (.cells #[.int .i64 0] 28)) (k := w.heap.size) (o := .cells c25 25 (0, 0)) (by rw [Below.heap_alloc _ _ _ (by simp)]; exact heap_alloc_new w _) g2 H.out.lt
  have X1' := (setRow_other w2 w.heap.size _ (ex4 x (.slice ao x.args.length cap)) (show w.heap.size + 1 ≠ w.heap.size by omega)).trans X1
  have y0 : (w2.setRow w.heap.size (ex4 x (.slice ao x.args.length cap))).cell? ⟨w.heap.size + 1, 0, none⟩ = some (.int .i64 0) := by (rw [cell_of_row _ _ _ _ 28 (0, 0) X1']; rfl)
  have y1 : (w2.setRow w.heap.size (ex4 x (.slice ao x.args.length cap))).frozen? ⟨w.heap.size + 1, 0, none⟩ = false := frozen_of_row _ _ _ _ _ X1'
  have G2 := hid g2
  have H2 := hid h2
  have ST := hid st
  clear g2 h2 st cp1
  go_wp2_with (refine wpList_store_row rfl 25 _ _ rfl w.heap.size (ex4 x (.slice ao x.args.length cap)) rfl rfl 25 _ X0 info25 rfl (by simp [Value.oneCell', ex4]) ?_)
  have Y0 : ((w2.setRow w.heap.size (ex4 x (.slice ao x.args.length cap))).setCell ⟨w.heap.size + 1, 0, none⟩ (.int .i64 0)).heap[w.heap.size]? = some (.cells (ex4 x (.slice ao x.args.length cap)) 25 (0, 0)) := by rw [Below.heap_setCell _ _ _ _ (by show w.heap.size ≠ w.heap.size + 1; omega)]; exact setRow_heap _ _ _ _ _ _ X0
  have Y1 : ((w2.setRow w.heap.size (ex4 x (.slice ao x.args.length cap))).setCell ⟨w.heap.size + 1, 0, none⟩ (.int .i64 0)).cell? ⟨w.heap.size + 1, 0, none⟩ = some (.int .i64 0) := World.cell?_setCell_same _ _ _ y0
  have R2 := H.out.other (H.out.setRow H2.out (ex4 x (.slice ao x.args.length cap))) (b := w.heap.size + 1) (by omega) (set_far (w2.setRow w.heap.size (ex4 x (.slice ao x.args.length cap))) _ (.int .i64 0))
  have G3 := grown_set (grown_setRow (grown_on (grown_below B1.out _) G2.out) (ex4 x (.slice ao x.args.length cap))) (b := w.heap.size + 1) (by omega) (.int .i64 0)
  have S3 : StP (fun b => w.heap.size ≤ b) ((w2.setRow w.heap.size (ex4 x (.slice ao x.args.length cap))).setCell ⟨w.heap.size + 1, 0, none⟩ (.int .i64 0)) x (.slice ao x.args.length cap) := by
    refine StP.carryN (fun b hb hl => ?_) (fun b _ hb => ?_) _ x _ (Nat.le_refl _) ST.out
    · simp at hb
      exact (set_far _ _ _ b (by omega)).trans (setRow_other _ _ _ _ (by omega))
    · simp at hb
      show w.heap.size ≤ b
      omega
  clear X0 X1 X1' y0 y1
  generalize (w2.setRow w.heap.size (ex4 x (.slice ao x.args.length cap))).setCell ⟨w.heap.size + 1, 0, none⟩ (.int .i64 0) = w4 at *
  refine leaves_cons (f := 64) (args := #[.pointer (some ⟨w.heap.size + 1, 0, none⟩)]) (by simp) (by simp [go_sem]) ?_
  refine (catch_idle ⟨w.heap.size + 1, 0, none⟩ w4).mono ?_
  rintro e u' w'' ⟨rfl, rfl, rfl⟩
  have z0 : w''.cell? ⟨w.heap.size, 0, none⟩ = some (.int .u8 (x.op : Int)) := by rw [cell_of_row _ _ _ _ 25 (0, 0) Y0]; rfl
  have z1 : w''.cell? ⟨w.heap.size, 1, none⟩ = some (.int .i64 x.n) := by rw [cell_of_row _ _ _ _ 25 (0, 0) Y0]; rfl
  have z2 : w''.cell? ⟨w.heap.size, 2, none⟩ = some (.string x.name) := by rw [cell_of_row _ _ _ _ 25 (0, 0) Y0]; rfl
  have z3 : w''.cell? ⟨w.heap.size, 3, none⟩ = some (.slice ao x.args.length cap) := by rw [cell_of_row _ _ _ _ 25 (0, 0) Y0]; rfl
  simp [Leaves, settle, results, Tryd.results36, go_sem, z0, z1, z2, z3, Y1]
  exact ⟨G3, _, rfl, S3, R2⟩
/-- whole. -/
theorem whole (r mp : Nat) (v : Value) (ts : List Mark) (hT : TsOk ts) (p : Nat) (w : World) (h : Rdr r mp v ts p w) (E : PEnv r mp w) : Calls Tryd.prog 36 #[.pointer (some ⟨r, 0, none⟩)] w (PostW r mp v ts w (P ts 0 p)) := by
  have cp := fun W (g : w.grownBy W (some r)) (hr : Rdr r mp v ts p W) => part_any r mp v ts hT (ts.length + 1) p 0 W (by omega) (by omega) hr (E.grown g)
  cases e : P ts 0 p with
  | error nq =>
    obtain ⟨n, q⟩ := nq
    rw [e] at cp
    exact whole_bad r mp v ts p n q w h cp
  | ok xq =>
    obtain ⟨x, q⟩ := xq
    rw [e] at cp
    exact whole_ok r mp v ts p q x w h cp
end Go.Proofs.YtkieljleopbhoaaDoor.Lex
namespace Go.Proofs.YtkieljleopbhoaaDoor.Lex
open Go.ChangeShapes Go.WideShapes Go.ChangeAt Go.RowKit Go.Joins Go.WideMaps Go.WideElems Go.Maps
theorem results_row_tmp2 {fn : Func} {p u u' : Tmp} {ty : TypeId} {P : Program} (h : fn.results = #[.cell p ty, .tmp u, .tmp u']) (tmps : Array Value) (w : World) (g : Nat) (cs : Array Value)
    (hp : tmps.getD p undef = .pointer (some ⟨g, 0, none⟩)) (hl : (loadVar ty ⟨g, 0, none⟩).run P w = .ok (.agg cs) w) :
    (results fn tmps).run P w = .ok (.tuple #[.agg cs, tmps.getD u undef, tmps.getD u' undef]) w := by
  have hp' : tmps[p]?.getD undef = .pointer (some ⟨g, 0, none⟩) := by simpa using hp
  simp [results, h, hp', asAddr, hl]
/-- What reading needs. -/
structure REnv (w : World) : Prop where
  tabR : TabR w
  tabJ : TabJ w
  var : ∃ tp pv, w.var? Tryd.prog "strconv.ErrRange" = some #[.iface tp pv]
theorem REnv.below {w W : World} (h : REnv w) (b : Below w.heap.size w W) : REnv W := by
  obtain ⟨tp, pv, e⟩ := h.var
  exact ⟨h.tabR.below b, h.tabJ.below b, tp, pv, varAt e b⟩
theorem REnv.size {w : World} (h : REnv w) : 8 ≤ w.heap.size := by
  obtain ⟨tp, pv, e⟩ := h.var
  unfold World.var? at e
  rw [gRange] at e
  simp only [Option.bind_some] at e
  by_cases hl : 7 < w.heap.size
  · omega
  · rw [Array.getElem?_eq_none (by omega)] at e; cases e
/-- What Parse answers. -/
def PostP (w : World) (p : Nat) (res : Res) (e : Ending) (w' : World) : Prop :=
  Below w.heap.size w w' ∧ match res with
    | .error (n, q) => e = .returned (.tuple #[.agg c25, .int .i64 (q : Int), .int .i64 (n : Int)])
    | .ok (x, q) => (chk x = true ∧ ∃ s, e = .returned (.tuple #[exV x s, .int .i64 (q : Int), .int .i64 0]) ∧ StP (fun b => w.heap.size ≤ b) w' x s) ∨ (chk x = false ∧ e = .returned (.tuple #[.agg c25, .int .i64 (p : Int), .int .i64 3]))
set_option maxRecDepth 100000 in
set_option maxHeartbeats 1000000 in
theorem parse_arg (v : Value) (a : Option Addr) (n cap : Nat) (hv : v = .slice a n cap) (i : Int) (h : i < 0 ∨ (n : Int) < i) (w : World) : Calls Tryd.prog 19 #[v, .int .i64 i] w fun e w' => e = .returned (.tuple #[.agg c25, .int .i64 0, .int .i64 1]) ∧ Below w.heap.size w w' := by
  subst hv
  have B0 := hid ((Below.refl w.heap.size w).alloc (Nat.le_refl _) (.cells c25 25))
  have X0 := heap_alloc_new w (.cells c25 25)
  by_cases h0 : i < 0
  · clear h
    go_enter Tryd.func19, Tryd.ntmps19
    go_wp2_with (refine wpList_store_row rfl 25 _ _ rfl w.heap.size c25 rfl rfl 25 _ X0 info25 rfl (by simp [Value.oneCell']) ?_)
    exact bodyPost_ret (results_row_tmp2 rfl _ _ w.heap.size c25 rfl (run_loadVar_row _ _ 25 25 c25 (0, 0) _ (setRow_heap _ _ _ _ _ _ X0) Tryd.underlying25 rfl info25)) rfl ⟨rfl, below_row B0.out B0.out.size (Nat.le_refl _) _⟩
  · have h1 : (n : Int) < i := h.resolve_left h0
    clear h
    go_enter Tryd.func19, Tryd.ntmps19
    go_wp2_with (refine wpList_store_row rfl 25 _ _ rfl w.heap.size c25 rfl rfl 25 _ X0 info25 rfl (by simp [Value.oneCell']) ?_)
    exact bodyPost_ret (results_row_tmp2 rfl _ _ w.heap.size c25 rfl (run_loadVar_row _ _ 25 25 c25 (0, 0) _ (setRow_heap _ _ _ _ _ _ X0) Tryd.underlying25 rfl info25)) rfl ⟨rfl, below_row B0.out B0.out.size (Nat.le_refl _) _⟩
/-- The reader, made. -/
theorem whole_new {w : World} {ts : List Mark} {p : Nat} {v : Value} (E : REnv w) (hT : TsOk ts) (hp : p ≤ ts.length) (hfew : ts.length ≤ 140737488355328) (b0 : Below w.heap.size w (w.alloc (.cells c25 25))) (hM : MarksAt w v ts) (hv : ∀ a n c, v = .slice (some a) n c → a.block < w.heap.size) {w2 : World} (b2 : Below (w.alloc (.cells c25 25)).heap.size (w.alloc (.cells c25 25)) w2) (A2 : AtM (fun _ => true) (w.alloc (.cells c25 25)).heap.size 0 w2) :
    Calls Tryd.prog 36 #[.pointer (some ⟨w2.heap.size, 0, none⟩)] (w2.alloc (.cells #[v, .int .i64 (p : Int), .map (some (w.alloc (.cells c25 25)).heap.size)] 71)) (PostW w2.heap.size (w.alloc (.cells c25 25)).heap.size v ts (w2.alloc (.cells #[v, .int .i64 (p : Int), .map (some (w.alloc (.cells c25 25)).heap.size)] 71)) (P ts 0 p)) := by
  have b3 := (Below.refl w2.heap.size w2).alloc (Nat.le_refl _) (.cells #[v, .int .i64 (p : Int), .map (some (w.alloc (.cells c25 25)).heap.size)] 71)
  have b12 := bstep b0 b2
  have b13 := bstep b12 b3
  have E3 := E.below b13
  have hmp : (w.alloc (.cells c25 25)).heap.size < w2.heap.size := by
    obtain ⟨es, cl, e, _⟩ := A2
    exact (Array.getElem?_eq_some_iff.1 e).1
  have hs := E.size
  have hs2 := b12.size
  have hM2 : MarksAt w2 v ts := hM.carry fun a n c _ hlt => b12.block a.block hlt
  refine whole w2.heap.size (w.alloc (.cells c25 25)).heap.size v ts hT p _ ⟨heap_alloc_new w2 _, hM2.carry fun a n c _ hlt => b3.block a.block hlt, hp, hfew, fun a n c e => ?_, Nat.ne_of_lt hmp⟩ ⟨E3.tabR, E3.tabJ, E3.var, A2.kept fun hl => b3.block _ hl, by omega, Nat.ne_of_lt hmp⟩
  have := hv a n c e
  omega
theorem kept0 {W W' : World} {r k : Nat} {o : Obj} (h : W.heap[k]? = some o) (g : W.grownBy W' (some r)) (hk : k ≠ r) : W'.heap[k]? = some o :=
  (g.block k (Array.getElem?_eq_some_iff.1 h).1 (fun e => by injection e with e; exact hk e)).trans h
theorem below_of_grown {w W W' : World} {r : Nat} (b : Below w.heap.size w W) (g : W.grownBy W' (some r)) (hr : w.heap.size ≤ r) : Below w.heap.size w W' :=
  ⟨g.os.trans b.os, g.tape.trans b.tape, g.output.trans b.output, Nat.le_trans b.size g.size, fun k hk => (g.block k (Nat.lt_of_lt_of_le hk b.size) (fun e => by injection e; omega)).trans (b.block k hk)⟩
set_option maxRecDepth 100000 in
set_option maxHeartbeats 1000000 in
theorem parse_bad {w : World} (v : Value) (ts : List Mark) (p : Nat) (hM : MarksAt w v ts) (hv : ∀ a n c, v = .slice (some a) n c → a.block < w.heap.size) (E : REnv w) (hT : TsOk ts) (hp : p ≤ ts.length) (hfew : ts.length ≤ 140737488355328) (n q : Nat) (hP : P ts 0 p = .error (n, q)) (hn : n ≠ 0) : Calls Tryd.prog 19 #[v, .int .i64 (p : Int)] w (PostP w p (.error (n, q))) := by
  have hM0 := hM
  obtain ⟨a, cap0, rfl, hm⟩ := hM
  have b0 := (Below.refl w.heap.size w).alloc (Nat.le_refl _) (.cells c25 25)
  have ca := atoms (w.alloc (.cells c25 25))
  have cw : ∀ w2, Below (w.alloc (.cells c25 25)).heap.size (w.alloc (.cells c25 25)) w2 → AtM (fun _ => true) (w.alloc (.cells c25 25)).heap.size 0 w2 → Calls Tryd.prog 36 #[.pointer (some ⟨w2.heap.size, 0, none⟩)] (w2.alloc (.cells #[.slice a ts.length cap0, .int .i64 (p : Int), .map (some (w.alloc (.cells c25 25)).heap.size)] 71)) (PostW w2.heap.size (w.alloc (.cells c25 25)).heap.size (.slice a ts.length cap0) ts (w2.alloc (.cells #[.slice a ts.length cap0, .int .i64 (p : Int), .map (some (w.alloc (.cells c25 25)).heap.size)] 71)) (P ts 0 p)) := fun w2 b2 A2 => whole_new E hT hp hfew b0 ⟨a, cap0, rfl, hm⟩ hv b2 A2
  have LE := hid hp
  have hp0 : decide ((p : Int) < 0) = false := by simp
  have hp0' : ¬ (p : Int) < 0 := by omega
  have hp1 : decide (ts.length < p) = false := by simp; omega
  have hp1' : ¬ (ts.length : Int) < (p : Int) := by omega
  have B0 := hid b0
  have E0 := hid E
  have X0 := hid (heap_alloc_new w (.cells c25 25))
  have SZ : (w.alloc (.cells c25 25)).heap.size = w.heap.size + 1 := by simp
  simp only [SZ] at cw
  rw [hP] at cw
  clear hM0 b0 E hT hp hP hm hv hfew
  have hn0 : ¬ (n : Int) = 0 := by omega
  have hn1 : ((n : Int) == 0) = false := by simp; omega
  go_enter Tryd.func19, Tryd.ntmps19
  go_wp2_with (first
    | (go_at_call 35; refine ca.mono ?_; rintro e w2 ⟨mp, rfl, A2, hmp, b2⟩; rw [SZ] at hmp; subst hmp; have B2 := hid b2; rw [SZ] at b2; have c36 := cw w2 b2 A2; clear A2 b2 ca cw)
    | (go_at_call 36; refine c36.mono ?_; rintro e w3 ⟨g3, rfl, h3⟩; have g4 := grown_on (grown_below ((Below.refl w2.heap.size w2).alloc (Nat.le_refl _) (.cells #[.slice a ts.length cap0, .int .i64 (p : Int), .map (some (w.heap.size + 1))] 71)) (some w2.heap.size)) g3; have S2 := hid (show w.heap.size < w2.heap.size from Nat.lt_of_lt_of_le (by rw [SZ]; exact Nat.lt_succ_self _) B2.out.size); have b4 : Below w.heap.size w w3 := below_of_grown (bstep B0.out B2.out) g4 (Nat.le_of_lt S2.out); have X3 := kept0 ((B2.out.block _ (by rw [SZ]; exact Nat.lt_succ_self _)).trans X0.out) g4 (Nat.ne_of_lt S2.out); have H3 := hid h3; have B4 := hid b4; clear g3 g4 h3 b4 c36)
    | (refine wpList_store_row rfl 25 _ _ rfl w.heap.size c25 rfl rfl 25 _ X3 info25 rfl (by simp [Value.oneCell']) ?_))
  rename_i K6 hK6
  have hne : w2.heap.size ≠ w.heap.size := Nat.ne_of_gt S2.out
  have YR : (w3.setRow w.heap.size c25).drew.cell? ⟨w2.heap.size, 1, none⟩ = some (.int .i64 (q : Int)) := (World.cell?_of_block (w := w3) (a := ⟨w2.heap.size, 1, none⟩) (setRow_other w3 _ _ _ hne)).trans H3.out.at1.1
  have X5 : (w3.setRow w.heap.size c25).drew.heap[w.heap.size]? = some (.cells c25 25 (0, 0)) := setRow_heap _ _ _ _ _ _ X3
  have B5 := hid (below_drewN (below_row B4.out B4.out.size (Nat.le_refl w.heap.size) c25) 1)
  have YR2 : ((w3.setRow w.heap.size c25).drew.setRow w.heap.size c25).cell? ⟨w2.heap.size, 1, none⟩ = some (.int .i64 (q : Int)) := (World.cell?_of_block (w := (w3.setRow w.heap.size c25).drew) (a := ⟨w2.heap.size, 1, none⟩) (setRow_other _ _ _ _ hne)).trans YR
  refine wp_region_held_drew (S := fun V => V.cell? ⟨w2.heap.size, 1, none⟩ = some (.int .i64 (q : Int))) (by kernel_rfl) ?_ (fun hHeld => ?_)
  · exact YR
  refine wpAnyH_take (i := 0) (oi := { dst := some 29, op := Go.Op.build 25 #[], type := 25, pos := _, after := #[], guard := none }) (v := ?_) rfl (by kernel_rfl) (by kernel_rfl) (by kernel_rfl) (fun _ _ _ h => h) (Or.inl ⟨by rfl, ?_⟩) (by assumption) ?_
  rotate_left
  · intro w hSw; (try dsimp only at hSw); go_simp <;> with_reducible rfl
  simp only [Act.put, List.setIfInBounds_toArray, List.set_cons_zero, List.set_cons_succ]
  refine wpAnyH_take (i := 1) (oi := { dst := some 30, op := Go.Op.move (Go.Operand.tmp 7), type := 67, pos := _, after := #[{ on := 6, ground := Go.Ground.gcOnly Go.Departure.lateStores }], guard := none }) (v := ?_) rfl (by kernel_rfl) (by kernel_rfl) (by kernel_rfl) (fun _ _ _ h => h) (Or.inl ⟨by rfl, ?_⟩) (by assumption) ?_
  rotate_left
  · intro w hSw; (try dsimp only at hSw); go_simp <;> with_reducible rfl
  simp only [Act.put, List.setIfInBounds_toArray, List.set_cons_zero, List.set_cons_succ]
  refine wpAnyH_take (i := 2) (oi := { dst := some 31, op := Go.Op.nilCheck (Go.Operand.tmp 30), type := 0, pos := _, after := #[{ on := 1, ground := Go.Ground.data }, { on := 6, ground := Go.Ground.gcOnly Go.Departure.lateStores }], guard := none }) (v := ?_) rfl (by kernel_rfl) (by kernel_rfl) (by kernel_rfl) (fun _ _ _ h => h) (Or.inl ⟨by rfl, ?_⟩) (by assumption) ?_
  rotate_left
  · intro w hSw; (try dsimp only at hSw); go_simp <;> with_reducible rfl
  simp only [Act.put, List.setIfInBounds_toArray, List.set_cons_zero, List.set_cons_succ]
  refine wpAnyH_take (i := 3) (oi := { dst := some 32, op := Go.Op.fieldAddr 71 (Go.Operand.tmp 31) 1, type := 0, pos := _, after := #[{ on := 2, ground := Go.Ground.data }, { on := 6, ground := Go.Ground.gcOnly Go.Departure.lateStores }], guard := none }) (v := ?_) rfl (by kernel_rfl) (by kernel_rfl) (by kernel_rfl) (fun _ _ _ h => h) (Or.inl ⟨by rfl, ?_⟩) (by assumption) ?_
  rotate_left
  · intro w hSw; (try dsimp only at hSw); go_simp <;> with_reducible rfl
  simp only [Act.put, List.setIfInBounds_toArray, List.set_cons_zero, List.set_cons_succ]
  refine wpAnyH_take (i := 4) (oi := { dst := some 33, op := Go.Op.load 3 (Go.Operand.tmp 32), type := 3, pos := _, after := #[{ on := 3, ground := Go.Ground.data }, { on := 6, ground := Go.Ground.gcOnly Go.Departure.lateStores }], guard := none }) (v := ?_) rfl (by kernel_rfl) (by kernel_rfl) (by kernel_rfl) (fun _ _ _ h => h) (Or.inl ⟨by rfl, ?_⟩) (by assumption) ?_
  rotate_left
  · intro w hSw; (try dsimp only at hSw); go_simp <;> with_reducible rfl
  simp only [Act.put, List.setIfInBounds_toArray, List.set_cons_zero, List.set_cons_succ]
  refine wpAnyH_take (i := 5) (oi := { dst := some 34, op := Go.Op.move (Go.Operand.tmp 6), type := 28, pos := _, after := #[{ on := 7, ground := Go.Ground.gcOnly Go.Departure.lateStores }], guard := none }) (v := ?_) rfl (by kernel_rfl) (by kernel_rfl) (by kernel_rfl) (fun _ _ _ h => h) (Or.inl ⟨by rfl, ?_⟩) (by assumption) ?_
  rotate_left
  · intro w hSw; (try dsimp only at hSw); go_simp <;> with_reducible rfl
  simp only [Act.put, List.setIfInBounds_toArray, List.set_cons_zero, List.set_cons_succ]
  refine wpAnyH_ready (rs := [6]) (by kernel_rfl) (by simp) ?_
  refine AllReadyH.cons (o := { dst := none, op := Go.Op.store 25 (Go.Operand.tmp 4) (Go.Operand.tmp 29), type := 0, pos := _, after := #[{ on := 0, ground := Go.Ground.data }, { on := 0, ground := Go.Ground.phase }, { on := 1, ground := Go.Ground.textOnly Go.Departure.lateStores }, { on := 2, ground := Go.Ground.textOnly Go.Departure.lateStores }, { on := 3, ground := Go.Ground.textOnly Go.Departure.lateStores }, { on := 4, ground := Go.Ground.textOnly Go.Departure.lateStores }, { on := 5, ground := Go.Ground.textOnly Go.Departure.lateStores }], guard := none }) rfl (fun K hK => ?_) AllReadyH.nil
  refine if_take (by rfl) ?_
  refine wp_store_row 25 _ _ rfl w.heap.size c25 rfl rfl 25 _ X5 info25 rfl (by simp [Value.oneCell']) ?_
  refine hK.out _ _ ?_ (fun _ => ?_)
  · exact YR2
  clear hK K
  refine wpAnyH_take (i := 7) (oi := { dst := some 5, op := Go.Op.assign (Go.Operand.tmp 33), type := 3, pos := _, after := #[{ on := 4, ground := Go.Ground.data }, { on := 6, ground := Go.Ground.chain }, { on := 0, ground := Go.Ground.phase }, { on := 1, ground := Go.Ground.phase }, { on := 2, ground := Go.Ground.phase }, { on := 3, ground := Go.Ground.phase }, { on := 4, ground := Go.Ground.phase }, { on := 5, ground := Go.Ground.textOnly Go.Departure.lateStores }, { on := 6, ground := Go.Ground.phase }], guard := none }) (v := ?_) rfl (by kernel_rfl) (by kernel_rfl) (by kernel_rfl) (fun _ _ _ h => h) (Or.inl ⟨by rfl, ?_⟩) (by assumption) ?_
  rotate_left
  · intro w hSw; (try dsimp only at hSw); go_simp <;> with_reducible rfl
  simp only [Act.put, List.setIfInBounds_toArray, List.set_cons_zero, List.set_cons_succ]
  refine wpAnyH_take (i := 8) (oi := { dst := some 6, op := Go.Op.assign (Go.Operand.tmp 34), type := 28, pos := _, after := #[{ on := 5, ground := Go.Ground.data }, { on := 7, ground := Go.Ground.chain }, { on := 0, ground := Go.Ground.phase }, { on := 1, ground := Go.Ground.phase }, { on := 2, ground := Go.Ground.phase }, { on := 3, ground := Go.Ground.phase }, { on := 4, ground := Go.Ground.phase }, { on := 5, ground := Go.Ground.phase }, { on := 6, ground := Go.Ground.phase }, { on := 7, ground := Go.Ground.phase }], guard := none }) (v := ?_) rfl (by kernel_rfl) (by kernel_rfl) (by kernel_rfl) (fun _ _ _ h => h) (Or.inl ⟨by rfl, ?_⟩) (by assumption) ?_
  rotate_left
  · intro w hSw; (try dsimp only at hSw); go_simp <;> with_reducible rfl
  simp only [Act.put, List.setIfInBounds_toArray, List.set_cons_zero, List.set_cons_succ]
  refine wpAnyH_done (by kernel_rfl) ?_ _
  refine hK6 _ _ ?_
  go_wp2
  exact bodyPost_ret (results_row_tmp2 rfl _ _ w.heap.size c25 rfl (run_loadVar_row _ _ 25 25 c25 (0, 0) _ (setRow_heap _ _ _ _ _ _ X5) Tryd.underlying25 rfl info25)) rfl ⟨below_row B5.out B5.out.size (Nat.le_refl _) _, rfl⟩
theorem st_over {w w2 w3 : World} {c : Array Value} {t : TypeId} {x : Ex} {s : Value} (st : StP (fun b => (w2.alloc (.cells c t)).heap.size ≤ b) w3 x s) (h : w.heap.size < w2.heap.size) (d : Array Value) : StP (fun b => w.heap.size < b) (w3.setRow w.heap.size d) x s := by
  refine StP.carryN (fun b hb hl => ?_) (fun b _ hb => ?_) _ x _ (Nat.le_refl _) st
  · simp at hb
    exact setRow_other _ _ _ _ (by omega)
  · simp at hb
    show w.heap.size < b
    omega
set_option maxRecDepth 100000 in
set_option maxHeartbeats 1000000 in
theorem parse_ok {w : World} (v : Value) (ts : List Mark) (p : Nat) (hM : MarksAt w v ts) (hv : ∀ a n c, v = .slice (some a) n c → a.block < w.heap.size) (E : REnv w) (hT : TsOk ts) (hp : p ≤ ts.length) (hfew : ts.length ≤ 140737488355328) (x : Ex) (q : Nat) (hP : P ts 0 p = .ok (x, q)) (hchk : chk x = true) : Calls Tryd.prog 19 #[v, .int .i64 (p : Int)] w (PostP w p (.ok (x, q))) := by
  have hM0 := hM
  obtain ⟨a, cap0, rfl, hm⟩ := hM
  have b0 := (Below.refl w.heap.size w).alloc (Nat.le_refl _) (.cells c25 25)
  have ca := atoms (w.alloc (.cells c25 25))
  have cw : ∀ w2, Below (w.alloc (.cells c25 25)).heap.size (w.alloc (.cells c25 25)) w2 → AtM (fun _ => true) (w.alloc (.cells c25 25)).heap.size 0 w2 → Calls Tryd.prog 36 #[.pointer (some ⟨w2.heap.size, 0, none⟩)] (w2.alloc (.cells #[.slice a ts.length cap0, .int .i64 (p : Int), .map (some (w.alloc (.cells c25 25)).heap.size)] 71)) (PostW w2.heap.size (w.alloc (.cells c25 25)).heap.size (.slice a ts.length cap0) ts (w2.alloc (.cells #[.slice a ts.length cap0, .int .i64 (p : Int), .map (some (w.alloc (.cells c25 25)).heap.size)] 71)) (P ts 0 p)) := fun w2 b2 A2 => whole_new E hT hp hfew b0 ⟨a, cap0, rfl, hm⟩ hv b2 A2
  have LE := hid hp
  have hp0 : decide ((p : Int) < 0) = false := by simp
  have hp0' : ¬ (p : Int) < 0 := by omega
  have hp1 : decide (ts.length < p) = false := by simp; omega
  have hp1' : ¬ (ts.length : Int) < (p : Int) := by omega
  have B0 := hid b0
  have E0 := hid E
  have X0 := hid (heap_alloc_new w (.cells c25 25))
  have SZ : (w.alloc (.cells c25 25)).heap.size = w.heap.size + 1 := by simp
  simp only [SZ] at cw
  rw [hP] at cw
  have cc := fun W S (hb : Below w.heap.size w W) (hS : St W x S) => check x W S hS (E.below hb).tabR (E.below hb).tabJ
  clear hM0 b0 E hT hp hP hm hv hfew
  rw [hchk] at cc
  go_enter Tryd.func19, Tryd.ntmps19
  go_wp2_with (first
    | (go_at_call 35; refine ca.mono ?_; rintro e w2 ⟨mp, rfl, A2, hmp, b2⟩; rw [SZ] at hmp; subst hmp; have B2 := hid b2; rw [SZ] at b2; have c36 := cw w2 b2 A2; clear A2 b2 ca cw)
    | (go_at_call 36; refine c36.mono ?_; rintro e w3 ⟨g3, s, rfl, st, h3⟩; obtain ⟨ao, cap, rfl⟩ := st.form; have g4 := grown_on (grown_below ((Below.refl w2.heap.size w2).alloc (Nat.le_refl _) (.cells #[.slice a ts.length cap0, .int .i64 (p : Int), .map (some (w.heap.size + 1))] 71)) (some w2.heap.size)) g3; have S2 := hid (show w.heap.size < w2.heap.size from Nat.lt_of_lt_of_le (by rw [SZ]; exact Nat.lt_succ_self _) B2.out.size); have b4 : Below w.heap.size w w3 := below_of_grown (bstep B0.out B2.out) g4 (Nat.le_of_lt S2.out); have X3 := kept0 ((B2.out.block _ (by rw [SZ]; exact Nat.lt_succ_self _)).trans X0.out) g4 (Nat.ne_of_lt S2.out); have H3 := hid h3; have B4 := hid b4; have X5 := setRow_heap w3 w.heap.size _ (ex4 x (.slice ao x.args.length cap)) 25 (0, 0) X3; have B5 := hid (below_row b4 b4.size (Nat.le_refl w.heap.size) (ex4 x (.slice ao x.args.length cap))); have T5 := hid (st_over st S2.out (ex4 x (.slice ao x.args.length cap))); clear g3 g4 h3 b4 c36 st)
    | (refine wpList_store_row rfl 25 _ _ rfl w.heap.size (ex4 x (.slice ao x.args.length cap)) rfl rfl 25 _ X3 info25 rfl (by simp [Value.oneCell', ex4]) ?_)
    | (refine wpList_load_row rfl 25 _ rfl w.heap.size rfl 25 (ex4 x (.slice ao x.args.length cap)) (0, 0) _ X5 Tryd.underlying25 rfl info25 ?_)
    | (go_at_call 11; refine (cc _ _ B5.out T5.out.st).mono ?_; rintro e w6 ⟨rfl, b6⟩; have X6 := (b6.block _ (Array.getElem?_eq_some_iff.1 X5).1).trans X5; have B6 := hid b6; clear b6 cc X5))
  rename_i K6 hK6
  have hne : w2.heap.size ≠ w.heap.size := Nat.ne_of_gt S2.out
  have hlt : w2.heap.size < (w3.setRow w.heap.size (ex4 x (.slice ao x.args.length cap))).heap.size := Nat.lt_of_lt_of_le H3.out.lt (by simp [World.setRow])
  have hr6 : w6.cell? ⟨w2.heap.size, 1, none⟩ = some (.int .i64 (q : Int)) := by
    rw [World.cell?_of_block (w := w3.setRow w.heap.size (ex4 x (.slice ao x.args.length cap))) (a := ⟨w2.heap.size, 1, none⟩) (B6.out.block _ hlt)]
    exact (World.cell?_of_block (w := w3) (a := ⟨w2.heap.size, 1, none⟩) (setRow_other w3 _ _ _ hne)).trans H3.out.at1.1
  have T6 := hid (T5.out.carry fun b _ hl => B6.out.block b hl)
  have D6 := hid (bstep B5.out (B6.out.trans (below_drewN (Below.refl _ w6) 1)))
  have YR : w6.drew.cell? ⟨w2.heap.size, 1, none⟩ = some (.int .i64 (q : Int)) ∧ w6.drew.cell? ⟨w.heap.size, 0, none⟩ = some (.int .u8 (x.op : Int)) ∧ w6.drew.cell? ⟨w.heap.size, 1, none⟩ = some (.int .i64 x.n) ∧ w6.drew.cell? ⟨w.heap.size, 2, none⟩ = some (.string x.name) ∧ w6.drew.cell? ⟨w.heap.size, 3, none⟩ = some (.slice ao x.args.length cap) :=
    ⟨hr6, (cell_of_row _ _ _ _ 25 (0, 0) X6).trans rfl, (cell_of_row _ _ _ _ 25 (0, 0) X6).trans rfl, (cell_of_row _ _ _ _ 25 (0, 0) X6).trans rfl, (cell_of_row _ _ _ _ 25 (0, 0) X6).trans rfl⟩
  have X6 : w6.drew.heap[w.heap.size]? = some (.cells (ex4 x (.slice ao x.args.length cap)) 25 (0, 0)) := X6
  have X7 := setRow_heap w6.drew w.heap.size _ (ex4 x (.slice ao x.args.length cap)) 25 (0, 0) X6
  have hr7 := (World.cell?_of_block (w := w6.drew) (a := ⟨w2.heap.size, 1, none⟩) (setRow_other w6.drew w.heap.size _ (ex4 x (.slice ao x.args.length cap)) hne)).trans YR.1
  have YR2 : (w6.drew.setRow w.heap.size (ex4 x (.slice ao x.args.length cap))).cell? ⟨w2.heap.size, 1, none⟩ = some (.int .i64 (q : Int)) ∧ (w6.drew.setRow w.heap.size (ex4 x (.slice ao x.args.length cap))).cell? ⟨w.heap.size, 0, none⟩ = some (.int .u8 (x.op : Int)) ∧ (w6.drew.setRow w.heap.size (ex4 x (.slice ao x.args.length cap))).cell? ⟨w.heap.size, 1, none⟩ = some (.int .i64 x.n) ∧ (w6.drew.setRow w.heap.size (ex4 x (.slice ao x.args.length cap))).cell? ⟨w.heap.size, 2, none⟩ = some (.string x.name) ∧ (w6.drew.setRow w.heap.size (ex4 x (.slice ao x.args.length cap))).cell? ⟨w.heap.size, 3, none⟩ = some (.slice ao x.args.length cap) :=
    ⟨hr7, (cell_of_row _ _ _ _ 25 (0, 0) X7).trans rfl, (cell_of_row _ _ _ _ 25 (0, 0) X7).trans rfl, (cell_of_row _ _ _ _ 25 (0, 0) X7).trans rfl, (cell_of_row _ _ _ _ 25 (0, 0) X7).trans rfl⟩
  refine wp_region_held_drew (S := fun V => V.cell? ⟨w2.heap.size, 1, none⟩ = some (.int .i64 (q : Int)) ∧ V.cell? ⟨w.heap.size, 0, none⟩ = some (.int .u8 (x.op : Int)) ∧ V.cell? ⟨w.heap.size, 1, none⟩ = some (.int .i64 x.n) ∧ V.cell? ⟨w.heap.size, 2, none⟩ = some (.string x.name) ∧ V.cell? ⟨w.heap.size, 3, none⟩ = some (.slice ao x.args.length cap)) (by kernel_rfl) ?_ (fun hHeld => ?_)
  · exact YR
  refine wpAnyH_take (i := 0) (oi := { dst := some 40, op := Go.Op.load 25 (Go.Operand.tmp 4), type := 25, pos := _, after := #[], guard := none }) (v := ?_) rfl (by kernel_rfl) (by kernel_rfl) (by kernel_rfl) (fun _ _ _ h => h) (Or.inl ⟨by rfl, ?_⟩) (by assumption) ?_
  rotate_left
  · intro w hSw; (try dsimp only at hSw); go_simp <;> with_reducible rfl
  simp only [Act.put, List.setIfInBounds_toArray, List.set_cons_zero, List.set_cons_succ]
  refine wpAnyH_take (i := 1) (oi := { dst := some 41, op := Go.Op.move (Go.Operand.tmp 7), type := 67, pos := _, after := #[{ on := 5, ground := Go.Ground.gcOnly Go.Departure.lateStores }], guard := none }) (v := ?_) rfl (by kernel_rfl) (by kernel_rfl) (by kernel_rfl) (fun _ _ _ h => h) (Or.inl ⟨by rfl, ?_⟩) (by assumption) ?_
  rotate_left
  · intro w hSw; (try dsimp only at hSw); go_simp <;> with_reducible rfl
  simp only [Act.put, List.setIfInBounds_toArray, List.set_cons_zero, List.set_cons_succ]
  refine wpAnyH_take (i := 2) (oi := { dst := some 42, op := Go.Op.nilCheck (Go.Operand.tmp 41), type := 0, pos := _, after := #[{ on := 1, ground := Go.Ground.data }, { on := 5, ground := Go.Ground.gcOnly Go.Departure.lateStores }], guard := none }) (v := ?_) rfl (by kernel_rfl) (by kernel_rfl) (by kernel_rfl) (fun _ _ _ h => h) (Or.inl ⟨by rfl, ?_⟩) (by assumption) ?_
  rotate_left
  · intro w hSw; (try dsimp only at hSw); go_simp <;> with_reducible rfl
  simp only [Act.put, List.setIfInBounds_toArray, List.set_cons_zero, List.set_cons_succ]
  refine wpAnyH_take (i := 3) (oi := { dst := some 43, op := Go.Op.fieldAddr 71 (Go.Operand.tmp 42) 1, type := 0, pos := _, after := #[{ on := 2, ground := Go.Ground.data }, { on := 5, ground := Go.Ground.gcOnly Go.Departure.lateStores }], guard := none }) (v := ?_) rfl (by kernel_rfl) (by kernel_rfl) (by kernel_rfl) (fun _ _ _ h => h) (Or.inl ⟨by rfl, ?_⟩) (by assumption) ?_
  rotate_left
  · intro w hSw; (try dsimp only at hSw); go_simp <;> with_reducible rfl
  simp only [Act.put, List.setIfInBounds_toArray, List.set_cons_zero, List.set_cons_succ]
  refine wpAnyH_take (i := 4) (oi := { dst := some 44, op := Go.Op.load 3 (Go.Operand.tmp 43), type := 3, pos := _, after := #[{ on := 3, ground := Go.Ground.data }, { on := 5, ground := Go.Ground.gcOnly Go.Departure.lateStores }], guard := none }) (v := ?_) rfl (by kernel_rfl) (by kernel_rfl) (by kernel_rfl) (fun _ _ _ h => h) (Or.inl ⟨by rfl, ?_⟩) (by assumption) ?_
  rotate_left
  · intro w hSw; (try dsimp only at hSw); go_simp <;> with_reducible rfl
  simp only [Act.put, List.setIfInBounds_toArray, List.set_cons_zero, List.set_cons_succ]
  refine wpAnyH_ready (rs := [5]) (by kernel_rfl) (by simp) ?_
  refine AllReadyH.cons (o := { dst := none, op := Go.Op.store 25 (Go.Operand.tmp 4) (Go.Operand.tmp 40), type := 0, pos := _, after := #[{ on := 0, ground := Go.Ground.data }, { on := 0, ground := Go.Ground.phase }, { on := 1, ground := Go.Ground.textOnly Go.Departure.lateStores }, { on := 2, ground := Go.Ground.textOnly Go.Departure.lateStores }, { on := 3, ground := Go.Ground.textOnly Go.Departure.lateStores }, { on := 4, ground := Go.Ground.textOnly Go.Departure.lateStores }], guard := none }) rfl (fun K hK => ?_) AllReadyH.nil
  refine if_take (by rfl) ?_
  refine wp_store_row 25 _ _ rfl w.heap.size (ex4 x (.slice ao x.args.length cap)) rfl rfl 25 _ X6 info25 rfl (by simp [Value.oneCell', ex4]) ?_
  refine hK.out _ _ ?_ (fun _ => ?_)
  · exact YR2
  clear hK K
  refine wpAnyH_take (i := 6) (oi := { dst := some 5, op := Go.Op.assign (Go.Operand.tmp 44), type := 3, pos := _, after := #[{ on := 4, ground := Go.Ground.data }, { on := 5, ground := Go.Ground.chain }, { on := 0, ground := Go.Ground.phase }, { on := 1, ground := Go.Ground.phase }, { on := 2, ground := Go.Ground.phase }, { on := 3, ground := Go.Ground.phase }, { on := 4, ground := Go.Ground.phase }, { on := 5, ground := Go.Ground.phase }], guard := none }) (v := ?_) rfl (by kernel_rfl) (by kernel_rfl) (by kernel_rfl) (fun _ _ _ h => h) (Or.inl ⟨by rfl, ?_⟩) (by assumption) ?_
  rotate_left
  · intro w hSw; (try dsimp only at hSw); go_simp <;> with_reducible rfl
  simp only [Act.put, List.setIfInBounds_toArray, List.set_cons_zero, List.set_cons_succ]
  refine wpAnyH_take (i := 7) (oi := { dst := some 6, op := Go.Op.assign (Go.Operand.const (Go.Value.int Go.IntKind.i64 0)), type := 28, pos := _, after := #[{ on := 6, ground := Go.Ground.chain }, { on := 0, ground := Go.Ground.phase }, { on := 1, ground := Go.Ground.phase }, { on := 2, ground := Go.Ground.phase }, { on := 3, ground := Go.Ground.phase }, { on := 4, ground := Go.Ground.phase }, { on := 5, ground := Go.Ground.phase }, { on := 6, ground := Go.Ground.phase }], guard := none }) (v := ?_) rfl (by kernel_rfl) (by kernel_rfl) (by kernel_rfl) (fun _ _ _ h => h) (Or.inl ⟨by rfl, ?_⟩) (by assumption) ?_
  rotate_left
  · intro w hSw; (try dsimp only at hSw); go_simp <;> with_reducible rfl
  simp only [Act.put, List.setIfInBounds_toArray, List.set_cons_zero, List.set_cons_succ]
  refine wpAnyH_done (by kernel_rfl) ?_ _
  refine hK6 _ _ ?_
  go_wp2
  refine bodyPost_ret (results_row_tmp2 rfl _ _ w.heap.size (ex4 x (.slice ao x.args.length cap)) rfl (run_loadVar_row _ _ 25 25 (ex4 x (.slice ao x.args.length cap)) (0, 0) _ X7 Tryd.underlying25 rfl info25)) rfl ⟨below_row D6.out D6.out.size (Nat.le_refl _) _, .inl ⟨hchk, _, rfl, ?_⟩⟩
  exact StP.carryN (w := w6) (fun b hb _ => (setRow_other w6.drew _ _ _ (Nat.ne_of_gt hb)).trans rfl) (fun b _ hb => Nat.le_of_lt hb) _ x _ (Nat.le_refl _) T6.out
set_option maxRecDepth 100000 in
set_option maxHeartbeats 1000000 in
theorem parse_lim {w : World} (v : Value) (ts : List Mark) (p : Nat) (hM : MarksAt w v ts) (hv : ∀ a n c, v = .slice (some a) n c → a.block < w.heap.size) (E : REnv w) (hT : TsOk ts) (hp : p ≤ ts.length) (hfew : ts.length ≤ 140737488355328) (x : Ex) (q : Nat) (hP : P ts 0 p = .ok (x, q)) (hchk : chk x = false) : Calls Tryd.prog 19 #[v, .int .i64 (p : Int)] w (PostP w p (.ok (x, q))) := by
  have hM0 := hM
  obtain ⟨a, cap0, rfl, hm⟩ := hM
  have b0 := (Below.refl w.heap.size w).alloc (Nat.le_refl _) (.cells c25 25)
  have ca := atoms (w.alloc (.cells c25 25))
  have cw : ∀ w2, Below (w.alloc (.cells c25 25)).heap.size (w.alloc (.cells c25 25)) w2 → AtM (fun _ => true) (w.alloc (.cells c25 25)).heap.size 0 w2 → Calls Tryd.prog 36 #[.pointer (some ⟨w2.heap.size, 0, none⟩)] (w2.alloc (.cells #[.slice a ts.length cap0, .int .i64 (p : Int), .map (some (w.alloc (.cells c25 25)).heap.size)] 71)) (PostW w2.heap.size (w.alloc (.cells c25 25)).heap.size (.slice a ts.length cap0) ts (w2.alloc (.cells #[.slice a ts.length cap0, .int .i64 (p : Int), .map (some (w.alloc (.cells c25 25)).heap.size)] 71)) (P ts 0 p)) := fun w2 b2 A2 => whole_new E hT hp hfew b0 ⟨a, cap0, rfl, hm⟩ hv b2 A2
  have LE := hid hp
  have hp0 : decide ((p : Int) < 0) = false := by simp
  have hp0' : ¬ (p : Int) < 0 := by omega
  have hp1 : decide (ts.length < p) = false := by simp; omega
  have hp1' : ¬ (ts.length : Int) < (p : Int) := by omega
  have B0 := hid b0
  have E0 := hid E
  have X0 := hid (heap_alloc_new w (.cells c25 25))
  have SZ : (w.alloc (.cells c25 25)).heap.size = w.heap.size + 1 := by simp
  simp only [SZ] at cw
  rw [hP] at cw
  have cc := fun W S (hb : Below w.heap.size w W) (hS : St W x S) => check x W S hS (E.below hb).tabR (E.below hb).tabJ
  clear hM0 b0 E hT hp hP hm hv hfew
  rw [hchk] at cc
  go_enter Tryd.func19, Tryd.ntmps19
  go_wp2_with (first
    | (go_at_call 35; refine ca.mono ?_; rintro e w2 ⟨mp, rfl, A2, hmp, b2⟩; rw [SZ] at hmp; subst hmp; have B2 := hid b2; rw [SZ] at b2; have c36 := cw w2 b2 A2; clear A2 b2 ca cw)
    | (go_at_call 36; refine c36.mono ?_; rintro e w3 ⟨g3, s, rfl, st, h3⟩; obtain ⟨ao, cap, rfl⟩ := st.form; have g4 := grown_on (grown_below ((Below.refl w2.heap.size w2).alloc (Nat.le_refl _) (.cells #[.slice a ts.length cap0, .int .i64 (p : Int), .map (some (w.heap.size + 1))] 71)) (some w2.heap.size)) g3; have S2 := hid (show w.heap.size < w2.heap.size from Nat.lt_of_lt_of_le (by rw [SZ]; exact Nat.lt_succ_self _) B2.out.size); have b4 : Below w.heap.size w w3 := below_of_grown (bstep B0.out B2.out) g4 (Nat.le_of_lt S2.out); have X3 := kept0 ((B2.out.block _ (by rw [SZ]; exact Nat.lt_succ_self _)).trans X0.out) g4 (Nat.ne_of_lt S2.out); have H3 := hid h3; have B4 := hid b4; have X5 := setRow_heap w3 w.heap.size _ (ex4 x (.slice ao x.args.length cap)) 25 (0, 0) X3; have B5 := hid (below_row b4 b4.size (Nat.le_refl w.heap.size) (ex4 x (.slice ao x.args.length cap))); have T5 := hid (st_over st S2.out (ex4 x (.slice ao x.args.length cap))); clear g3 g4 h3 b4 c36 st)
    | (refine wpList_store_row rfl 25 _ _ rfl w.heap.size (ex4 x (.slice ao x.args.length cap)) rfl rfl 25 _ X3 info25 rfl (by simp [Value.oneCell', ex4]) ?_)
    | (refine wpList_load_row rfl 25 _ rfl w.heap.size rfl 25 (ex4 x (.slice ao x.args.length cap)) (0, 0) _ X5 Tryd.underlying25 rfl info25 ?_)
    | (go_at_call 11; refine (cc _ _ B5.out T5.out.st).mono ?_; rintro e w6 ⟨rfl, b6⟩; have X6 := (b6.block _ (Array.getElem?_eq_some_iff.1 X5).1).trans X5; have B6 := hid b6; clear b6 cc X5)
    | (refine wpList_store_row rfl 25 _ _ rfl w.heap.size c25 rfl rfl 25 _ X6 info25 rfl (by simp [Value.oneCell']) ?_))
  refine bodyPost_ret (results_row_tmp2 rfl _ _ w.heap.size c25 rfl (run_loadVar_row _ _ 25 25 c25 (0, 0) _ (setRow_heap _ _ _ _ _ _ X6) Tryd.underlying25 rfl info25)) rfl ⟨below_row (bstep B5.out B6.out) (bstep B5.out B6.out).size (Nat.le_refl _) _, .inr ⟨hchk, rfl⟩⟩
end Go.Proofs.YtkieljleopbhoaaDoor.Lex
namespace Go.Proofs.YtkieljleopbhoaaDoor.Lex
open Go.ChangeShapes Go.WideShapes Go.ChangeAt Go.RowKit Go.Joins
theorem Res.go_bad {r : Res} {f : Ex → Nat → Res} {e : Nat × Nat} (h : r.go f = .error e) : r = .error e ∨ ∃ x q, r = .ok (x, q) ∧ f x q = .error e := by
  unfold Res.go at h
  split at h
  · exact .inr ⟨_, _, rfl, h⟩
  · cases h; exact .inl rfl
theorem passR_bad {ts : List Mark} {kind : Nat} {text : ByteArray} {p : Nat} {f : Nat → Res} {e : Nat × Nat} (h : passR ts kind text p f = .error e) : e.1 = 5 ∨ f (p + 1) = .error e := by
  unfold passR at h
  split at h
  · exact .inr h
  · cases h; exact .inl rfl
theorem numE_bad {s : ByteArray} (h : ¬ numE s = 0) : (numE s).toNat ≠ 0 := by
  have := numE_nat s
  omega
theorem atomR_bad {ts : List Mark} {part : Nat → Nat → Res} {p n q : Nat} (hp : p < ts.length → ∀ a q n q', p < q → part a q = .error (n, q') → n ≠ 0) (h : atomR ts part p = .error (n, q)) : n ≠ 0 := by
  unfold atomR at h
  simp only at h
  split at h
  · cases h
  split at h
  · cases h
  split at h
  · rename_i hm
    rcases Res.go_bad h with h | ⟨x, q1, _, h⟩
    · exact hp (isMk_lt (by omega) hm) _ _ _ _ (by omega) h
    · rcases passR_bad h with h | h
      · simp only at h; omega
      · cases h
  iterate 3
    split at h
    · rename_i hm
      rcases Res.go_bad h with h | ⟨x, q1, _, h⟩
      · exact hp (isMk_lt (by omega) hm) _ _ _ _ (by omega) h
      · cases h
  split at h
  · split at h
    · cases h
    · cases h; omega
  split at h
  · split at h
    · cases h
    · rename_i hn
      cases h
      exact numE_bad hn
  · cases h; omega
theorem choiceR_bad {ts : List Mark} {part : Nat → Nat → Res} {p n q : Nat} (hf : ∀ a q x q', part a q = .ok (x, q') → q < q') (hp : ∀ a q n q', p < q → part a q = .error (n, q') → n ≠ 0) (h : choiceR ts part p = .error (n, q)) : n ≠ 0 := by
  unfold choiceR at h
  rcases Res.go_bad h with h | ⟨x, q1, e1, h⟩
  · exact hp _ _ _ _ (by omega) h
  rcases passR_bad h with h | h
  · simp only at h; omega
  have := hf _ _ _ _ e1
  rcases Res.go_bad h with h | ⟨y, q2, e2, h⟩
  · exact hp _ _ _ _ (by omega) h
  rcases passR_bad h with h | h
  · simp only at h; omega
  have := hf _ _ _ _ e2
  rcases Res.go_bad h with h | ⟨z, q3, e3, h⟩
  · exact hp _ _ _ _ (by omega) h
  · cases h
theorem prs_bad (ts : List Mark) : ∀ k, (∀ a p n q, 2 * (ts.length - p) + 2 ≤ k → prs ts k a none p = .error (n, q) → n ≠ 0) ∧ ∀ a y p n q, 2 * (ts.length - p) + 1 ≤ k → prs ts k a (some y) p = .error (n, q) → n ≠ 0
  | 0 => ⟨fun a p n q h => by omega, fun a y p n q h => by omega⟩
  | k + 1 => by
    obtain ⟨i1, i2⟩ := prs_bad ts k
    refine ⟨fun a p n q hk h => ?_, fun a y p n q hk h => ?_⟩
    · rw [prs] at h
      split at h
      · rename_i hm
        have hl := isMk_lt (by omega) hm.2
        exact choiceR_bad (part := fun a q => prs ts k a none q) (prs_far ts k).1 (fun a q n q' hq => i1 a q n q' (by omega)) h
      · rcases Res.go_bad h with h | ⟨x, q1, e1, h⟩
        · exact atomR_bad (part := fun a q => prs ts k a none q) (fun hl a q n q' hq => i1 a q n q' (by omega)) h
        · have := atomR_far (part := fun a q => prs ts k a none q) (prs_far ts k).1 e1
          exact i2 _ _ _ _ _ (by omega) h
    · obtain ⟨y, rank⟩ := y
      rw [prs] at h
      split at h
      · cases h
      · rename_i j hj
        have hl := jAt_lt hj
        split at h
        · cases h
        · rcases Res.go_bad h with h | ⟨x, q1, e1, h⟩
          · exact i1 _ _ _ _ (by omega) h
          · have := (prs_far ts k).1 _ _ _ _ e1
            exact i2 _ _ _ _ _ (by omega) h
theorem P_bad {ts : List Mark} {a p n q : Nat} (h : P ts a p = .error (n, q)) : n ≠ 0 := (prs_bad ts _).1 a p n q (Nat.le_refl _) h
/-- Parse, from a token on. -/
theorem parse {w : World} (v : Value) (ts : List Mark) (p : Nat) (hM : MarksAt w v ts) (hv : ∀ a n c, v = .slice (some a) n c → a.block < w.heap.size) (E : REnv w) (hT : TsOk ts) (hp : p ≤ ts.length) (hfew : ts.length ≤ 140737488355328) : Calls Tryd.prog 19 #[v, .int .i64 (p : Int)] w (PostP w p (P ts 0 p)) := by
  cases hP : P ts 0 p with
  | error nq =>
    obtain ⟨n, q⟩ := nq
    exact parse_bad v ts p hM hv E hT hp hfew n q hP (P_bad hP)
  | ok xq =>
    obtain ⟨x, q⟩ := xq
    cases hc : chk x with
    | true => exact parse_ok v ts p hM hv E hT hp hfew x q hP hc
    | false => exact parse_lim v ts p hM hv E hT hp hfew x q hP hc
end Go.Proofs.YtkieljleopbhoaaDoor.Lex
namespace Go.Proofs.YtkieljleopbhoaaDoor.Lex
open Go.RowKit
theorem dec_dig : ∀ (u : Nat), Lib.decDigits u = dig u := by
  refine dig_ind (fun k h => ?_) (fun k h ih => ?_)
  · rw [Lib.decDigits, dif_pos h, dig_small h]; rfl
  · rw [Lib.decDigits, dif_neg h, dig_big h, ih]; rfl
theorem itoa_dig {n : Int} (h : 0 ≤ n) : Lib.itoa n = dig n.toNat := by
  unfold Lib.itoa
  rw [if_neg (by omega), dec_dig]
theorem fields_more {op : Nat} {n : Int} {nm : ByteArray} {len : Nat} (h : fieldsOk op n nm len = true) : (op ≠ 3 → nm.size = 0) ∧ (op ≠ 1 → op ≠ 2 → n = 0) := by
  unfold fieldsOk at h
  split at h
  · simp only [Bool.and_eq_true, decide_eq_true_eq] at h; exact ⟨fun _ => h.2.1, fun e => by omega⟩
  · split at h
    · simp only [Bool.and_eq_true, decide_eq_true_eq] at h; exact ⟨fun _ => h.2.1, fun _ e => by omega⟩
    · split at h
      · simp only [Bool.and_eq_true, decide_eq_true_eq] at h; exact ⟨fun e => by omega, fun _ _ => h.1⟩
      · simp only [Bool.and_eq_true, decide_eq_true_eq] at h; exact ⟨fun _ => h.2.2.1, fun _ _ => h.2.1⟩
theorem size0 {s : ByteArray} (h : s.size = 0) : s = ByteArray.empty := by
  obtain ⟨⟨l⟩⟩ := s
  have : l = [] := List.eq_nil_of_length_eq_zero h
  subst this
  rfl
theorem name_res {nm : ByteArray} (h : isName nm = true) (k : Nat) (hk : k < 17) : isMk ⟨1, nm⟩ 1 (resS k) = false := by
  cases e : isMk ⟨1, nm⟩ 1 (resS k) with
  | false => rfl
  | true =>
    have h1 := (isMk_yes e).2
    have h2 := isRes_true (s := nm) k hk (by simp only [beq_iff_eq]; exact h1.symm)
    unfold isName at h
    simp [h2] at h
theorem atom_name {ts : List Mark} {p : Nat} {nm : ByteArray} (hm : markAt ts p = ⟨1, nm⟩) (hn : isName nm = true) : atomR ts (P ts) p = .ok (⟨3, 0, nm, []⟩, p + 1) := by
  have a0 : isMk ⟨1, nm⟩ 1 (sgn [116, 114, 117, 101]) = false := name_res hn 13 (by omega)
  have a1 : isMk ⟨1, nm⟩ 1 (sgn [102, 97, 108, 115, 101]) = false := name_res hn 14 (by omega)
  have a2 : isMk ⟨1, nm⟩ 1 (sgn [110, 111, 116]) = false := name_res hn 12 (by omega)
  have a3 : isMk ⟨1, nm⟩ 1 (sgn [112, 114, 101]) = false := name_res hn 9 (by omega)
  have b0 : isMk ⟨1, nm⟩ 3 (sgn [40]) = false := mk_no _ _ _ (by show (1 : Nat) ≠ 3; omega)
  have b1 : isMk ⟨1, nm⟩ 3 (sgn [45]) = false := mk_no _ _ _ (by show (1 : Nat) ≠ 3; omega)
  unfold atomR
  simp only
  rw [hm, a0, a1, a2, a3, b0, b1]
  simp [hn]
theorem atom_num {ts : List Mark} {p : Nat} {s : ByteArray} (hm : markAt ts p = ⟨2, s⟩) (hn : numE s = 0) : atomR ts (P ts) p = .ok (⟨1, numN s, ByteArray.empty, []⟩, p + 1) := by
  have a : ∀ k t, k ≠ 2 → isMk ⟨2, s⟩ k t = false := fun k t hk => mk_no _ _ _ (fun e => hk e.symm)
  unfold atomR
  simp only
  rw [hm, a _ _ (by omega), a _ _ (by omega), a _ _ (by omega), a _ _ (by omega), a _ _ (by omega), a _ _ (by omega)]
  simp [hn]
theorem atom_bool {ts : List Mark} {p : Nat} {b : Bool} (hm : markAt ts p = ⟨1, ⟨(yesNo b).toArray⟩⟩) : atomR ts (P ts) p = .ok (⟨2, if b then 1 else 0, ByteArray.empty, []⟩, p + 1) := by
  unfold atomR
  simp only
  rw [hm]
  cases b
  · rw [if_neg (by rw [isMk_eq]; decide), if_pos (by rw [isMk_eq]; decide)]; rfl
  · rw [if_pos (by rw [isMk_eq]; decide)]; rfl
theorem atom_one {ts : List Mark} {p q op : Nat} {x : Ex} (ho : op = 4 ∨ op = 5 ∨ op = 19) (hm : markAt ts p = oneMk op) (h1 : P ts 6 (p + 1) = .ok (x, q)) : atomR ts (P ts) p = .ok (⟨op, 0, ByteArray.empty, [x]⟩, q) := by
  unfold atomR
  simp only
  rw [hm]
  rcases ho with rfl | rfl | rfl
  · rw [if_neg (by rw [isMk_eq]; decide), if_neg (by rw [isMk_eq]; decide), if_neg (by rw [isMk_eq]; decide), if_pos (by rw [isMk_eq]; decide), h1, Res.go_ok]
  · rw [if_neg (by rw [isMk_eq]; decide), if_neg (by rw [isMk_eq]; decide), if_neg (by rw [isMk_eq]; decide), if_neg (by rw [isMk_eq]; decide), if_pos (by rw [isMk_eq]; decide), h1, Res.go_ok]
  · rw [if_neg (by rw [isMk_eq]; decide), if_neg (by rw [isMk_eq]; decide), if_neg (by rw [isMk_eq]; decide), if_neg (by rw [isMk_eq]; decide), if_neg (by rw [isMk_eq]; decide), if_pos (by rw [isMk_eq]; decide), h1, Res.go_ok]
theorem oneMk_no (op : Nat) : isMk (oneMk op) 1 (sgn [105, 102]) = false := by
  unfold oneMk
  rw [isMk_eq]
  split
  · decide
  · split <;> decide
theorem no_if {m : Mark} (h : isMk m 1 (sgn [105, 102]) = false) (a : Nat) : ¬ (a = 0 ∧ isMk m 1 (sgn [105, 102]) = true) := fun hc => by rw [h] at hc; exact absurd hc.2 (by decide)
theorem T_leaf {x y : Ex} {m : Mark} (hy : y = x) (hop : jOf x.op = none) (h17 : x.op ≠ 17) (htk : tk x = [m]) (hm : isMk m 1 (sgn [105, 102]) = false) (h : ∀ ts p, markAt ts p = m → atomR ts (P ts) p = .ok (y, p + 1)) : T x := by
  subst hy
  intro ts p a _ hA _
  rw [htk] at hA ⊢
  obtain ⟨h1, _, _⟩ := hA.cons
  rw [P_atom (no_if (by rw [h1]; exact hm) a), h ts p h1, Res.go_ok, if_neg h17]
  unfold rkL
  rw [hop]
  rfl
theorem T_one {x a : Ex} (ho : x.op = 4 ∨ x.op = 5 ∨ x.op = 19) (ha : x.args = [a]) (hx : x = ⟨x.op, 0, ByteArray.empty, [a]⟩) (h : T a) : T x := by
  intro ts p r _ hA hf
  rw [tk_one ha] at hA hf ⊢
  obtain ⟨h1, _, h3⟩ := hA.cons
  have hq : p + (oneMk x.op :: tkp 6 (rkOf a.op) (tk a)).length = p + 1 + (tkp 6 (rkOf a.op) (tk a)).length := by simp; omega
  rw [hq] at hf ⊢
  have h17 : x.op ≠ 17 := by omega
  have hj : jOf x.op = none := by rcases ho with e | e | e <;> rw [e] <;> rfl
  have hstop : ∀ y r, Lp ts 6 y r (p + 1 + (tkp 6 (rkOf a.op) (tk a)).length) = .ok (y, p + 1 + (tkp 6 (rkOf a.op) (tk a)).length) := fun y r => by
    cases e : jAt (markAt ts (p + 1 + (tkp 6 (rkOf a.op) (tk a)).length)) with
    | none => exact Lp_none e
    | some j => have := JT_laws j (jAt_mem e); exact Lp_stop e (.inl (by omega))
  have hpart : P ts 6 (p + 1) = .ok (a, p + 1 + (tkp 6 (rkOf a.op) (tk a)).length) := by
    rcases h.place (by omega) (Nat.le_refl 6) h3 (fun hl j hj => by have := JT_laws j (jAt_mem hj); omega) with ⟨r, _, e⟩ | ⟨e, _⟩
    · rw [e, hstop]
    · omega
  rw [P_atom (no_if (by rw [h1]; exact oneMk_no _) r), atom_one ho h1 hpart, Res.go_ok, if_neg h17, ← hx]
  unfold rkL
  rw [hj]
theorem passR_ok {ts : List Mark} {kind : Nat} {text : ByteArray} {p : Nat} {f : Nat → Res} (h : isMk (markAt ts p) kind text = true) : passR ts kind text p f = f (p + 1) := by unfold passR; rw [if_pos h]
theorem T_three {x a b c : Ex} (ho : x.op = 17) (ha : x.args = [a, b, c]) (hx : x = ⟨17, 0, ByteArray.empty, [a, b, c]⟩) (h1 : T a) (h2 : T b) (h3 : T c) : T x := by
  intro ts p r hr hA hf
  rw [ho, rk17] at hr hf
  obtain rfl : r = 0 := by omega
  rw [tk_three ha] at hA hf ⊢
  obtain ⟨e0, _, A1⟩ := hA.cons
  obtain ⟨Aa, A2⟩ := A1.app
  obtain ⟨e1, _, A3⟩ := A2.cons
  obtain ⟨Ab, A4⟩ := A3.app
  obtain ⟨e2, _, A5⟩ := A4.cons
  have hq : p + (⟨1, sgn [105, 102]⟩ :: (tk a ++ ⟨1, sgn [116, 104, 101, 110]⟩ :: (tk b ++ ⟨1, sgn [101, 108, 115, 101]⟩ :: tk c)) : List Mark).length = p + 1 + (tk a).length + 1 + (tk b).length + 1 + (tk c).length := by simp; omega
  rw [hq] at hf ⊢
  have pa := h1.all Aa (by rw [e1, jAt_eq]; decide)
  have pb := h2.all Ab (by rw [e2, jAt_eq]; decide)
  have pc := h3.all A5 (by
    cases e : jAt (markAt ts (p + 1 + (tk a).length + 1 + (tk b).length + 1 + (tk c).length)) with
    | none => rfl
    | some j => have := hf j e; have := JT_laws j (jAt_mem e); omega)
  rw [P_if (by rw [e0, isMk_eq]; decide), if_pos ho]
  unfold choiceR
  rw [pa, Res.go_ok, passR_ok (by rw [e1, isMk_eq]; decide), pb, Res.go_ok, passR_ok (by rw [e2, isMk_eq]; decide), pc, Res.go_ok, ← hx]
theorem T_two {x a b : Ex} {j : J} (hj : jOf x.op = some j) (ha : x.args = [a, b]) (hx : x = ⟨j.op, 0, ByteArray.empty, [a, b]⟩) (h1 : T a) (h2 : T b) : T x := by
  intro ts p r hr hA hf
  obtain ⟨l1, l2, l3, l4, l5, l6, l7, l8, l9⟩ := JT_laws j (jOf_mem hj).1
  have hrk : rkOf x.op = j.rank := by unfold rkOf; rw [hj]
  have hrl : rkL x.op = j.rank := by unfold rkL; rw [hj]
  have h17 : x.op ≠ 17 := by rw [← (jOf_mem hj).2]; exact l8
  rw [hrk] at hr hf
  rw [tk_two ha, hj, Option.getD_some] at hA hf ⊢
  obtain ⟨Aa, A1⟩ := hA.app
  obtain ⟨e1, _, Ab⟩ := A1.cons
  have hq : p + (tkp j.first (rkOf a.op) (tk a) ++ jMk j :: tkp j.second (rkOf b.op) (tk b)).length = p + (tkp j.first (rkOf a.op) (tk a)).length + 1 + (tkp j.second (rkOf b.op) (tk b)).length := by simp; omega
  rw [hq] at hf ⊢
  rw [if_neg h17, hrl]
  have hpb : P ts j.second (p + (tkp j.first (rkOf a.op) (tk a)).length + 1) = .ok (b, p + (tkp j.first (rkOf a.op) (tk a)).length + 1 + (tkp j.second (rkOf b.op) (tk b)).length) := by
    rcases h2.place (by omega) (Nat.le_refl _) Ab (fun hl j' hj' => by have := hf j' hj'; have := JT_laws j' (jAt_mem hj'); omega) with ⟨r', _, e⟩ | ⟨_, e⟩
    · rw [e]
      cases e' : jAt (markAt ts (p + (tkp j.first (rkOf a.op) (tk a)).length + 1 + (tkp j.second (rkOf b.op) (tk b)).length)) with
      | none => exact Lp_none e'
      | some j' => have := hf j' e'; have := JT_laws j' (jAt_mem e'); exact Lp_stop e' (.inl (by omega))
    · exact e
  rcases h1.place (by omega) (show r ≤ j.first by omega) Aa (fun hl j' hj' => by rw [e1, l7] at hj'; cases hj'; exact hl) with ⟨r', hr', e⟩ | ⟨e, _⟩
  · rw [e, Lp_go (by rw [e1]; exact l7) hr hr', hpb, Res.go_ok, ← hx]
  · omega
theorem T_any : ∀ (d M : Nat) (x : Ex) (k : Nat) (w : World) (s : Value), sz d M x = some k → St w x s → T x
  | 0, M, x, k, w, s, h, _ => by simp [sz] at h
  | d + 1, M, x, k, w, s, h, hS => by
    obtain ⟨hM, hf, hl⟩ := sz_parts h
    obtain ⟨_, _, _, _, _, hn, _⟩ := hS.out
    obtain ⟨f1, f2⟩ := fields_more hf
    rcases fields_cases hf with ⟨h1, h2, h3⟩ | ⟨h1, h2, h3⟩ | ⟨h1, h2, h3⟩ | ⟨h1, h3⟩ | ⟨h1, h3⟩ | ⟨⟨r, hr⟩, h3⟩
    · have e := len0 h3
      have hd := num_dig ⟨(Lib.itoa x.n).toArray⟩ x.n.toNat (by omega) (by simp only; exact itoa_dig h2)
      refine T_leaf (y := ⟨1, numN ⟨(Lib.itoa x.n).toArray⟩, ByteArray.empty, []⟩) ?_ (by rw [h1]; rfl) (by omega) (by rw [tk_leaf e, if_pos h1]) (mk_no _ _ _ (by show (2 : Nat) ≠ 1; omega)) fun ts p hm => atom_num hm hd.2
      obtain ⟨o, n, nm, l⟩ := x
      simp only at h1 e f1 h2 hd ⊢
      subst h1 e
      rw [hd.1, size0 (f1 (by omega)), Int.toNat_of_nonneg h2]
    · have e := len0 h3
      refine T_leaf (y := ⟨2, if (x.n == 1) then 1 else 0, ByteArray.empty, []⟩) ?_ (by rw [h1]; rfl) (by omega) (by rw [tk_leaf e, if_neg (by omega), if_pos h1]) (by rw [isMk_eq]; cases (x.n == 1) <;> decide) fun ts p hm => atom_bool hm
      obtain ⟨o, n, nm, l⟩ := x
      simp only at h1 e f1 h2 ⊢
      subst h1 e
      rw [size0 (f1 (by omega))]
      rcases h2 with rfl | rfl <;> rfl
    · have e := len0 h3
      refine T_leaf (y := ⟨3, 0, x.name, []⟩) ?_ (by rw [h1]; rfl) (by omega) (by rw [tk_leaf e, if_neg (by omega), if_neg (by omega)]) (name_res h2 6 (by omega)) fun ts p hm => atom_name hm h2
      obtain ⟨o, n, nm, l⟩ := x
      simp only at h1 e f2 ⊢
      subst h1 e
      rw [f2 (by omega) (by omega)]
    · obtain ⟨a, e⟩ := len1 h3
      rw [e] at hl
      obtain ⟨ka, hka, _⟩ := szL_cons hl
      obtain ⟨t, ht⟩ := hS.arg0 e
      refine T_one h1 e ?_ (T_any d _ a ka w t hka ht)
      obtain ⟨o, n, nm, l⟩ := x
      simp only at h1 e f1 f2 ⊢
      subst e
      rw [f2 (by omega) (by omega), size0 (f1 (by omega))]
    · obtain ⟨a, b, c, e⟩ := len3 h3
      rw [e] at hl
      obtain ⟨ka, hka, hl⟩ := szL_cons hl
      obtain ⟨kb, hkb, hl⟩ := szL_cons hl
      obtain ⟨kc, hkc, _⟩ := szL_cons hl
      obtain ⟨ta, hta⟩ := hS.arg0 e
      obtain ⟨tb, htb⟩ := hS.arg1 e
      obtain ⟨tc, htc⟩ := hS.arg2 e
      refine T_three h1 e ?_ (T_any d _ a ka w ta hka hta) (T_any d _ b kb w tb hkb htb) (T_any d _ c kc w tc hkc htc)
      obtain ⟨o, n, nm, l⟩ := x
      simp only at h1 e f1 f2 ⊢
      subst e h1
      rw [f2 (by omega) (by omega), size0 (f1 (by omega))]
    · obtain ⟨a, b, e⟩ := len2 h3
      rw [e] at hl
      obtain ⟨ka, hka, hl⟩ := szL_cons hl
      obtain ⟨kb, hkb, _⟩ := szL_cons hl
      obtain ⟨ta, hta⟩ := hS.arg0 e
      obtain ⟨tb, htb⟩ := hS.arg1 e
      have hro := jOf_range hr
      refine T_two hr e ?_ (T_any d _ a ka w ta hka hta) (T_any d _ b kb w tb hkb htb)
      rw [(jOf_mem hr).2]
      obtain ⟨o, n, nm, l⟩ := x
      simp only at e f1 f2 hro ⊢
      subst e
      rw [f2 (by omega) (by omega), size0 (f1 (by omega))]
end Go.Proofs.YtkieljleopbhoaaDoor.Lex
