/-
  What stands in a place that asks for a rank: the contract of part.
-/
import Derived.Test.YtkieljleopbhoaaDoorTwo
import Derived.Test.YtkieljleopbhoaaDoorTk
import Derived.ScopeJumps
namespace Go.Proofs.YtkieljleopbhoaaDoor.Lex
open Go.ChangeShapes Go.WideShapes Go.ChangeAt Go.RowKit Go.Joins Go.WideMaps Go.WideElems Go.Maps
abbrev c25 : Array Value := #[.int .u8 0, .int .i64 0, .string ⟨#[]⟩, .slice none 0 0]
/-- Where part goes on: what has been read, its rank, and the place. -/
structure PJ (r mp : Nat) (v : Value) (ts : List Mark) (a p : Nat) (w : World) (x : Ex) (s : Value) (rk q b5 : Nat) (W : World) : Prop where
  grown : w.grownBy W (some r)
  rdr : Rdr r mp v ts q W
  box : W.heap[w.heap.size]? = some (.cells c25 25 (0, 0))
  keep : Keep2 w.heap.size W b5 x s
  res : Lp ts a x rk q = P ts a p
  lt : p < q
  rk7 : rk ≤ 7
/-- The whole frame there. -/
def PF (r a B b5 rk : Nat) (act : Act) : Prop := ∃ (u7 u8 u9 u10 u11 u12 u13 u14 u15 u16 u17 u18 u19 u20 u21 u22 u23 u24 u25 u26 u27 u28 u29 u30 u31 u32 u33 u34 u35 u36 u37 u38 u39 u40 u41 u42 u43 u44 u45 u46 u47 u48 u49 u50 u51 u52 u53 u54 u55 u56 u57 u58 u59 : Value), act = { tmps := #[.pointer (some ⟨r, 0, none⟩), .int .i64 (a : Int), undef, undef, .pointer (some ⟨B, 0, none⟩), .pointer (some ⟨b5, 0, none⟩), .int .i64 (rk : Int), u7, u8, u9, u10, u11, u12, u13, u14, u15, u16, u17, u18, u19, u20, u21, u22, u23, u24, u25, u26, u27, u28, u29, u30, u31, u32, u33, u34, u35, u36, u37, u38, u39, u40, u41, u42, u43, u44, u45, u46, u47, u48, u49, u50, u51, u52, u53, u54, u55, u56, u57, u58, u59], defers := [] }
def PA (r mp : Nat) (v : Value) (ts : List Mark) (a p : Nat) (w : World) (act : Act) (W : World) : Prop := ∃ x s rk q b5, PF r a w.heap.size b5 rk act ∧ PJ r mp v ts a p w x s rk q b5 W
theorem e105 : (sgn [105, 102]).toList = [105, 102] := by rw [ByteArray.toList_eq]
theorem prsP_far (ts : List Mark) : ∀ a q x q', P ts a q = .ok (x, q') → q < q' := fun a q x q' h => (prs_far ts _).1 a q x q' h
theorem skip_seq {c : Code} {Q : Exit → Act → World → Prop} {a : Act} {w : World} (h : Code.wp Tryd.prog c Q a w) : Code.wp Tryd.prog (Code.skip.seq c) Q a w := wp_seq (wp_skip h)
set_option maxRecDepth 100000 in
set_option maxHeartbeats 4000000 in
theorem part_at (r mp : Nat) (v : Value) (ts : List Mark) (a p : Nat) (ha : a ≤ 7) (w : World) (h : Rdr r mp v ts p w) (E : PEnv r mp w) (hT : TsOk ts) (hif : ¬ (a = 0 ∧ isMk (markAt ts p) 1 (sgn [105, 102]) = true))
    (ih : ∀ (q b : Nat) W, p < q → b ≤ 7 → w.grownBy W (some r) → Rdr r mp v ts q W → Calls Tryd.prog 65 #[.pointer (some ⟨r, 0, none⟩), .int .i64 (b : Int)] W (Post r mp v ts W (P ts b q))) :
    Calls Tryd.prog 65 #[.pointer (some ⟨r, 0, none⟩), .int .i64 (a : Int)] w (Post r mp v ts w (P ts a p)) := by
  go_enter Tryd.func65, Tryd.ntmps65
  go_wp2
  refine (fun (pass : ∀ act W, PA r mp v ts a p w act W → Code.wp Tryd.prog _ (Exit.jump 0 (fun a' w' => PA r mp v ts a p w a' w' ∧ ts.length - (atR w' r).toNat < ts.length - (atR W r).toNat) _) act W) => wp_scope_jumps 0 (PA r mp v ts a p w) (fun _ W => ts.length - (atR W r).toNat) rfl ?_ (fun act W hJ => skip_seq (pass act W hJ))) ?_
  · have PASS := hid pass
    clear pass
    have b0 := (Below.refl w.heap.size w).alloc (Nat.le_refl _) (.cells c25 25)
    have c0 := peek r mp v ts p _ (h.step b0)
    have ca : ∀ W, Below w.heap.size w W → Calls Tryd.prog 84 #[.pointer (some ⟨r, 0, none⟩)] W (Post r mp v ts W (atomR ts (P ts) p)) := fun W hW => atom_at (h.step hW) (E.below hW) hT (fun b hb W' g hr => ih (p + 1) b W' (by omega) (by omega) (grown_on (grown_below hW _) g) hr)
    have HP := hid (P_atom hif)
    have FAR := hid (fun x q => atomR_far (ts := ts) (part := P ts) (prsP_far ts) (p := p) (q := q) (x := x))
    have B0 := hid b0
    have H := hid h
    have X0 := hid (heap_alloc_new w (.cells c25 25))
    clear b0 ih E hT h
    generalize hR : atomR ts (P ts) p = R at *
    by_cases a0 : a = 0
    · have hm : isMk (markAt ts p) 1 (sgn [105, 102]) = false := by
        cases e : isMk (markAt ts p) 1 (sgn [105, 102]) with
        | false => rfl
        | true => exact (hif ⟨a0, e⟩).elim
      subst a0
      clear hif ha
      generalize markAt ts p = m at *
      cases R with
      | error nq =>
        obtain ⟨n, q⟩ := nq
        rcases isMk_no hm with h1 | ⟨h1, h2⟩ <;> clear hm
        · go_wp2_with (first
            | (go_at_call 80; refine c0.mono ?_; rintro e w2 ⟨rfl, b2⟩; have B2' := hid b2; have B2 := hid (bstep B0.out b2); clear b2 c0)
            | (go_at_call 84; refine (ca _ B2.out).mono ?_; rintro e w3 ⟨g3, rfl, h3⟩; have G3 := hid (grown_on (grown_below B2.out _) g3); have H3 := hid h3; clear g3 h3 ca))
          exact ⟨rfl, by rw [HP.out]; exact ⟨G3.out, rfl, H3.out⟩⟩
        · rw [e105] at h2
          go_wp2_with (first
            | (go_at_call 80; refine c0.mono ?_; rintro e w2 ⟨rfl, b2⟩; have B2' := hid b2; have B2 := hid (bstep B0.out b2); clear b2 c0)
            | (go_at_call 84; refine (ca _ B2.out).mono ?_; rintro e w3 ⟨g3, rfl, h3⟩; have G3 := hid (grown_on (grown_below B2.out _) g3); have H3 := hid h3; clear g3 h3 ca))
          exact ⟨rfl, by rw [HP.out]; exact ⟨G3.out, rfl, H3.out⟩⟩
      | ok xq =>
        obtain ⟨x, q⟩ := xq
        rcases isMk_no hm with h1 | ⟨h1, h2⟩ <;> clear hm
        · go_wp2_with (first
            | (go_at_call 80; refine c0.mono ?_; rintro e w2 ⟨rfl, b2⟩; have B2' := hid b2; have B2 := hid (bstep B0.out b2); clear b2 c0)
            | (go_at_call 84; refine (ca _ B2.out).mono ?_; rintro e w3 ⟨g3, s, rfl, st, h3⟩; obtain ⟨ao, cap, rfl⟩ := st.form; have Z3 := hid (B2.out.size); have SZ := hid (show w.heap.size < w2.heap.size from by have := B2'.out.size; simp at this; omega); have ST := hid (Keep2.new st SZ.out g3.size); have b4 := (Below.refl w3.heap.size w3).alloc (Nat.le_refl _) (.cells (ex4 x (.slice ao x.args.length cap)) 25); have G3 := hid (grown_on (grown_on (grown_below B2.out _) g3) (grown_below b4 _)); have X3 := hid (kept (kept ((B2'.out.block _ (by simp)).trans X0.out) g3 H.out.lt) (grown_below b4 (some r)) H.out.lt); have H3 := hid (h3.step b4); clear g3 h3 ca st b4))
          go_step3
          rename_i K hK
          refine hK _ _ ?_
          clear hK K
          refine Code.wp_mono (fun e _ _ h => ?_) (PASS.out _ _ ⟨x, _, 7, q, w3.heap.size, ⟨_, _, _, _, _, _, _, _, _, _, _, _, _, _, _, _, _, _, _, _, _, _, _, _, _, _, _, _, _, _, _, _, _, _, _, _, _, _, _, _, _, _, _, _, _, _, _, _, _, _, _, _, _, rfl⟩, ⟨G3.out, H3.out, X3.out, ST.out, HP.out.symm, FAR.out x q rfl, by omega⟩⟩)
          · cases e <;> first | exact h | exact ⟨h.1, h.2.1⟩
        · rw [e105] at h2
          go_wp2_with (first
            | (go_at_call 80; refine c0.mono ?_; rintro e w2 ⟨rfl, b2⟩; have B2' := hid b2; have B2 := hid (bstep B0.out b2); clear b2 c0)
            | (go_at_call 84; refine (ca _ B2.out).mono ?_; rintro e w3 ⟨g3, s, rfl, st, h3⟩; obtain ⟨ao, cap, rfl⟩ := st.form; have Z3 := hid (B2.out.size); have SZ := hid (show w.heap.size < w2.heap.size from by have := B2'.out.size; simp at this; omega); have ST := hid (Keep2.new st SZ.out g3.size); have b4 := (Below.refl w3.heap.size w3).alloc (Nat.le_refl _) (.cells (ex4 x (.slice ao x.args.length cap)) 25); have G3 := hid (grown_on (grown_on (grown_below B2.out _) g3) (grown_below b4 _)); have X3 := hid (kept (kept ((B2'.out.block _ (by simp)).trans X0.out) g3 H.out.lt) (grown_below b4 (some r)) H.out.lt); have H3 := hid (h3.step b4); clear g3 h3 ca st b4))
          go_step3
          rename_i K hK
          refine hK _ _ ?_
          clear hK K
          refine Code.wp_mono (fun e _ _ h => ?_) (PASS.out _ _ ⟨x, _, 7, q, w3.heap.size, ⟨_, _, _, _, _, _, _, _, _, _, _, _, _, _, _, _, _, _, _, _, _, _, _, _, _, _, _, _, _, _, _, _, _, _, _, _, _, _, _, _, _, _, _, _, _, _, _, _, _, _, _, _, _, rfl⟩, ⟨G3.out, H3.out, X3.out, ST.out, HP.out.symm, FAR.out x q rfl, by omega⟩⟩)
          · cases e <;> first | exact h | exact ⟨h.1, h.2.1⟩
    · have ha0 : ((a : Int) == 0) = false := by simp; omega
      clear hif c0
      cases R with
      | error nq =>
        obtain ⟨n, q⟩ := nq
        go_wp2_with (first
          | (go_at_call 84; refine (ca _ B0.out).mono ?_; rintro e w3 ⟨g3, rfl, h3⟩; have G3 := hid (grown_on (grown_below B0.out _) g3); have H3 := hid h3; clear g3 h3 ca))
        exact ⟨rfl, by rw [HP.out]; exact ⟨G3.out, rfl, H3.out⟩⟩
      | ok xq =>
        obtain ⟨x, q⟩ := xq
        go_wp2_with (first
          | (go_at_call 84; refine (ca _ B0.out).mono ?_; rintro e w3 ⟨g3, s, rfl, st, h3⟩; obtain ⟨ao, cap, rfl⟩ := st.form; have Z3 := hid (B0.out.size); have SZ := hid (show w.heap.size < (w.alloc (.cells c25 25)).heap.size from by simp); have ST := hid (Keep2.new st SZ.out g3.size); have b4 := (Below.refl w3.heap.size w3).alloc (Nat.le_refl _) (.cells (ex4 x (.slice ao x.args.length cap)) 25); have G3 := hid (grown_on (grown_on (grown_below B0.out _) g3) (grown_below b4 _)); have X3 := hid (kept (kept X0.out g3 H.out.lt) (grown_below b4 (some r)) H.out.lt); have H3 := hid (h3.step b4); clear g3 h3 ca st b4))
        go_step3
        rename_i K hK
        refine hK _ _ ?_
        clear hK K
        refine Code.wp_mono (fun e _ _ h => ?_) (PASS.out _ _ ⟨x, _, 7, q, w3.heap.size, ⟨_, _, _, _, _, _, _, _, _, _, _, _, _, _, _, _, _, _, _, _, _, _, _, _, _, _, _, _, _, _, _, _, _, _, _, _, _, _, _, _, _, _, _, _, _, _, _, _, _, _, _, _, _, rfl⟩, ⟨G3.out, H3.out, X3.out, ST.out, HP.out.symm, FAR.out x q rfl, by omega⟩⟩)
        · cases e <;> first | exact h | exact ⟨h.1, h.2.1⟩
  · rintro act W ⟨x, s, rk, q, b5, ⟨u7, u8, u9, u10, u11, u12, u13, u14, u15, u16, u17, u18, u19, u20, u21, u22, u23, u24, u25, u26, u27, u28, u29, u30, u31, u32, u33, u34, u35, u36, u37, u38, u39, u40, u41, u42, u43, u44, u45, u46, u47, u48, u49, u50, u51, u52, u53, u54, u55, u56, u57, u58, u59, rfl⟩, J⟩
    obtain ⟨ao, cap, rfl⟩ := J.keep.st.form
    have cpk := peek r mp v ts q W J.rdr
    have cj := fun W' (hW : Below W.heap.size W W') => joinAt (markAt ts q) W' ((E.grown J.grown).tabJ.below hW)
    have GR := hid J.grown
    have RD := hid J.rdr
    have KP := hid J.keep
    have XB := hid J.box
    have LT := hid J.lt
    have R7 := hid J.rk7
    have H := hid h
    have E0 := hid E
    cases hj : jAt (markAt ts q) with
    | none =>
      have RES : Hid (P ts a p = .ok (x, q)) := by rw [← J.res, Lp_none hj]; exact hid rfl
      have ej : jAtOut (markAt ts q) = jrow j0 := by unfold jAtOut; rw [hj]; rfl
      simp only [ej, hj, Option.isSome_none] at cj
      clear J h E hj ej ih hT hif
      generalize markAt ts q = m at *
      generalize j0 = j at *
      unfold jrow at cj
      go_wp2_with (first
        | (go_at_call 80; refine cpk.mono ?_; rintro e w2 ⟨rfl, b2⟩; have B2 := hid b2; clear b2 cpk)
        | (go_at_call 85; refine (cj _ B2.out).mono ?_; rintro e w3 ⟨rfl, b3⟩; have b4 := bstep (bstep B2.out b3) ((Below.refl w3.heap.size w3).alloc (Nat.le_refl _) (.cells (jrow j) 83)); have B4 := hid b4; have X5 := (b4.block _ (Array.getElem?_eq_some_iff.1 KP.out.row).1).trans KP.out.row; have X4 := (b4.block _ (Array.getElem?_eq_some_iff.1 XB.out).1).trans XB.out; clear b3 b4 cj)
        | (refine wpList_load_row rfl 25 _ rfl b5 rfl 25 (ex4 x (.slice ao x.args.length cap)) (0, 0) _ X5 Tryd.underlying25 rfl info25 ?_)
        | (refine wpList_store_row rfl 25 _ _ rfl w.heap.size (ex4 x (.slice ao x.args.length cap)) rfl rfl 25 _ X4 info25 rfl (by simp [Value.oneCell', ex4]) ?_))
      refine bodyPost_ret (results_cell_row rfl _ _ w.heap.size 25 (ex4 x (.slice ao x.args.length cap)) (0, 0) _ rfl (setRow_heap _ _ _ _ _ _ X4) Tryd.underlying25 rfl info25) rfl ?_
      rw [RES.out]
      refine ⟨grown_setRow (grown_on GR.out (grown_below B4.out _)) _, _, rfl, ?_, H.out.setRow (RD.out.step B4.out) _⟩
      exact StP.carryN (fun b hb hl => (setRow_other _ _ _ _ (by have : w.heap.size < b := hb.1; omega)).trans (B4.out.block b hl)) (fun b _ hb => Nat.le_of_lt hb.1) _ x _ (Nat.le_refl _) KP.out.st
    | some j =>
      have ej : jAtOut (markAt ts q) = jrow j := by unfold jAtOut; rw [hj]; rfl
      simp only [ej] at cj
      rw [hj] at cj
      simp only [Option.isSome_some] at cj
      by_cases c1 : j.rank < a
      · have RES : Hid (P ts a p = .ok (x, q)) := by rw [← J.res, Lp_stop hj (.inl c1)]; exact hid rfl
        have hc1 : (j.rank : Int) < (a : Int) := by omega
        clear J h E hj ej ih hT hif
        generalize markAt ts q = m at *
        unfold jrow at cj
        go_wp2_with (first
          | (go_at_call 80; refine cpk.mono ?_; rintro e w2 ⟨rfl, b2⟩; have B2 := hid b2; clear b2 cpk)
          | (go_at_call 85; refine (cj _ B2.out).mono ?_; rintro e w3 ⟨rfl, b3⟩; have b4 := bstep (bstep B2.out b3) ((Below.refl w3.heap.size w3).alloc (Nat.le_refl _) (.cells (jrow j) 83)); have B4 := hid b4; have X5 := (b4.block _ (Array.getElem?_eq_some_iff.1 KP.out.row).1).trans KP.out.row; have X4 := (b4.block _ (Array.getElem?_eq_some_iff.1 XB.out).1).trans XB.out; clear b3 b4 cj)
          | (refine wpList_load_row rfl 25 _ rfl b5 rfl 25 (ex4 x (.slice ao x.args.length cap)) (0, 0) _ X5 Tryd.underlying25 rfl info25 ?_)
          | (refine wpList_store_row rfl 25 _ _ rfl w.heap.size (ex4 x (.slice ao x.args.length cap)) rfl rfl 25 _ X4 info25 rfl (by simp [Value.oneCell', ex4]) ?_))
        refine bodyPost_ret (results_cell_row rfl _ _ w.heap.size 25 (ex4 x (.slice ao x.args.length cap)) (0, 0) _ rfl (setRow_heap _ _ _ _ _ _ X4) Tryd.underlying25 rfl info25) rfl ?_
        rw [RES.out]
        refine ⟨grown_setRow (grown_on GR.out (grown_below B4.out _)) _, _, rfl, ?_, H.out.setRow (RD.out.step B4.out) _⟩
        exact StP.carryN (fun b hb hl => (setRow_other _ _ _ _ (by have : w.heap.size < b := hb.1; omega)).trans (B4.out.block b hl)) (fun b _ hb => Nat.le_of_lt hb.1) _ x _ (Nat.le_refl _) KP.out.st
      · by_cases c2 : rk < j.first
        · have RES : Hid (P ts a p = .ok (x, q)) := by rw [← J.res, Lp_stop hj (.inr c2)]; exact hid rfl
          have hc1 : ¬ (j.rank : Int) < (a : Int) := by omega
          have hc2 : (rk : Int) < (j.first : Int) := by omega
          clear J h E hj ej ih hT hif
          generalize markAt ts q = m at *
          unfold jrow at cj
          go_wp2_with (first
            | (go_at_call 80; refine cpk.mono ?_; rintro e w2 ⟨rfl, b2⟩; have B2 := hid b2; clear b2 cpk)
            | (go_at_call 85; refine (cj _ B2.out).mono ?_; rintro e w3 ⟨rfl, b3⟩; have b4 := bstep (bstep B2.out b3) ((Below.refl w3.heap.size w3).alloc (Nat.le_refl _) (.cells (jrow j) 83)); have B4 := hid b4; have X5 := (b4.block _ (Array.getElem?_eq_some_iff.1 KP.out.row).1).trans KP.out.row; have X4 := (b4.block _ (Array.getElem?_eq_some_iff.1 XB.out).1).trans XB.out; clear b3 b4 cj)
            | (refine wpList_load_row rfl 25 _ rfl b5 rfl 25 (ex4 x (.slice ao x.args.length cap)) (0, 0) _ X5 Tryd.underlying25 rfl info25 ?_)
            | (refine wpList_store_row rfl 25 _ _ rfl w.heap.size (ex4 x (.slice ao x.args.length cap)) rfl rfl 25 _ X4 info25 rfl (by simp [Value.oneCell', ex4]) ?_))
          refine bodyPost_ret (results_cell_row rfl _ _ w.heap.size 25 (ex4 x (.slice ao x.args.length cap)) (0, 0) _ rfl (setRow_heap _ _ _ _ _ _ X4) Tryd.underlying25 rfl info25) rfl ?_
          rw [RES.out]
          refine ⟨grown_setRow (grown_on GR.out (grown_below B4.out _)) _, _, rfl, ?_, H.out.setRow (RD.out.step B4.out) _⟩
          exact StP.carryN (fun b hb hl => (setRow_other _ _ _ _ (by have : w.heap.size < b := hb.1; omega)).trans (B4.out.block b hl)) (fun b _ hb => Nat.le_of_lt hb.1) _ x _ (Nat.le_refl _) KP.out.st
        · have hq := jAt_lt hj
          have hlaw := JT_laws j (jAt_mem hj)
          have hc1 : decide (j.rank < a) = false := by simp; omega
          have hc2 : decide (rk < j.first) = false := by simp; omega
          have RES0 := hid (J.res.symm.trans (Lp_go (x := x) hj (Nat.le_of_not_lt c1) (Nat.le_of_not_lt c2)))
          have cq := fun V (g : w.grownBy V (some r)) (hr : Rdr r mp v ts (q + 1) V) => ih (q + 1) j.second V (by have := J.lt; omega) (by omega) g hr
          have MV := hid (fun V (b : Below W.heap.size W V) => moved (J.rdr.step b) hq)
          have HQ := hid hq
          have JL := hid hlaw
          have hfew : (q : Int) < 140737488355328 := by have := J.rdr.few; omega
          clear J h E hj ej ih hT hif hq hlaw c1 c2
          generalize markAt ts q = m at *
          unfold jrow at cj
          go_wp2_with (first
            | (go_at_call 80; refine cpk.mono ?_; rintro e w2 ⟨rfl, b2⟩; have B2 := hid b2; clear b2 cpk)
            | (go_at_call 85; refine (cj _ B2.out).mono ?_; rintro e w3 ⟨rfl, b3⟩; have b4 := bstep (bstep B2.out b3) ((Below.refl w3.heap.size w3).alloc (Nat.le_refl _) (.cells #[.int .u8 (j.op : Int), .int .u8 (j.kind : Int), .string j.text, .int .i64 (j.rank : Int), .int .i64 (j.first : Int), .int .i64 (j.second : Int)] 83)); have S3 := hid ((bstep B2.out b3).size); obtain ⟨y0, y1, hg, hr⟩ := MV.out _ b4; have G5 := hid (grown_on GR.out (grown_on (grown_below b4 _) hg)); have G45 := hid (grown_on (grown_below b4 _) hg); have R5 := hid hr; have X7 := hid (kept (heap_alloc_new w3 (.cells #[.int .u8 (j.op : Int), .int .u8 (j.kind : Int), .string j.text, .int .i64 (j.rank : Int), .int .i64 (j.first : Int), .int .i64 (j.second : Int)] 83)) hg (Nat.lt_of_lt_of_le H.out.lt (Nat.le_trans GR.out.size (bstep B2.out b3).size))); clear b3 b4 cj hg hr MV))
          rename_i K8 hK8
          have D5 := below_drewN (Below.refl ((w3.alloc (.cells #[.int .u8 (j.op : Int), .int .u8 (j.kind : Int), .string j.text, .int .i64 (j.rank : Int), .int .i64 (j.first : Int), .int .i64 (j.second : Int)] 83)).setCell ⟨r, 1, none⟩ (.int .i64 ((q : Int) + 1))).heap.size ((w3.alloc (.cells #[.int .u8 (j.op : Int), .int .u8 (j.kind : Int), .string j.text, .int .i64 (j.rank : Int), .int .i64 (j.first : Int), .int .i64 (j.second : Int)] 83)).setCell ⟨r, 1, none⟩ (.int .i64 ((q : Int) + 1)))) 1
          have K5 := hid ((KP.out.grown G45.out H.out.lt).grown (grown_below D5 (some r)) H.out.lt)
          have X4 := hid (kept (kept XB.out G45.out H.out.lt) (grown_below D5 (some r)) H.out.lt)
          have N7 := hid (show r < w3.heap.size from Nat.lt_of_lt_of_le H.out.lt (Nat.le_trans GR.out.size S3.out))
          have X7 := hid (kept X7.out (grown_below D5 (some r)) N7.out)
          have G5 := hid (grown_on G5.out (grown_below D5 (some r)))
          have R5 := hid (R5.out.step D5)
          have N5 := hid (show w.heap.size < (((w3.alloc (.cells #[.int .u8 (j.op : Int), .int .u8 (j.kind : Int), .string j.text, .int .i64 (j.rank : Int), .int .i64 (j.first : Int), .int .i64 (j.second : Int)] 83)).setCell ⟨r, 1, none⟩ (.int .i64 ((q : Int) + 1))).drewN 1).heap.size from Nat.lt_of_le_of_lt (Nat.le_trans GR.out.size S3.out) (show w3.heap.size < ((w3.alloc (.cells #[.int .u8 (j.op : Int), .int .u8 (j.kind : Int), .string j.text, .int .i64 (j.rank : Int), .int .i64 (j.first : Int), .int .i64 (j.second : Int)] 83)).setCell ⟨r, 1, none⟩ (.int .i64 ((q : Int) + 1))).heap.size by simp [World.setCell]))
          have N55 := hid ((Array.getElem?_eq_some_iff.1 K5.out.row).1)
          have N75 := hid (show b5 < w3.heap.size from Nat.lt_of_lt_of_le (Array.getElem?_eq_some_iff.1 KP.out.row).1 S3.out)
          clear y0 y1 D5 G45
          cases hP : P ts j.second (q + 1) with
          | error nq =>
            obtain ⟨n, q2⟩ := nq
            have RES := hid (RES0.out.trans (by rw [hP, Res.go_error]))
            simp only [hP] at cq
            clear hP
            refine wp_region_held_drew (S := fun V => V.cell? ⟨w3.heap.size, 0, none⟩ = some (.int .u8 (j.op : Int)) ∧ V.cell? ⟨w3.heap.size, 3, none⟩ = some (.int .i64 (j.rank : Int)) ∧ V.cell? ⟨w3.heap.size, 5, none⟩ = some (.int .i64 (j.second : Int))) (by kernel_rfl) ?_ (fun hHeld => ?_)
            · exact ⟨(cell_of_row _ _ _ _ 83 (0, 0) X7.out).trans rfl, (cell_of_row _ _ _ _ 83 (0, 0) X7.out).trans rfl, (cell_of_row _ _ _ _ 83 (0, 0) X7.out).trans rfl⟩
            refine wpAnyH_take (i := 0) (oi := { dst := some 49, op := Go.Op.fieldAddr 83 (Go.Operand.tmp 7) 0, type := 0, pos := _, after := #[], guard := none }) (v := ?_) rfl (by kernel_rfl) (by kernel_rfl) (by kernel_rfl) (fun _ _ _ h => h) (Or.inl ⟨by rfl, ?_⟩) (by assumption) ?_
            rotate_left
            · intro w hSw; (try dsimp only at hSw); go_simp <;> with_reducible rfl
            simp only [Act.put, List.setIfInBounds_toArray, List.set_cons_zero, List.set_cons_succ]
            refine wpAnyH_take (i := 1) (oi := { dst := some 50, op := Go.Op.load 22 (Go.Operand.tmp 49), type := 22, pos := _, after := #[{ on := 0, ground := Go.Ground.data }], guard := none }) (v := ?_) rfl (by kernel_rfl) (by kernel_rfl) (by kernel_rfl) (fun _ _ _ h => h) (Or.inl ⟨by rfl, ?_⟩) (by assumption) ?_
            rotate_left
            · intro w hSw; (try dsimp only at hSw); go_simp <;> with_reducible rfl
            simp only [Act.put, List.setIfInBounds_toArray, List.set_cons_zero, List.set_cons_succ]
            refine wpAnyH_take (i := 3) (oi := { dst := some 52, op := Go.Op.move (Go.Operand.tmp 0), type := 67, pos := _, after := #[], guard := none }) (v := ?_) rfl (by kernel_rfl) (by kernel_rfl) (by kernel_rfl) (fun _ _ _ h => h) (Or.inl ⟨by rfl, ?_⟩) (by assumption) ?_
            rotate_left
            · intro w hSw; (try dsimp only at hSw); go_simp <;> with_reducible rfl
            simp only [Act.put, List.setIfInBounds_toArray, List.set_cons_zero, List.set_cons_succ]
            refine wpAnyH_take (i := 4) (oi := { dst := some 53, op := Go.Op.fieldAddr 83 (Go.Operand.tmp 7) 4, type := 0, pos := _, after := #[], guard := none }) (v := ?_) rfl (by kernel_rfl) (by kernel_rfl) (by kernel_rfl) (fun _ _ _ h => h) (Or.inl ⟨by rfl, ?_⟩) (by assumption) ?_
            rotate_left
            · intro w hSw; (try dsimp only at hSw); go_simp <;> with_reducible rfl
            simp only [Act.put, List.setIfInBounds_toArray, List.set_cons_zero, List.set_cons_succ]
            refine wpAnyH_take (i := 5) (oi := { dst := some 54, op := Go.Op.load 3 (Go.Operand.tmp 53), type := 3, pos := _, after := #[{ on := 4, ground := Go.Ground.data }], guard := none }) (v := ?_) rfl (by kernel_rfl) (by kernel_rfl) (by kernel_rfl) (fun _ _ _ h => h) (Or.inl ⟨by rfl, ?_⟩) (by assumption) ?_
            rotate_left
            · intro w hSw; (try dsimp only at hSw); go_simp <;> with_reducible rfl
            simp only [Act.put, List.setIfInBounds_toArray, List.set_cons_zero, List.set_cons_succ]
            refine wpAnyH_take (i := 9) (oi := { dst := some 58, op := Go.Op.fieldAddr 83 (Go.Operand.tmp 7) 2, type := 0, pos := _, after := #[{ on := 11, ground := Go.Ground.gcOnly Go.Departure.lateStores }], guard := none }) (v := ?_) rfl (by kernel_rfl) (by kernel_rfl) (by kernel_rfl) (fun _ _ _ h => h) (Or.inl ⟨by rfl, ?_⟩) (by assumption) ?_
            rotate_left
            · intro w hSw; (try dsimp only at hSw); go_simp <;> with_reducible rfl
            simp only [Act.put, List.setIfInBounds_toArray, List.set_cons_zero, List.set_cons_succ]
            refine wpAnyH_take (i := 10) (oi := { dst := some 59, op := Go.Op.load 3 (Go.Operand.tmp 58), type := 3, pos := _, after := #[{ on := 9, ground := Go.Ground.data }, { on := 11, ground := Go.Ground.gcOnly Go.Departure.lateStores }], guard := none }) (v := ?_) rfl (by kernel_rfl) (by kernel_rfl) (by kernel_rfl) (fun _ _ _ h => h) (Or.inl ⟨by rfl, ?_⟩) (by assumption) ?_
            rotate_left
            · intro w hSw; (try dsimp only at hSw); go_simp <;> with_reducible rfl
            simp only [Act.put, List.setIfInBounds_toArray, List.set_cons_zero, List.set_cons_succ]
            refine wpAnyH_ready (rs := [2, 6]) (by kernel_rfl) (by simp) ?_
            refine AllReadyH.cons (o := { dst := some 51, op := Go.Op.load 25 (Go.Operand.tmp 5), type := 25, pos := _, after := #[], guard := none }) rfl (fun K hK => ?_) (AllReadyH.cons (o := { dst := some 55, op := Go.Op.call { callee := Go.Callee.value (Go.Operand.func 65), args := #[Go.Operand.tmp 52, Go.Operand.tmp 54], argTypes := #[67, 3] }, type := 25, pos := _, after := #[{ on := 3, ground := Go.Ground.data }, { on := 5, ground := Go.Ground.data }], guard := none }) rfl (fun K hK => ?_) AllReadyH.nil)
            · refine if_take (by rfl) ?_
              refine wp_load_row 25 _ rfl b5 rfl 25 (ex4 x (.slice ao x.args.length cap)) (0, 0) _ K5.out.row Tryd.underlying25 rfl info25 ?_
              refine hK.out _ _ (by assumption) (fun _ => ?_)
              clear hK K
              simp only [Act.put, List.setIfInBounds_toArray, List.set_cons_zero, List.set_cons_succ]
              refine wpAnyH_ready (rs := [6]) (by kernel_rfl) (by simp) ?_
              refine AllReadyH.cons (o := { dst := some 55, op := Go.Op.call { callee := Go.Callee.value (Go.Operand.func 65), args := #[Go.Operand.tmp 52, Go.Operand.tmp 54], argTypes := #[67, 3] }, type := 25, pos := _, after := #[{ on := 3, ground := Go.Ground.data }, { on := 5, ground := Go.Ground.data }], guard := none }) rfl (fun K hK => ?_) AllReadyH.nil
              go_simp
              refine (cq _ G5.out R5.out).mono ?_
              rintro e w6 ⟨g6, rfl, h6⟩
              exact ⟨rfl, by rw [RES.out]; exact ⟨grown_on G5.out g6, rfl, h6⟩⟩
            · go_simp
              refine (cq _ G5.out R5.out).mono ?_
              rintro e w6 ⟨g6, rfl, h6⟩
              exact ⟨rfl, by rw [RES.out]; exact ⟨grown_on G5.out g6, rfl, h6⟩⟩
          | ok yq =>
            obtain ⟨y, q2⟩ := yq
            have RES := hid (RES0.out.trans (by rw [hP, Res.go_ok]))
            have FQ := hid (prsP_far ts _ _ _ _ hP)
            simp only [hP] at cq
            clear hP
            refine wp_region_held_drew (S := fun V => V.cell? ⟨w3.heap.size, 0, none⟩ = some (.int .u8 (j.op : Int)) ∧ V.cell? ⟨w3.heap.size, 3, none⟩ = some (.int .i64 (j.rank : Int)) ∧ V.cell? ⟨w3.heap.size, 5, none⟩ = some (.int .i64 (j.second : Int))) (by kernel_rfl) ?_ (fun hHeld => ?_)
            · exact ⟨(cell_of_row _ _ _ _ 83 (0, 0) X7.out).trans rfl, (cell_of_row _ _ _ _ 83 (0, 0) X7.out).trans rfl, (cell_of_row _ _ _ _ 83 (0, 0) X7.out).trans rfl⟩
            refine wpAnyH_take (i := 0) (oi := { dst := some 49, op := Go.Op.fieldAddr 83 (Go.Operand.tmp 7) 0, type := 0, pos := _, after := #[], guard := none }) (v := ?_) rfl (by kernel_rfl) (by kernel_rfl) (by kernel_rfl) (fun _ _ _ h => h) (Or.inl ⟨by rfl, ?_⟩) (by assumption) ?_
            rotate_left
            · intro w hSw; (try dsimp only at hSw); go_simp <;> with_reducible rfl
            simp only [Act.put, List.setIfInBounds_toArray, List.set_cons_zero, List.set_cons_succ]
            refine wpAnyH_take (i := 1) (oi := { dst := some 50, op := Go.Op.load 22 (Go.Operand.tmp 49), type := 22, pos := _, after := #[{ on := 0, ground := Go.Ground.data }], guard := none }) (v := ?_) rfl (by kernel_rfl) (by kernel_rfl) (by kernel_rfl) (fun _ _ _ h => h) (Or.inl ⟨by rfl, ?_⟩) (by assumption) ?_
            rotate_left
            · intro w hSw; (try dsimp only at hSw); go_simp <;> with_reducible rfl
            simp only [Act.put, List.setIfInBounds_toArray, List.set_cons_zero, List.set_cons_succ]
            refine wpAnyH_take (i := 3) (oi := { dst := some 52, op := Go.Op.move (Go.Operand.tmp 0), type := 67, pos := _, after := #[], guard := none }) (v := ?_) rfl (by kernel_rfl) (by kernel_rfl) (by kernel_rfl) (fun _ _ _ h => h) (Or.inl ⟨by rfl, ?_⟩) (by assumption) ?_
            rotate_left
            · intro w hSw; (try dsimp only at hSw); go_simp <;> with_reducible rfl
            simp only [Act.put, List.setIfInBounds_toArray, List.set_cons_zero, List.set_cons_succ]
            refine wpAnyH_take (i := 4) (oi := { dst := some 53, op := Go.Op.fieldAddr 83 (Go.Operand.tmp 7) 4, type := 0, pos := _, after := #[], guard := none }) (v := ?_) rfl (by kernel_rfl) (by kernel_rfl) (by kernel_rfl) (fun _ _ _ h => h) (Or.inl ⟨by rfl, ?_⟩) (by assumption) ?_
            rotate_left
            · intro w hSw; (try dsimp only at hSw); go_simp <;> with_reducible rfl
            simp only [Act.put, List.setIfInBounds_toArray, List.set_cons_zero, List.set_cons_succ]
            refine wpAnyH_take (i := 5) (oi := { dst := some 54, op := Go.Op.load 3 (Go.Operand.tmp 53), type := 3, pos := _, after := #[{ on := 4, ground := Go.Ground.data }], guard := none }) (v := ?_) rfl (by kernel_rfl) (by kernel_rfl) (by kernel_rfl) (fun _ _ _ h => h) (Or.inl ⟨by rfl, ?_⟩) (by assumption) ?_
            rotate_left
            · intro w hSw; (try dsimp only at hSw); go_simp <;> with_reducible rfl
            simp only [Act.put, List.setIfInBounds_toArray, List.set_cons_zero, List.set_cons_succ]
            refine wpAnyH_take (i := 9) (oi := { dst := some 58, op := Go.Op.fieldAddr 83 (Go.Operand.tmp 7) 2, type := 0, pos := _, after := #[{ on := 11, ground := Go.Ground.gcOnly Go.Departure.lateStores }], guard := none }) (v := ?_) rfl (by kernel_rfl) (by kernel_rfl) (by kernel_rfl) (fun _ _ _ h => h) (Or.inl ⟨by rfl, ?_⟩) (by assumption) ?_
            rotate_left
            · intro w hSw; (try dsimp only at hSw); go_simp <;> with_reducible rfl
            simp only [Act.put, List.setIfInBounds_toArray, List.set_cons_zero, List.set_cons_succ]
            refine wpAnyH_take (i := 10) (oi := { dst := some 59, op := Go.Op.load 3 (Go.Operand.tmp 58), type := 3, pos := _, after := #[{ on := 9, ground := Go.Ground.data }, { on := 11, ground := Go.Ground.gcOnly Go.Departure.lateStores }], guard := none }) (v := ?_) rfl (by kernel_rfl) (by kernel_rfl) (by kernel_rfl) (fun _ _ _ h => h) (Or.inl ⟨by rfl, ?_⟩) (by assumption) ?_
            rotate_left
            · intro w hSw; (try dsimp only at hSw); go_simp <;> with_reducible rfl
            simp only [Act.put, List.setIfInBounds_toArray, List.set_cons_zero, List.set_cons_succ]
            refine wpAnyH_ready (rs := [2, 6]) (by kernel_rfl) (by simp) ?_
            refine AllReadyH.cons (o := { dst := some 51, op := Go.Op.load 25 (Go.Operand.tmp 5), type := 25, pos := _, after := #[], guard := none }) rfl (fun K hK => ?_) (AllReadyH.cons (o := { dst := some 55, op := Go.Op.call { callee := Go.Callee.value (Go.Operand.func 65), args := #[Go.Operand.tmp 52, Go.Operand.tmp 54], argTypes := #[67, 3] }, type := 25, pos := _, after := #[{ on := 3, ground := Go.Ground.data }, { on := 5, ground := Go.Ground.data }], guard := none }) rfl (fun K hK => ?_) AllReadyH.nil)
            · refine if_take (by rfl) ?_
              refine wp_load_row 25 _ rfl b5 rfl 25 (ex4 x (.slice ao x.args.length cap)) (0, 0) _ K5.out.row Tryd.underlying25 rfl info25 ?_
              refine hK.out _ _ (by assumption) (fun _ => ?_)
              clear hK K
              simp only [Act.put, List.setIfInBounds_toArray, List.set_cons_zero, List.set_cons_succ]
              refine wpAnyH_ready (rs := [6]) (by kernel_rfl) (by simp) ?_
              refine AllReadyH.cons (o := { dst := some 55, op := Go.Op.call { callee := Go.Callee.value (Go.Operand.func 65), args := #[Go.Operand.tmp 52, Go.Operand.tmp 54], argTypes := #[67, 3] }, type := 25, pos := _, after := #[{ on := 3, ground := Go.Ground.data }, { on := 5, ground := Go.Ground.data }], guard := none }) rfl (fun K hK => ?_) AllReadyH.nil
              go_simp
              refine (cq _ G5.out R5.out).mono ?_
              rintro e w6 ⟨g6, t, rfl, st6, h6⟩
              obtain ⟨ao2, cap2, rfl⟩ := st6.form
              have K6 := hid (K5.out.grown g6 H.out.lt)
              have X76 := kept X7.out g6 (by have := H.out.lt; have := N7.out; omega)
              have X46 := hid (kept X4.out g6 H.out.lt)
              have G6 := hid (grown_on G5.out g6)
              have R6 := hid h6
              have Y6 := hid (StP.carryN (ok' := fun k => w.heap.size < k ∧ k ≠ b5) (fun b _ _ => rfl) (fun b _ hb => ⟨Nat.lt_of_lt_of_le N5.out hb, Nat.ne_of_gt (Nat.lt_of_lt_of_le N55.out hb)⟩) _ y _ (Nat.le_refl _) st6)
              have Z6 := hid (Nat.lt_of_lt_of_le N5.out g6.size)
              clear g6 st6 h6
              go_wp2_with fail
              refine hK.out _ _ ?_ (fun hHeld1 => ?_)
              · exact ⟨by rw [cell_of_row _ _ _ _ 83 (0, 0) X76]; rfl, by rw [cell_of_row _ _ _ _ 83 (0, 0) X76]; rfl, by rw [cell_of_row _ _ _ _ 83 (0, 0) X76]; rfl⟩
              clear hK K
              refine wpAnyH_ready (rs := [7]) (by kernel_rfl) (by simp) ?_
              refine AllReadyH.cons (o := { dst := some 56, op := Go.Op.buildSlice 23 2 #[(0, Go.Operand.tmp 51), (1, Go.Operand.tmp 55)], type := 23, pos := _, after := #[{ on := 2, ground := Go.Ground.data }, { on := 6, ground := Go.Ground.data }], guard := none }) rfl (fun K hK => ?_) AllReadyH.nil
              refine if_take (by rfl) ?_
              obtain ⟨ie, hie, hz, hsz⟩ := inf25
              refine wp_buildSlice 23 25 2 _ rfl (ex4 x (.slice ao x.args.length cap) ++ ex4 y (.slice ao2 y.args.length cap2)) ie z25 Tryd.underlying23 hie hz (by rw [hsz]; decide) (by rw [hsz]; decide) (by rw [hsz]; simp only [List.map_toArray, List.map_cons, List.map_nil]; exact fill2 x y ao ao2 _ _ _ _) ?_
              clear hie hz hsz
              have b7 := (Below.refl w6.heap.size w6).alloc (Nat.le_refl _) (.cells (ex4 x (.slice ao x.args.length cap) ++ ex4 y (.slice ao2 y.args.length cap2)) 25)
              have X77 := (b7.block _ (Array.getElem?_eq_some_iff.1 X76).1).trans X76
              have X57 := (b7.block _ (Array.getElem?_eq_some_iff.1 K6.out.row).1).trans K6.out.row
              have C7 := hid (heap_alloc_new w6 (.cells (ex4 x (.slice ao x.args.length cap) ++ ex4 y (.slice ao2 y.args.length cap2)) 25))
              have B7 := hid b7
              clear b7
              refine hK.out _ _ ?_ (fun _ => ?_)
              · exact ⟨by rw [cell_of_row _ _ _ _ 83 (0, 0) X77]; rfl, by rw [cell_of_row _ _ _ _ 83 (0, 0) X77]; rfl, by rw [cell_of_row _ _ _ _ 83 (0, 0) X77]; rfl⟩
              clear hK K
              simp only [Act.put, List.setIfInBounds_toArray, List.set_cons_zero, List.set_cons_succ]
              refine wpAnyH_take (i := 8) (oi := { dst := some 57, op := Go.Op.build 25 #[(0, Go.Operand.tmp 50), (3, Go.Operand.tmp 56)], type := 25, pos := _, after := #[{ on := 1, ground := Go.Ground.data }, { on := 7, ground := Go.Ground.data }], guard := none }) (v := ?_) rfl (by kernel_rfl) (by kernel_rfl) (by kernel_rfl) (fun _ _ _ h => h) (Or.inl ⟨by rfl, ?_⟩) (by assumption) ?_
              rotate_left
              · intro w hSw; (try dsimp only at hSw); go_simp <;> with_reducible rfl
              simp only [Act.put, List.setIfInBounds_toArray, List.set_cons_zero, List.set_cons_succ]
              refine wpAnyH_ready (rs := [11]) (by kernel_rfl) (by simp) ?_
              refine AllReadyH.cons (o := { dst := none, op := Go.Op.store 25 (Go.Operand.tmp 5) (Go.Operand.tmp 57), type := 0, pos := _, after := #[{ on := 8, ground := Go.Ground.data }, { on := 6, ground := Go.Ground.chain }, { on := 0, ground := Go.Ground.phase }, { on := 1, ground := Go.Ground.phase }, { on := 2, ground := Go.Ground.phase }, { on := 3, ground := Go.Ground.phase }, { on := 4, ground := Go.Ground.phase }, { on := 5, ground := Go.Ground.phase }, { on := 6, ground := Go.Ground.phase }, { on := 7, ground := Go.Ground.phase }, { on := 8, ground := Go.Ground.phase }, { on := 9, ground := Go.Ground.textOnly Go.Departure.lateStores }, { on := 10, ground := Go.Ground.textOnly Go.Departure.lateStores }], guard := none }) rfl (fun K hK => ?_) AllReadyH.nil
              refine if_take (by rfl) ?_
              refine wp_store_row 25 _ _ rfl b5 (ex4 ⟨j.op, 0, ByteArray.empty, [x, y]⟩ (.slice (some ⟨w6.heap.size, 0, none⟩) 2 2)) rfl rfl 25 _ X57 info25 rfl (by simp [Value.oneCell', ex4]) ?_
              have X78 := (setRow_other (w6.alloc (.cells (ex4 x (.slice ao x.args.length cap) ++ ex4 y (.slice ao2 y.args.length cap2)) 25)) b5 _ (ex4 ⟨j.op, 0, ByteArray.empty, [x, y]⟩ (.slice (some ⟨w6.heap.size, 0, none⟩) 2 2)) (Nat.ne_of_gt N75.out)).trans X77
              refine hK.out _ _ ?_ (fun _ => ?_)
              · exact ⟨by rw [cell_of_row _ _ _ _ 83 (0, 0) X78]; rfl, by rw [cell_of_row _ _ _ _ 83 (0, 0) X78]; rfl, by rw [cell_of_row _ _ _ _ 83 (0, 0) X78]; rfl⟩
              clear hK K
              refine wpAnyH_take (i := 12) (oi := { dst := some 6, op := Go.Op.assign (Go.Operand.tmp 59), type := 3, pos := _, after := #[{ on := 10, ground := Go.Ground.data }, { on := 11, ground := Go.Ground.chain }, { on := 0, ground := Go.Ground.phase }, { on := 1, ground := Go.Ground.phase }, { on := 2, ground := Go.Ground.phase }, { on := 3, ground := Go.Ground.phase }, { on := 4, ground := Go.Ground.phase }, { on := 5, ground := Go.Ground.phase }, { on := 6, ground := Go.Ground.phase }, { on := 7, ground := Go.Ground.phase }, { on := 8, ground := Go.Ground.phase }, { on := 9, ground := Go.Ground.phase }, { on := 10, ground := Go.Ground.phase }, { on := 11, ground := Go.Ground.phase }], guard := none }) (v := ?_) rfl (by kernel_rfl) (by kernel_rfl) (by kernel_rfl) (fun _ _ _ h => h) (Or.inl ⟨by rfl, ?_⟩) (by assumption) ?_
              rotate_left
              · intro w hSw; (try dsimp only at hSw); go_simp <;> with_reducible rfl
              simp only [Act.put, List.setIfInBounds_toArray, List.set_cons_zero, List.set_cons_succ]
              refine wpAnyH_done (by kernel_rfl) ?_ _
              refine hK8 _ _ ?_
              go_step3
              have hb6 : b5 < w6.heap.size := (Array.getElem?_eq_some_iff.1 K6.out.row).1
              have hw6 : w.heap.size < w6.heap.size := Z6.out
              have R8 := H.out.setRowAt (R6.out.step B7.out) (Nat.le_of_lt KP.out.lt) (ex4 ⟨j.op, 0, ByteArray.empty, [x, y]⟩ (.slice (some ⟨w6.heap.size, 0, none⟩) 2 2))
              refine ⟨rfl, ⟨⟨j.op, 0, ByteArray.empty, [x, y]⟩, _, j.rank, q2, b5, ⟨_, _, _, _, _, _, _, _, _, _, _, _, _, _, _, _, _, _, _, _, _, _, _, _, _, _, _, _, _, _, _, _, _, _, _, _, _, _, _, _, _, _, _, _, _, _, _, _, _, _, _, _, _, rfl⟩, ⟨grown_setRowAt (grown_on G6.out (grown_below B7.out _)) (Nat.le_of_lt KP.out.lt) _, R8, (setRow_other _ _ _ _ (Nat.ne_of_lt KP.out.lt)).trans ((B7.out.block _ hw6).trans X46.out), ⟨setRow_heap _ _ _ _ _ _ X57, StP.two j.op JL.out.2.2.2.2.2.2.2.2 w6.heap.size ⟨hw6, Nat.ne_of_gt hb6⟩ ?_ ?_ ((setRow_other _ _ _ _ (Nat.ne_of_gt hb6)).trans C7.out), KP.out.lt⟩, RES.out.symm, Nat.lt_trans LT.out (Nat.lt_trans (Nat.lt_succ_self q) FQ.out), Nat.le_trans JL.out.2.2.2.1 (by omega)⟩⟩, ?_⟩
              · exact StP.carryN (fun b hb hl => (setRow_other _ _ _ _ hb.2).trans (B7.out.block b hl)) (fun b _ hb => hb) _ x _ (Nat.le_refl _) K6.out.st
              · exact StP.carryN (fun b hb hl => (setRow_other _ _ _ _ hb.2).trans (B7.out.block b hl)) (fun b _ hb => hb) _ y _ (Nat.le_refl _) Y6.out
              · rw [atR_of R8, atR_of RD.out]; have := HQ.out; have := FQ.out; have := R8.le; omega
            · go_simp
              refine (cq _ G5.out R5.out).mono ?_
              rintro e w6 ⟨g6, t, rfl, st6, h6⟩
              obtain ⟨ao2, cap2, rfl⟩ := st6.form
              have K6 := hid (K5.out.grown g6 H.out.lt)
              have X76 := kept X7.out g6 (by have := H.out.lt; have := N7.out; omega)
              have X46 := hid (kept X4.out g6 H.out.lt)
              have G6 := hid (grown_on G5.out g6)
              have R6 := hid h6
              have Y6 := hid (StP.carryN (ok' := fun k => w.heap.size < k ∧ k ≠ b5) (fun b _ _ => rfl) (fun b _ hb => ⟨Nat.lt_of_lt_of_le N5.out hb, Nat.ne_of_gt (Nat.lt_of_lt_of_le N55.out hb)⟩) _ y _ (Nat.le_refl _) st6)
              have Z6 := hid (Nat.lt_of_lt_of_le N5.out g6.size)
              clear g6 st6 h6
              go_wp2_with fail
              refine hK.out _ _ ?_ (fun hHeld1 => ?_)
              · exact ⟨by rw [cell_of_row _ _ _ _ 83 (0, 0) X76]; rfl, by rw [cell_of_row _ _ _ _ 83 (0, 0) X76]; rfl, by rw [cell_of_row _ _ _ _ 83 (0, 0) X76]; rfl⟩
              clear hK K
              refine wpAnyH_ready (rs := [2]) (by kernel_rfl) (by simp) ?_
              refine AllReadyH.cons (o := { dst := some 51, op := Go.Op.load 25 (Go.Operand.tmp 5), type := 25, pos := _, after := #[], guard := none }) rfl (fun K hK => ?_) AllReadyH.nil
              refine if_take (by rfl) ?_
              refine wp_load_row 25 _ rfl b5 rfl 25 (ex4 x (.slice ao x.args.length cap)) (0, 0) _ K6.out.row Tryd.underlying25 rfl info25 ?_
              refine hK.out _ _ (by assumption) (fun _ => ?_)
              clear hK K
              simp only [Act.put, List.setIfInBounds_toArray, List.set_cons_zero, List.set_cons_succ]
              refine wpAnyH_ready (rs := [7]) (by kernel_rfl) (by simp) ?_
              refine AllReadyH.cons (o := { dst := some 56, op := Go.Op.buildSlice 23 2 #[(0, Go.Operand.tmp 51), (1, Go.Operand.tmp 55)], type := 23, pos := _, after := #[{ on := 2, ground := Go.Ground.data }, { on := 6, ground := Go.Ground.data }], guard := none }) rfl (fun K hK => ?_) AllReadyH.nil
              refine if_take (by rfl) ?_
              obtain ⟨ie, hie, hz, hsz⟩ := inf25
              refine wp_buildSlice 23 25 2 _ rfl (ex4 x (.slice ao x.args.length cap) ++ ex4 y (.slice ao2 y.args.length cap2)) ie z25 Tryd.underlying23 hie hz (by rw [hsz]; decide) (by rw [hsz]; decide) (by rw [hsz]; simp only [List.map_toArray, List.map_cons, List.map_nil]; exact fill2 x y ao ao2 _ _ _ _) ?_
              clear hie hz hsz
              have b7 := (Below.refl w6.heap.size w6).alloc (Nat.le_refl _) (.cells (ex4 x (.slice ao x.args.length cap) ++ ex4 y (.slice ao2 y.args.length cap2)) 25)
              have X77 := (b7.block _ (Array.getElem?_eq_some_iff.1 X76).1).trans X76
              have X57 := (b7.block _ (Array.getElem?_eq_some_iff.1 K6.out.row).1).trans K6.out.row
              have C7 := hid (heap_alloc_new w6 (.cells (ex4 x (.slice ao x.args.length cap) ++ ex4 y (.slice ao2 y.args.length cap2)) 25))
              have B7 := hid b7
              clear b7
              refine hK.out _ _ ?_ (fun _ => ?_)
              · exact ⟨by rw [cell_of_row _ _ _ _ 83 (0, 0) X77]; rfl, by rw [cell_of_row _ _ _ _ 83 (0, 0) X77]; rfl, by rw [cell_of_row _ _ _ _ 83 (0, 0) X77]; rfl⟩
              clear hK K
              simp only [Act.put, List.setIfInBounds_toArray, List.set_cons_zero, List.set_cons_succ]
              refine wpAnyH_take (i := 8) (oi := { dst := some 57, op := Go.Op.build 25 #[(0, Go.Operand.tmp 50), (3, Go.Operand.tmp 56)], type := 25, pos := _, after := #[{ on := 1, ground := Go.Ground.data }, { on := 7, ground := Go.Ground.data }], guard := none }) (v := ?_) rfl (by kernel_rfl) (by kernel_rfl) (by kernel_rfl) (fun _ _ _ h => h) (Or.inl ⟨by rfl, ?_⟩) (by assumption) ?_
              rotate_left
              · intro w hSw; (try dsimp only at hSw); go_simp <;> with_reducible rfl
              simp only [Act.put, List.setIfInBounds_toArray, List.set_cons_zero, List.set_cons_succ]
              refine wpAnyH_ready (rs := [11]) (by kernel_rfl) (by simp) ?_
              refine AllReadyH.cons (o := { dst := none, op := Go.Op.store 25 (Go.Operand.tmp 5) (Go.Operand.tmp 57), type := 0, pos := _, after := #[{ on := 8, ground := Go.Ground.data }, { on := 6, ground := Go.Ground.chain }, { on := 0, ground := Go.Ground.phase }, { on := 1, ground := Go.Ground.phase }, { on := 2, ground := Go.Ground.phase }, { on := 3, ground := Go.Ground.phase }, { on := 4, ground := Go.Ground.phase }, { on := 5, ground := Go.Ground.phase }, { on := 6, ground := Go.Ground.phase }, { on := 7, ground := Go.Ground.phase }, { on := 8, ground := Go.Ground.phase }, { on := 9, ground := Go.Ground.textOnly Go.Departure.lateStores }, { on := 10, ground := Go.Ground.textOnly Go.Departure.lateStores }], guard := none }) rfl (fun K hK => ?_) AllReadyH.nil
              refine if_take (by rfl) ?_
              refine wp_store_row 25 _ _ rfl b5 (ex4 ⟨j.op, 0, ByteArray.empty, [x, y]⟩ (.slice (some ⟨w6.heap.size, 0, none⟩) 2 2)) rfl rfl 25 _ X57 info25 rfl (by simp [Value.oneCell', ex4]) ?_
              have X78 := (setRow_other (w6.alloc (.cells (ex4 x (.slice ao x.args.length cap) ++ ex4 y (.slice ao2 y.args.length cap2)) 25)) b5 _ (ex4 ⟨j.op, 0, ByteArray.empty, [x, y]⟩ (.slice (some ⟨w6.heap.size, 0, none⟩) 2 2)) (Nat.ne_of_gt N75.out)).trans X77
              refine hK.out _ _ ?_ (fun _ => ?_)
              · exact ⟨by rw [cell_of_row _ _ _ _ 83 (0, 0) X78]; rfl, by rw [cell_of_row _ _ _ _ 83 (0, 0) X78]; rfl, by rw [cell_of_row _ _ _ _ 83 (0, 0) X78]; rfl⟩
              clear hK K
              refine wpAnyH_take (i := 12) (oi := { dst := some 6, op := Go.Op.assign (Go.Operand.tmp 59), type := 3, pos := _, after := #[{ on := 10, ground := Go.Ground.data }, { on := 11, ground := Go.Ground.chain }, { on := 0, ground := Go.Ground.phase }, { on := 1, ground := Go.Ground.phase }, { on := 2, ground := Go.Ground.phase }, { on := 3, ground := Go.Ground.phase }, { on := 4, ground := Go.Ground.phase }, { on := 5, ground := Go.Ground.phase }, { on := 6, ground := Go.Ground.phase }, { on := 7, ground := Go.Ground.phase }, { on := 8, ground := Go.Ground.phase }, { on := 9, ground := Go.Ground.phase }, { on := 10, ground := Go.Ground.phase }, { on := 11, ground := Go.Ground.phase }], guard := none }) (v := ?_) rfl (by kernel_rfl) (by kernel_rfl) (by kernel_rfl) (fun _ _ _ h => h) (Or.inl ⟨by rfl, ?_⟩) (by assumption) ?_
              rotate_left
              · intro w hSw; (try dsimp only at hSw); go_simp <;> with_reducible rfl
              simp only [Act.put, List.setIfInBounds_toArray, List.set_cons_zero, List.set_cons_succ]
              refine wpAnyH_done (by kernel_rfl) ?_ _
              refine hK8 _ _ ?_
              go_step3
              have hb6 : b5 < w6.heap.size := (Array.getElem?_eq_some_iff.1 K6.out.row).1
              have hw6 : w.heap.size < w6.heap.size := Z6.out
              have R8 := H.out.setRowAt (R6.out.step B7.out) (Nat.le_of_lt KP.out.lt) (ex4 ⟨j.op, 0, ByteArray.empty, [x, y]⟩ (.slice (some ⟨w6.heap.size, 0, none⟩) 2 2))
              refine ⟨rfl, ⟨⟨j.op, 0, ByteArray.empty, [x, y]⟩, _, j.rank, q2, b5, ⟨_, _, _, _, _, _, _, _, _, _, _, _, _, _, _, _, _, _, _, _, _, _, _, _, _, _, _, _, _, _, _, _, _, _, _, _, _, _, _, _, _, _, _, _, _, _, _, _, _, _, _, _, _, rfl⟩, ⟨grown_setRowAt (grown_on G6.out (grown_below B7.out _)) (Nat.le_of_lt KP.out.lt) _, R8, (setRow_other _ _ _ _ (Nat.ne_of_lt KP.out.lt)).trans ((B7.out.block _ hw6).trans X46.out), ⟨setRow_heap _ _ _ _ _ _ X57, StP.two j.op JL.out.2.2.2.2.2.2.2.2 w6.heap.size ⟨hw6, Nat.ne_of_gt hb6⟩ ?_ ?_ ((setRow_other _ _ _ _ (Nat.ne_of_gt hb6)).trans C7.out), KP.out.lt⟩, RES.out.symm, Nat.lt_trans LT.out (Nat.lt_trans (Nat.lt_succ_self q) FQ.out), Nat.le_trans JL.out.2.2.2.1 (by omega)⟩⟩, ?_⟩
              · exact StP.carryN (fun b hb hl => (setRow_other _ _ _ _ hb.2).trans (B7.out.block b hl)) (fun b _ hb => hb) _ x _ (Nat.le_refl _) K6.out.st
              · exact StP.carryN (fun b hb hl => (setRow_other _ _ _ _ hb.2).trans (B7.out.block b hl)) (fun b _ hb => hb) _ y _ (Nat.le_refl _) Y6.out
              · rw [atR_of R8, atR_of RD.out]; have := HQ.out; have := FQ.out; have := R8.le; omega
end Go.Proofs.YtkieljleopbhoaaDoor.Lex

