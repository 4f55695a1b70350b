/-
  What stands in a place: a choice; and the contract of part, whatever stands there.
-/
import Derived.Test.YtkieljleopbhoaaDoorPart
namespace Go.Proofs.YtkieljleopbhoaaDoor.Lex
open Go.ChangeShapes Go.WideShapes Go.ChangeAt Go.RowKit Go.Joins Go.WideMaps Go.WideElems Go.Maps
theorem choice_c {r mp : Nat} {v : Value} {ts : List Mark} {p : Nat} {w : World} (h : Rdr r mp v ts p w) (hp : p < ts.length)
    (ih : ∀ (q b : Nat) W, p < q → b ≤ 7 → w.grownBy W (some r) → Rdr r mp v ts q W → Calls Tryd.prog 65 #[.pointer (some ⟨r, 0, none⟩), .int .i64 (b : Int)] W (Post r mp v ts W (P ts b q))) : Calls Tryd.prog 83 #[.pointer (some ⟨r, 0, none⟩)] w (Post r mp v ts w (choiceR ts (P ts) p)) := by
  have c1 := fun W g hr => ih (p + 1) 0 W (by omega) (by omega) g hr
  unfold choiceR
  cases e1 : P ts 0 (p + 1) with
  | error nq =>
    obtain ⟨n, q⟩ := nq
    rw [e1] at c1
    rw [Res.go_error]
    exact choice_bad1 r mp v ts p w h hp n q c1
  | ok xq =>
    obtain ⟨x1, q1⟩ := xq
    rw [e1] at c1
    rw [Res.go_ok]
    have f1 := prsP_far ts _ _ _ _ e1
    cases m1 : isMk (markAt ts q1) 1 (sgn [116, 104, 101, 110]) with
    | false =>
      unfold passR
      rw [m1]
      exact choice_bad2 r mp v ts p w h hp x1 q1 c1 m1
    | true =>
      rw [passR, if_pos m1]
      have c2 := fun W g hr => ih (q1 + 1) 0 W (by omega) (by omega) g hr
      cases e2 : P ts 0 (q1 + 1) with
      | error nq =>
        obtain ⟨n, q⟩ := nq
        rw [e2] at c2
        rw [Res.go_error]
        exact choice_bad3 r mp v ts p w h hp x1 q1 c1 m1 n q c2
      | ok xq =>
        obtain ⟨x2, q2⟩ := xq
        rw [e2] at c2
        rw [Res.go_ok]
        have f2 := prsP_far ts _ _ _ _ e2
        cases m2 : isMk (markAt ts q2) 1 (sgn [101, 108, 115, 101]) with
        | false =>
          unfold passR
          rw [m2]
          exact choice_bad4 r mp v ts p w h hp x1 q1 c1 m1 x2 q2 c2 m2
        | true =>
          rw [passR, if_pos m2]
          have c3 := fun W g hr => ih (q2 + 1) 0 W (by omega) (by omega) g hr
          cases e3 : P ts 0 (q2 + 1) with
          | error nq =>
            obtain ⟨n, q⟩ := nq
            rw [e3] at c3
            rw [Res.go_error]
            exact choice_bad5 r mp v ts p w h hp x1 q1 c1 m1 x2 q2 c2 m2 n q c3
          | ok xq =>
            obtain ⟨x3, q3⟩ := xq
            rw [e3] at c3
            rw [Res.go_ok]
            exact choice_ok r mp v ts p w h hp x1 q1 c1 m1 x2 q2 c2 m2 x3 q3 c3
set_option maxRecDepth 100000 in
set_option maxHeartbeats 2000000 in
theorem part_if (r mp : Nat) (v : Value) (ts : List Mark) (p : Nat) (w : World) (h : Rdr r mp v ts p w) (hif : isMk (markAt ts p) 1 (sgn [105, 102]) = true)
    (ih : ∀ (q b : Nat) W, p < q → b ≤ 7 → w.grownBy W (some r) → Rdr r mp v ts q W → Calls Tryd.prog 65 #[.pointer (some ⟨r, 0, none⟩), .int .i64 (b : Int)] W (Post r mp v ts W (P ts b q))) :
    Calls Tryd.prog 65 #[.pointer (some ⟨r, 0, none⟩), .int .i64 0] w (Post r mp v ts w (P ts 0 p)) := by
  have hp := isMk_lt (by omega) hif
  have RES := hid (P_if hif)
  have b0 := (Below.refl w.heap.size w).alloc (Nat.le_refl _) (.cells c25 25)
  have c0 := peek r mp v ts p _ (h.step b0)
  have cc : ∀ W, Below w.heap.size w W → Calls Tryd.prog 83 #[.pointer (some ⟨r, 0, none⟩)] W (Post r mp v ts W (choiceR ts (P ts) p)) := fun W hW => choice_c (h.step hW) hp (fun q b W' hq hb g hr => ih q b W' hq hb (grown_on (grown_below hW _) g) hr)
  have B0 := hid b0
  have H := hid h
  have X0 := hid (heap_alloc_new w (.cells c25 25))
  obtain ⟨h1, h2⟩ := isMk_yes hif
  rw [e105] at h2
  clear b0 ih h hp hif
  generalize choiceR ts (P ts) p = R at *
  generalize markAt ts p = m at *
  cases R with
  | error nq =>
    obtain ⟨n, q⟩ := nq
    go_enter Tryd.func65, Tryd.ntmps65
    go_wp2
    go_step3
    go_wp2_with (first
      | (go_at_call 80; refine c0.mono ?_; rintro e w2 ⟨rfl, b2⟩; have B2 := hid (bstep B0.out b2); clear b2 c0)
      | (go_at_call 83; refine (cc _ B2.out).mono ?_; rintro e w3 ⟨g3, rfl, h3⟩; have G3 := hid (grown_on (grown_below B2.out _) g3); have H3 := hid h3; clear g3 h3 cc))
    exact ⟨rfl, by rw [RES.out]; exact ⟨G3.out, rfl, H3.out⟩⟩
  | ok xq =>
    obtain ⟨x, q⟩ := xq
    go_enter Tryd.func65, Tryd.ntmps65
    go_wp2
    go_step3
    go_wp2_with (first
      | (go_at_call 80; refine c0.mono ?_; rintro e w2 ⟨rfl, b2⟩; have B2' := hid b2; have B2 := hid (bstep B0.out b2); clear b2 c0)
      | (go_at_call 83; refine (cc _ B2.out).mono ?_; rintro e w3 ⟨g3, s, rfl, st, h3⟩; obtain ⟨ao, cap, rfl⟩ := st.form; have X3 := kept ((B2'.out.block _ (by simp)).trans X0.out) g3 H.out.lt; have Q := hid (Post.behind H.out B2.out (by have := B2'.out.size; simp at this; omega) g3 st h3 (ex4 x (.slice ao x.args.length cap))); clear g3 h3 cc st)
      | (refine wpList_store_row rfl 25 _ _ rfl w.heap.size (ex4 x (.slice ao x.args.length cap)) rfl rfl 25 _ X3 info25 rfl (by simp [Value.oneCell', ex4]) ?_))
    refine bodyPost_ret (results_cell_row rfl _ _ w.heap.size 25 (ex4 x (.slice ao x.args.length cap)) (0, 0) _ rfl (setRow_heap _ _ _ _ _ _ X3) Tryd.underlying25 rfl info25) rfl ?_
    rw [RES.out]
    exact ⟨Q.out.1, _, rfl, Q.out.2.1, Q.out.2.2⟩
/-- part, whatever stands there. -/
theorem part_any (r mp : Nat) (v : Value) (ts : List Mark) (hT : TsOk ts) : ∀ (n p a : Nat) (w : World), ts.length + 1 ≤ n + p → a ≤ 7 → Rdr r mp v ts p w → PEnv r mp w → Calls Tryd.prog 65 #[.pointer (some ⟨r, 0, none⟩), .int .i64 (a : Int)] w (Post r mp v ts w (P ts a p))
  | 0, p, a, w, hn, _, h, _ => by have := h.le; omega
  | n + 1, p, a, w, hn, ha, h, E => by
    have ih : ∀ (q b : Nat) W, p < q → b ≤ 7 → w.grownBy W (some r) → Rdr r mp v ts q W → Calls Tryd.prog 65 #[.pointer (some ⟨r, 0, none⟩), .int .i64 (b : Int)] W (Post r mp v ts W (P ts b q)) := fun q b W hq hb g hr => part_any r mp v ts hT n q b W (by omega) hb hr (E.grown g)
    by_cases hif : a = 0 ∧ isMk (markAt ts p) 1 (sgn [105, 102]) = true
    · obtain ⟨rfl, hm⟩ := hif
      exact part_if r mp v ts p w h hm ih
    · exact part_at r mp v ts a p ha w h E hT hif ih
end Go.Proofs.YtkieljleopbhoaaDoor.Lex
