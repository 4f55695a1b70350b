/-
  The walk of SlotsMake.
-/
import Derived.Test.YtobmnndimlhfpaaGreatDoorSmM
namespace Go.Proofs.YtobmnndimlhfpaaGreatDoor.Slo
set_option linter.unusedVariables false
open Go.ChangeShapes Go.WideShapes Go.ChangeAt Go.RowKit Go.Joins
/-- A setting's cells. -/
abbrev stC (s : Su) (a u : Value) (R G z : Int) : Array Value := #[.int .i64 s.b, .int .i64 s.n, .int .i64 s.f, .int .i64 s.d, .int .i64 s.k, a, u, .int .i64 R, .int .i64 G, .int .i64 z]
theorem st_cells {w : World} {B : Nat} {s : Su} {a u : Value} {R G z : Int} (h : w.heap[B]? = some (.cells (stC s a u R G z) 29 (0, 0))) : w.cell? ⟨B, 0, none⟩ = some (.int .i64 s.b) ∧ w.cell? ⟨B, 1, none⟩ = some (.int .i64 s.n) ∧ w.cell? ⟨B, 2, none⟩ = some (.int .i64 s.f) ∧ w.cell? ⟨B, 3, none⟩ = some (.int .i64 s.d) ∧ w.cell? ⟨B, 4, none⟩ = some (.int .i64 s.k) ∧ w.cell? ⟨B, 5, none⟩ = some (a) ∧ w.cell? ⟨B, 6, none⟩ = some (u) ∧ w.cell? ⟨B, 7, none⟩ = some (.int .i64 R) ∧ w.cell? ⟨B, 8, none⟩ = some (.int .i64 G) ∧ w.cell? ⟨B, 9, none⟩ = some (.int .i64 z) :=
  ⟨by rw [cell_of_row _ _ _ _ 29 (0, 0) h]; rfl, by rw [cell_of_row _ _ _ _ 29 (0, 0) h]; rfl, by rw [cell_of_row _ _ _ _ 29 (0, 0) h]; rfl, by rw [cell_of_row _ _ _ _ 29 (0, 0) h]; rfl, by rw [cell_of_row _ _ _ _ 29 (0, 0) h]; rfl, by rw [cell_of_row _ _ _ _ 29 (0, 0) h]; rfl, by rw [cell_of_row _ _ _ _ 29 (0, 0) h]; rfl, by rw [cell_of_row _ _ _ _ 29 (0, 0) h]; rfl, by rw [cell_of_row _ _ _ _ 29 (0, 0) h]; rfl, by rw [cell_of_row _ _ _ _ 29 (0, 0) h]; rfl⟩
theorem TwInt.low {w : World} {b b2 : Nat} {v : Value} {r : List Int} (h : TwInt w b v r) (hb : b2 ≤ b) : TwInt w b2 v r := by
  obtain ⟨g, cap, rfl, ho⟩ := h
  exact ⟨g, cap, rfl, ownsRow_mono ho hb⟩
theorem TwSlot.low {w : World} {b b2 : Nat} {v : Value} {r : List Sl} (h : TwSlot w b v r) (hb : b2 ≤ b) : TwSlot w b2 v r := by
  obtain ⟨g, cap, rfl, ho⟩ := h
  exact ⟨g, cap, rfl, ownsRow_mono ho hb⟩
structure S1 (W wr : World) (s : Su) (a u : Value) (R G z : Int) (t : Value) (r : List Int) : Prop where
  box : wr.heap[W.heap.size]? = some (.cells (stC s a u R G z) 29 (0, 0))
  tw : TwInt wr W.heap.size t r
  below : Below W.heap.size W wr
theorem S1.keep {W wr w2 : World} {s : Su} {a u : Value} {R G z : Int} {t : Value} {r : List Int} (h : S1 W wr s a u R G z t r) (hb : Below wr.heap.size wr w2) : S1 W w2 s a u R G z t r := ⟨keep_row h.box hb, tw_keep h.tw hb, h.below.trans (hb.mono h.below.size)⟩
structure S2 (W wr : World) (s : Su) (a u : Value) (R G z : Int) (t : Value) (r : List Int) (P1 : Nat) (u2 : Value) (l : List Sl) : Prop extends S1 W wr s a u R G z t r where
  tab : wr.heap[P1]? = some (.cells (tbC u2 R G) 27 (0, 0))
  tws : TwSlot wr W.heap.size u2 l
theorem S2.keep {W wr w2 : World} {s : Su} {a u : Value} {R G z : Int} {t : Value} {r : List Int} {P1 : Nat} {u2 : Value} {l : List Sl} (h : S2 W wr s a u R G z t r P1 u2 l) (hb : Below wr.heap.size wr w2) : S2 W w2 s a u R G z t r P1 u2 l := ⟨h.toS1.keep hb, keep_row h.tab hb, tws_keep h.tws hb⟩
structure S3 (W wr : World) (s : Su) (a u : Value) (R G z : Int) (t : Value) (r : List Int) (P1 : Nat) (u2 : Value) (l : List Sl) (K P2 : Nat) (v : Value) (lv : List Sl) (Rv Gv : Int) : Prop extends S2 W wr s a u R G z t r P1 u2 l where
  tab2 : wr.heap[P2]? = some (.cells (tbC v Rv Gv) 27 (0, 0))
  ov : wr.ownsRow K 64 3 v lv.length (slsC lv)
  lt : ∀ b, u2.ownBlock = some b → b < K
  kb : W.heap.size ≤ K
theorem S3.keep {W wr w2 : World} {s : Su} {a u : Value} {R G z : Int} {t : Value} {r : List Int} {P1 : Nat} {u2 : Value} {l : List Sl} {K P2 : Nat} {v : Value} {lv : List Sl} {Rv Gv : Int} (h : S3 W wr s a u R G z t r P1 u2 l K P2 v lv Rv Gv) (hb : Below wr.heap.size wr w2) : S3 W w2 s a u R G z t r P1 u2 l K P2 v lv Rv Gv := ⟨h.toS2.keep hb, keep_row h.tab2 hb, own_carry h.ov (fun b e => hb.block b (own_lo h.ov b e).2), h.lt, h.kb⟩
structure S4 (W wr : World) (s : Su) (a u : Value) (R G z : Int) (t : Value) (r : List Int) (P1 : Nat) (u2 : Value) (l : List Sl) (K P2 : Nat) (v : Value) (lv : List Sl) (Rv Gv : Int) (P3 : Nat) (f : Value) : Prop extends S3 W wr s a u R G z t r P1 u2 l K P2 v lv Rv Gv where
  tab3 : wr.heap[P3]? = some (.cells (tbC f Rv Gv) 27 (0, 0))
  ofr : wr.ownsRow W.heap.size 64 3 f lv.length (slsC lv)
theorem S4.keep {W wr w2 : World} {s : Su} {a u : Value} {R G z : Int} {t : Value} {r : List Int} {P1 : Nat} {u2 : Value} {l : List Sl} {K P2 : Nat} {v : Value} {lv : List Sl} {Rv Gv : Int} {P3 : Nat} {f : Value} (h : S4 W wr s a u R G z t r P1 u2 l K P2 v lv Rv Gv P3 f) (hb : Below wr.heap.size wr w2) : S4 W w2 s a u R G z t r P1 u2 l K P2 v lv Rv Gv P3 f := ⟨h.toS3.keep hb, keep_row h.tab3 hb, own_carry h.ofr (fun b e => hb.block b (own_lo h.ofr b e).2)⟩
theorem S4.cells {W wr : World} {s : Su} {a u : Value} {R G z : Int} {t : Value} {r : List Int} {P1 : Nat} {u2 : Value} {l : List Sl} {K P2 : Nat} {v : Value} {lv : List Sl} {Rv Gv : Int} {P3 : Nat} {f : Value} (h : S4 W wr s a u R G z t r P1 u2 l K P2 v lv Rv Gv P3 f) : wr.cell? ⟨W.heap.size, 0, none⟩ = some (.int .i64 s.b) ∧ wr.cell? ⟨W.heap.size, 1, none⟩ = some (.int .i64 s.n) ∧ wr.cell? ⟨W.heap.size, 2, none⟩ = some (.int .i64 s.f) ∧ wr.cell? ⟨W.heap.size, 3, none⟩ = some (.int .i64 s.d) ∧ wr.cell? ⟨W.heap.size, 4, none⟩ = some (.int .i64 s.k) ∧ wr.cell? ⟨W.heap.size, 5, none⟩ = some (a) ∧ wr.cell? ⟨W.heap.size, 6, none⟩ = some (u) ∧ wr.cell? ⟨W.heap.size, 7, none⟩ = some (.int .i64 R) ∧ wr.cell? ⟨W.heap.size, 8, none⟩ = some (.int .i64 G) ∧ wr.cell? ⟨W.heap.size, 9, none⟩ = some (.int .i64 z) ∧ wr.cell? ⟨P1, 0, none⟩ = some (u2) ∧ wr.cell? ⟨P1, 1, none⟩ = some (.int .i64 R) ∧ wr.cell? ⟨P1, 2, none⟩ = some (.int .i64 G) ∧ wr.cell? ⟨P2, 0, none⟩ = some (v) ∧ wr.cell? ⟨P2, 1, none⟩ = some (.int .i64 Rv) ∧ wr.cell? ⟨P2, 2, none⟩ = some (.int .i64 Gv) ∧ wr.cell? ⟨P3, 0, none⟩ = some (f) ∧ wr.cell? ⟨P3, 1, none⟩ = some (.int .i64 Rv) ∧ wr.cell? ⟨P3, 2, none⟩ = some (.int .i64 Gv) := by
  obtain ⟨x0, x1, x2, x3, x4, x5, x6, x7, x8, x9⟩ := st_cells h.box
  obtain ⟨y0, y1, y2⟩ := tb_cells h.tab
  obtain ⟨y3, y4, y5⟩ := tb_cells h.tab2
  obtain ⟨y6, y7, y8⟩ := tb_cells h.tab3
  exact ⟨x0, x1, x2, x3, x4, x5, x6, x7, x8, x9, y0, y1, y2, y3, y4, y5, y6, y7, y8⟩
abbrev c59 : Array Value := #[.int .i64 0, .slice none 0 0, .slice none 0 0, .slice none 0 0, .slice none 0 0, .slice none 0 0, .slice none 0 0, .slice none 0 0, .slice none 0 0, .slice none 0 0, .slice none 0 0, .slice none 0 0, .slice none 0 0, .slice none 0 0, .slice none 0 0, .slice none 0 0, .slice none 0 0, .slice none 0 0]
theorem zero59 : ∀ w, (zeroValue 59).run Tryz.prog w = .ok (.agg c59) w := fun _ => by kernel_rfl
theorem info59 : (Tryz.prog.info? 59).map (·.size) = some 18 := by kernel_rfl
/-- What the book's cells are. -/
structure BkC (C : Array Value) (n : Nat) (vi vs : Value) : Prop where
  c0 : C[0]? = some (.int .i64 (n : Int))
  i : C[2]? = some vi
  s : C[12]? = some vs
  o : ∀ c, 1 ≤ c → c < 18 → c ≠ 2 → c ≠ 12 → C[c]? = some (.slice none 0 0)
theorem gset {C : Array Value} {i j : Nat} {x y : Value} (h : C[j]? = some y) : (C.setIfInBounds i x)[j]? = some (if i = j then x else y) := by
  have hl := (Array.getElem?_eq_some_iff.1 h).1
  by_cases e : i = j
  · subst e
    rw [Array.getElem?_setIfInBounds_self, if_pos hl, if_pos rfl]
  · rw [Array.getElem?_setIfInBounds_ne e, if_neg e]
    exact h
theorem BkC.int {C : Array Value} {n : Nat} {vi vs : Value} (h : BkC C n vi vs) (v : Value) : BkC ((C.setIfInBounds 0 (.int .i64 ((n : Int) + 1))).setIfInBounds 2 v) (n + 1) v vs :=
  ⟨gset (gset h.c0), by simpa using gset (i := 2) (x := v) (gset (i := 0) (x := .int .i64 ((n : Int) + 1)) h.i), gset (gset h.s), fun c h1 h2 h3 h4 => by
    have := gset (i := 2) (x := v) (gset (i := 0) (x := .int .i64 ((n : Int) + 1)) (h.o c h1 h2 h3 h4))
    rwa [if_neg (by omega), if_neg (by omega)] at this⟩
theorem BkC.slot {C : Array Value} {n : Nat} {vi vs : Value} (h : BkC C n vi vs) (v : Value) : BkC ((C.setIfInBounds 0 (.int .i64 ((n : Int) + 1))).setIfInBounds 12 v) (n + 1) vi v :=
  ⟨gset (gset h.c0), gset (gset h.i), by simpa using gset (i := 12) (x := v) (gset (i := 0) (x := .int .i64 ((n : Int) + 1)) h.s), fun c h1 h2 h3 h4 => by
    have := gset (i := 12) (x := v) (gset (i := 0) (x := .int .i64 ((n : Int) + 1)) (h.o c h1 h2 h3 h4))
    rwa [if_neg (by omega), if_neg (by omega)] at this⟩
theorem KAt.nil0 (w : World) (th e sz : Nat) (mk : Nat → List Value) : KAt w th e sz mk (.slice none 0 0) [] 0 0 :=
  ⟨World.ownsRow_nil _ _ _ _, fun i a h => by simp at h, fun i j a b h => by simp at h, fun i a h => by simp at h, fun i a h => by simp at h, fun i j a b h => by simp at h, fun i a h => by simp at h⟩
theorem mem_m {E : List En} (h : ∀ a ∈ E, a.m < 100000 ∧ a.k < 1000) : ∀ (i : Nat) (a : En), E[i]? = some a → a.m < 100000 ∧ a.k < 1000 := fun i a h2 => h a (List.mem_of_getElem? h2)
/-- What stays while the book is filled. -/
structure S5 (W wr : World) (R G : Int) (P1 : Nat) (u2 : Value) (l : List Sl) (K P2 : Nat) (v : Value) (lv : List Sl) (Rv Gv : Int) (bk : Nat) : Prop where
  t1 : wr.heap[P1]? = some (.cells (tbC u2 R G) 27 (0, 0))
  t2 : wr.heap[P2]? = some (.cells (tbC v Rv Gv) 27 (0, 0))
  o1 : wr.ownsRow W.heap.size 64 3 u2 l.length (slsC l)
  o2 : wr.ownsRow K 64 3 v lv.length (slsC lv)
  lt : ∀ b, u2.ownBlock = some b → b < K
  kb : W.heap.size ≤ K
  pb : P1 < bk ∧ P2 < bk ∧ W.heap.size ≤ bk ∧ bk < wr.heap.size
  b1 : ∀ b, u2.ownBlock = some b → b < bk
  b2 : ∀ b, v.ownBlock = some b → b < bk
  bel : Below W.heap.size W wr
theorem S5.mv {W wr w2 : World} {R G : Int} {P1 : Nat} {u2 : Value} {l : List Sl} {K P2 : Nat} {v : Value} {lv : List Sl} {Rv Gv : Int} {bk : Nat} {S : Nat → Prop} (h : S5 W wr R G P1 u2 l K P2 v lv Rv Gv bk) (hm : Mv wr w2 S) (hs : ∀ i, S i → i = bk) : S5 W w2 R G P1 u2 l K P2 v lv Rv Gv bk := by
  obtain ⟨p1, p2, p3, p4⟩ := h.pb
  refine ⟨hm.cellsRow h.t1 (fun e => ?_), hm.cellsRow h.t2 (fun e => ?_), own_moved h.o1 hm (fun b e e2 => ?_), own_moved h.o2 hm (fun b e e2 => ?_), h.lt, h.kb, ⟨p1, p2, p3, Nat.lt_of_lt_of_le p4 hm.size⟩, h.b1, h.b2, h.bel.trans (hm.toBelow h.bel.size (fun i hi => by rw [hs i hi]; exact p3))⟩
  · have := hs _ e; omega
  · have := hs _ e; omega
  · have := hs _ e2; have := h.b1 b e; omega
  · have := hs _ e2; have := h.b2 b e; omega
set_option maxRecDepth 100000 in
set_option maxHeartbeats 16000000 in
theorem walk3 (s : Su) (r : List Int) (l : List Sl) (R G z : Int) (a u : Value) (W : World) (hr : Rd W W.heap.size a r) (hl : SlR W W.heap.size u l) : Calls Tryz.prog 3 #[.agg (stC s a u R G z)] W fun e w' => e = .returned (.bool true) ∧ Below W.heap.size W w' := by
  have HR := hid hr
  have HL := hid hl
  obtain ⟨ra, cr, rfl, hrl, hrc, hrs⟩ := hr
  obtain ⟨ua, cu, rfl, hul, huc, _⟩ := hl
  clear hrs
  have H0 : Hid ((W.alloc (.cells (stC s (.slice ra r.length cr) (.slice ua l.length cu) R G z) 29)).heap[W.heap.size]? = some (.cells (stC s (.slice ra r.length cr) (.slice ua l.length cu) R G z) 29 (0, 0)) ∧ Below W.heap.size W (W.alloc (.cells (stC s (.slice ra r.length cr) (.slice ua l.length cu) R G z) 29))) := hid ⟨push_new W _ _ rfl, balloc _ _⟩
  obtain ⟨x0, x1, x2, x3, x4, x5, x6, x7, x8, x9⟩ := st_cells H0.out.1
  by_cases h1 : 1000 < r.length
  · have h1' : decide ((r.length : Int) > 1000) = true := decide_eq_true (by omega)
    go_enter Tryz.func3, Tryz.ntmps3
    go_wp2_with (fail)
    refine (lives_at _).mono ?_
    rintro e w9 ⟨rfl, hb⟩
    have HZ := hid (H0.out.2.trans (hb.mono H0.out.2.size))
    clear hb
    go_wp2_with (fail)
    go_ret
    exact ⟨rfl, HZ.out⟩
  have h1' : decide ((r.length : Int) > 1000) = false := decide_eq_false (by omega)
  by_cases h2 : 1000 < l.length
  · have h2' : decide ((l.length : Int) > 1000) = true := decide_eq_true (by omega)
    go_enter Tryz.func3, Tryz.ntmps3
    go_wp2_with (fail)
    refine (lives_at _).mono ?_
    rintro e w9 ⟨rfl, hb⟩
    have HZ := hid (H0.out.2.trans (hb.mono H0.out.2.size))
    clear hb
    go_wp2_with (fail)
    go_ret
    exact ⟨rfl, HZ.out⟩
  have h2' : decide ((l.length : Int) > 1000) = false := decide_eq_false (by omega)
  obtain ⟨C0, hC0⟩ : ∃ C : Array Value, C = c59 := ⟨_, rfl⟩
  have z59 : ∀ w, (zeroValue 59).run Tryz.prog w = .ok (.agg C0) w := by rw [hC0]; exact zero59
  have HC0 := hid hC0
  have n18 : C0.size = 18 := by rw [hC0]; rfl
  clear hC0
  go_enter Tryz.func3, Tryz.ntmps3
  go_wp2_with (fail)
  refine (twin_Int _ _ r (HR.out.keepW H0.out.2) (by omega)).mono ?_
  rintro e w1 ⟨t, rfl, ht, hb⟩
  have hsz : W.heap.size ≤ (W.alloc (.cells (stC s (.slice ra r.length cr) (.slice ua l.length cu) R G z) 29)).heap.size := H0.out.2.size
  have ht' := ht.low hsz
  obtain ⟨tg, tc, rfl, _⟩ := ht
  have H1 : Hid (S1 W w1 s (.slice ra r.length cr) (.slice ua l.length cu) R G z (.slice (some ⟨tg, 0, none⟩) r.length tc) r) := hid ⟨keep_row H0.out.1 hb, ht', H0.out.2.trans (hb.mono H0.out.2.size)⟩
  clear hb x0 x1 x2 x3 x4 x5 x6 x7 x8 x9 ht' hsz
  obtain ⟨x0, x1, x2, x3, x4, x5, x6, x7, x8, x9⟩ := st_cells H1.out.box
  go_wp2_with (fail)
  refine (twin_table _ _ l R G (HL.out.keepW H1.out.below) (by omega)).mono ?_
  rintro e w2 ⟨u2, rfl, ht, hb⟩
  have ht' := ht.low H1.out.below.size
  obtain ⟨ug, uc, rfl, _⟩ := ht
  obtain ⟨P1, hP1⟩ : ∃ P, P = w2.heap.size := ⟨_, rfl⟩
  have H2 : Hid (S2 W (w2.alloc (.cells (tbC (.slice (some ⟨ug, 0, none⟩) l.length uc) R G) 27)) s (.slice ra r.length cr) (.slice ua l.length cu) R G z (.slice (some ⟨tg, 0, none⟩) r.length tc) r P1 (.slice (some ⟨ug, 0, none⟩) l.length uc) l) := hid ⟨(H1.out.keep hb).keep (balloc _ _), push_new _ _ _ hP1.symm, tws_keep ht' (balloc _ _)⟩
  clear hb x0 x1 x2 x3 x4 x5 x6 x7 x8 x9 ht' H1
  obtain ⟨x0, x1, x2, x3, x4, x5, x6, x7, x8, x9⟩ := st_cells H2.out.box
  go_wp2_with (rw [← hP1])
  clear x0 x1 x2 x3 x4 x5 x6 x7 x8 x9
  generalize (w2.alloc (.cells (tbC (.slice (some ⟨ug, 0, none⟩) l.length uc) R G) 27)) = w3 at *
  clear hP1
  refine (make_at _ s _ r (rd_own (tw_own H2.out.tw) (by omega))).mono ?_
  rintro e w4 ⟨hA, hb⟩
  obtain ⟨q, v, lv, Rv, Gv, rfl, hans, hov⟩ := make_ans hA
  have hlv := hans.len
  have HA := hid hans
  clear hA hans
  obtain ⟨va, vc, rfl⟩ := own_form hov
  obtain ⟨K, hK⟩ : ∃ K, K = w3.heap.size := ⟨_, rfl⟩
  rw [← hK] at hov
  obtain ⟨P2, hP2⟩ : ∃ P, P = w4.heap.size := ⟨_, rfl⟩
  have H3 : Hid (S3 W (w4.alloc (.cells (tbC (.slice va lv.length vc) Rv Gv) 27)) s (.slice ra r.length cr) (.slice ua l.length cu) R G z (.slice (some ⟨tg, 0, none⟩) r.length tc) r P1 (.slice (some ⟨ug, 0, none⟩) l.length uc) l K P2 (.slice va lv.length vc) lv Rv Gv) := hid ⟨(H2.out.keep hb).keep (balloc _ _), push_new _ _ _ hP2.symm, own_carry hov (fun b e => (balloc _ _).block b (own_lo hov b e).2), (fun b e => by rw [hK]; exact (own_lo (tws_own H2.out.tws) b e).2), by rw [hK]; exact H2.out.below.size⟩
  clear hb H2 hov hK
  obtain ⟨x0, x1, x2, x3, x4, x5, x6, x7, x8, x9⟩ := st_cells H3.out.box
  go_wp2_with (rw [← hP2])
  clear x0 x1 x2 x3 x4 x5 x6 x7 x8 x9
  generalize (w4.alloc (.cells (tbC (.slice va lv.length vc) Rv Gv) 27)) = w5 at *
  clear hP2
  refine (rmake_at _ s _ r (HR.out.keepW H3.out.below)).mono ?_
  rintro e w6 ⟨hA, hb⟩
  obtain ⟨q2, f, lf, Rf, Gf, rfl, hans, hof⟩ := rmake_ans hA
  obtain ⟨e1, e2, e3, e4⟩ := HA.out.one hans
  subst e1 e2 e3 e4
  clear hA hans
  obtain ⟨fa, fc, rfl⟩ := own_form hof
  obtain ⟨P3, hP3⟩ : ∃ P, P = w6.heap.size := ⟨_, rfl⟩
  have hof' := ownsRow_mono hof H3.out.below.size
  have H4 : Hid (S4 W (w6.alloc (.cells (tbC (.slice fa lv.length fc) Rv Gv) 27)) s (.slice ra r.length cr) (.slice ua l.length cu) R G z (.slice (some ⟨tg, 0, none⟩) r.length tc) r P1 (.slice (some ⟨ug, 0, none⟩) l.length uc) l K P2 (.slice va lv.length vc) lv Rv Gv P3 (.slice fa lv.length fc)) := hid ⟨(H3.out.keep hb).keep (balloc _ _), push_new _ _ _ hP3.symm, own_carry hof' (fun b e => (balloc _ _).block b (own_lo hof' b e).2)⟩
  clear hb H3 hof hof' HA
  go_wp2_with (rw [← hP3])
  generalize (w6.alloc (.cells (tbC (.slice fa lv.length fc) Rv Gv) 27)) = w7 at *
  clear hP3
  have D0 := hid (H4.out.keep (Below.refl _ _).drew)
  clear H4
  refine wp_region_held_drew (S := fun V => V.cell? ⟨W.heap.size, 0, none⟩ = some (.int .i64 s.b) ∧ V.cell? ⟨W.heap.size, 1, none⟩ = some (.int .i64 s.n) ∧ V.cell? ⟨W.heap.size, 2, none⟩ = some (.int .i64 s.f) ∧ V.cell? ⟨W.heap.size, 3, none⟩ = some (.int .i64 s.d) ∧ V.cell? ⟨W.heap.size, 4, none⟩ = some (.int .i64 s.k) ∧ V.cell? ⟨W.heap.size, 5, none⟩ = some ((.slice ra r.length cr)) ∧ V.cell? ⟨W.heap.size, 6, none⟩ = some ((.slice ua l.length cu)) ∧ V.cell? ⟨W.heap.size, 7, none⟩ = some (.int .i64 R) ∧ V.cell? ⟨W.heap.size, 8, none⟩ = some (.int .i64 G) ∧ V.cell? ⟨W.heap.size, 9, none⟩ = some (.int .i64 z) ∧ V.cell? ⟨P1, 0, none⟩ = some ((.slice (some ⟨ug, 0, none⟩) l.length uc)) ∧ V.cell? ⟨P1, 1, none⟩ = some (.int .i64 R) ∧ V.cell? ⟨P1, 2, none⟩ = some (.int .i64 G) ∧ V.cell? ⟨P2, 0, none⟩ = some ((.slice va lv.length vc)) ∧ V.cell? ⟨P2, 1, none⟩ = some (.int .i64 Rv) ∧ V.cell? ⟨P2, 2, none⟩ = some (.int .i64 Gv) ∧ V.cell? ⟨P3, 0, none⟩ = some ((.slice fa lv.length fc)) ∧ V.cell? ⟨P3, 1, none⟩ = some (.int .i64 Rv) ∧ V.cell? ⟨P3, 2, none⟩ = some (.int .i64 Gv)) (by kernel_rfl) ?_ (fun hHeld => ?_)
  · exact D0.out.cells
  refine wpAnyH_take (i := 0) (oi := { dst := some 43, op := Go.Op.move (Go.Operand.tmp 6), type := 33, pos := _, after := #[], guard := none }) (v := ?_) rfl (by kernel_rfl) (by kernel_rfl) (by kernel_rfl) (fun _ _ _ h => h) (Or.inl ⟨by rfl, ?_⟩) (by assumption) ?_
  rotate_left
  · intro w hSw; (try dsimp only at hSw); go_simp <;> first | with_reducible rfl | (rw [if_neg (by first | omega | (simp only [ByteArray.size_append] at *; omega))])
  simp only [Act.put, List.setIfInBounds_toArray, List.set_cons_zero, List.set_cons_succ]
  refine wpAnyH_take (i := 1) (oi := { dst := some 44, op := Go.Op.move (Go.Operand.tmp 8), type := 33, pos := _, after := #[], guard := none }) (v := ?_) rfl (by kernel_rfl) (by kernel_rfl) (by kernel_rfl) (fun _ _ _ h => h) (Or.inl ⟨by rfl, ?_⟩) (by assumption) ?_
  rotate_left
  · intro w hSw; (try dsimp only at hSw); go_simp <;> first | with_reducible rfl | (rw [if_neg (by first | omega | (simp only [ByteArray.size_append] at *; omega))])
  simp only [Act.put, List.setIfInBounds_toArray, List.set_cons_zero, List.set_cons_succ]
  refine wpAnyH_take (i := 2) (oi := { dst := some 45, op := Go.Op.binOp Go.BinOp.neq 33 (Go.Operand.tmp 43) (Go.Operand.tmp 44) 33, type := 4, pos := _, after := #[{ on := 0, ground := Go.Ground.data }, { on := 1, ground := Go.Ground.data }], guard := none }) (v := ?_) rfl (by kernel_rfl) (by kernel_rfl) (by kernel_rfl) (fun _ _ _ h => h) (Or.inl ⟨by rfl, ?_⟩) (by assumption) ?_
  rotate_left
  · intro w hSw; (try dsimp only at hSw); go_simp <;> first | with_reducible rfl | (rw [if_neg (by first | omega | (simp only [ByteArray.size_append] at *; omega))])
  simp only [Act.put, List.setIfInBounds_toArray, List.set_cons_zero, List.set_cons_succ]
  refine wpAnyH_take (i := 3) (oi := { dst := some 46, op := Go.Op.move (Go.Operand.tmp 45), type := 4, pos := _, after := #[{ on := 2, ground := Go.Ground.data }], guard := none }) (v := ?_) rfl (by kernel_rfl) (by kernel_rfl) (by kernel_rfl) (fun _ _ _ h => h) (Or.inl ⟨by rfl, ?_⟩) (by assumption) ?_
  rotate_left
  · intro w hSw; (try dsimp only at hSw); go_simp <;> first | with_reducible rfl | (rw [if_neg (by first | omega | (simp only [ByteArray.size_append] at *; omega))])
  simp only [Act.put, List.setIfInBounds_toArray, List.set_cons_zero, List.set_cons_succ]
  refine wpAnyH_take (i := 4) (oi := { dst := some 47, op := Go.Op.load 27 (Go.Operand.tmp 5), type := 27, pos := _, after := #[{ on := 3, ground := Go.Ground.guard }], guard := some (3, false) }) (v := ?_) rfl (by kernel_rfl) (by kernel_rfl) (by kernel_rfl) (fun _ _ _ h => h) (Or.inl ⟨by rfl, ?_⟩) (by assumption) ?_
  rotate_left
  · intro w hSw; (try dsimp only at hSw); go_simp <;> first | with_reducible rfl | (rw [if_neg (by first | omega | (simp only [ByteArray.size_append] at *; omega))])
  simp only [Act.put, List.setIfInBounds_toArray, List.set_cons_zero, List.set_cons_succ]
  refine wpAnyH_take (i := 5) (oi := { dst := some 48, op := Go.Op.load 27 (Go.Operand.tmp 7), type := 27, pos := _, after := #[{ on := 3, ground := Go.Ground.guard }], guard := some (3, false) }) (v := ?_) rfl (by kernel_rfl) (by kernel_rfl) (by kernel_rfl) (fun _ _ _ h => h) (Or.inl ⟨by rfl, ?_⟩) (by assumption) ?_
  rotate_left
  · intro w hSw; (try dsimp only at hSw); go_simp <;> first | with_reducible rfl | (rw [if_neg (by first | omega | (simp only [ByteArray.size_append] at *; omega))])
  simp only [Act.put, List.setIfInBounds_toArray, List.set_cons_zero, List.set_cons_succ]
  refine wpAnyH_ready (rs := [6]) (by kernel_rfl) (by simp) ?_
  refine AllReadyH.cons (o := { dst := some 49, op := Go.Op.call { callee := Go.Callee.value (Go.Operand.func 9), args := #[Go.Operand.tmp 47, Go.Operand.tmp 48], argTypes := #[27, 27] }, type := 4, pos := _, after := #[{ on := 4, ground := Go.Ground.data }, { on := 5, ground := Go.Ground.data }, { on := 3, ground := Go.Ground.chain }, { on := 3, ground := Go.Ground.guard }], guard := some (3, false) }) rfl (fun K hK => ?_) AllReadyH.nil
  go_simp
  refine (same_table _ _ _ lv Rv Gv (SlR.of_own D0.out.ov (by omega)) (SlR.of_own D0.out.ofr (by omega))).mono ?_
  rintro e wa ⟨rfl, hb⟩
  have D1 := hid (D0.out.keep hb)
  clear hb D0
  go_wp2_with fail
  refine hK.out _ _ ?_ (fun hHeld1 => ?_)
  · exact D1.out.cells
  clear hK K
  refine wpAnyH_take (i := 7) (oi := { dst := some 50, op := Go.Op.unOp Go.UnOp.not 4 (Go.Operand.tmp 49), type := 4, pos := _, after := #[{ on := 6, ground := Go.Ground.data }, { on := 3, ground := Go.Ground.guard }], guard := some (3, false) }) (v := ?_) rfl (by kernel_rfl) (by kernel_rfl) (by kernel_rfl) (fun _ _ _ h => h) (Or.inl ⟨by rfl, ?_⟩) (by assumption) ?_
  rotate_left
  · intro w hSw; (try dsimp only at hSw); go_simp <;> first | with_reducible rfl | (rw [if_neg (by first | omega | (simp only [ByteArray.size_append] at *; omega))])
  simp only [Act.put, List.setIfInBounds_toArray, List.set_cons_zero, List.set_cons_succ]
  refine wpAnyH_take (i := 8) (oi := { dst := some 51, op := Go.Op.pick (Go.Operand.tmp 46) (Go.Operand.const (Go.Value.bool true)) (Go.Operand.tmp 50), type := 4, pos := _, after := #[{ on := 3, ground := Go.Ground.data }, { on := 7, ground := Go.Ground.data }], guard := none }) (v := ?_) rfl (by kernel_rfl) (by kernel_rfl) (by kernel_rfl) (fun _ _ _ h => h) (Or.inl ⟨by rfl, ?_⟩) (by assumption) ?_
  rotate_left
  · intro w hSw; (try dsimp only at hSw); go_simp <;> first | with_reducible rfl | (rw [if_neg (by first | omega | (simp only [ByteArray.size_append] at *; omega))])
  simp only [Act.put, List.setIfInBounds_toArray, List.set_cons_zero, List.set_cons_succ]
  refine wpAnyH_take (i := 9) (oi := { dst := some 52, op := Go.Op.move (Go.Operand.tmp 51), type := 4, pos := _, after := #[{ on := 8, ground := Go.Ground.data }, { on := 6, ground := Go.Ground.chain }], guard := none }) (v := ?_) rfl (by kernel_rfl) (by kernel_rfl) (by kernel_rfl) (fun _ _ _ h => h) (Or.inl ⟨by rfl, ?_⟩) (by assumption) ?_
  rotate_left
  · intro w hSw; (try dsimp only at hSw); go_simp <;> first | with_reducible rfl | (rw [if_neg (by first | omega | (simp only [ByteArray.size_append] at *; omega))])
  simp only [Act.put, List.setIfInBounds_toArray, List.set_cons_zero, List.set_cons_succ]
  refine wpAnyH_take (i := 10) (oi := { dst := some 53, op := Go.Op.fieldAddr 29 (Go.Operand.tmp 1) 0, type := 0, pos := _, after := #[{ on := 9, ground := Go.Ground.guard }], guard := some (9, false) }) (v := ?_) rfl (by kernel_rfl) (by kernel_rfl) (by kernel_rfl) (fun _ _ _ h => h) (Or.inl ⟨by rfl, ?_⟩) (by assumption) ?_
  rotate_left
  · intro w hSw; (try dsimp only at hSw); go_simp <;> first | with_reducible rfl | (rw [if_neg (by first | omega | (simp only [ByteArray.size_append] at *; omega))])
  simp only [Act.put, List.setIfInBounds_toArray, List.set_cons_zero, List.set_cons_succ]
  refine wpAnyH_take (i := 11) (oi := { dst := some 54, op := Go.Op.load 23 (Go.Operand.tmp 53), type := 23, pos := _, after := #[{ on := 10, ground := Go.Ground.data }, { on := 9, ground := Go.Ground.guard }], guard := some (9, false) }) (v := ?_) rfl (by kernel_rfl) (by kernel_rfl) (by kernel_rfl) (fun _ _ _ h => h) (Or.inl ⟨by rfl, ?_⟩) (by assumption) ?_
  rotate_left
  · intro w hSw; (try dsimp only at hSw); go_simp <;> first | with_reducible rfl | (rw [if_neg (by first | omega | (simp only [ByteArray.size_append] at *; omega))])
  simp only [Act.put, List.setIfInBounds_toArray, List.set_cons_zero, List.set_cons_succ]
  refine wpAnyH_take (i := 13) (oi := { dst := some 56, op := Go.Op.fieldAddr 29 (Go.Operand.tmp 1) 0, type := 0, pos := _, after := #[{ on := 9, ground := Go.Ground.guard }], guard := some (9, false) }) (v := ?_) rfl (by kernel_rfl) (by kernel_rfl) (by kernel_rfl) (fun _ _ _ h => h) (Or.inl ⟨by rfl, ?_⟩) (by assumption) ?_
  rotate_left
  · intro w hSw; (try dsimp only at hSw); go_simp <;> first | with_reducible rfl | (rw [if_neg (by first | omega | (simp only [ByteArray.size_append] at *; omega))])
  simp only [Act.put, List.setIfInBounds_toArray, List.set_cons_zero, List.set_cons_succ]
  refine wpAnyH_take (i := 14) (oi := { dst := some 57, op := Go.Op.load 23 (Go.Operand.tmp 56), type := 23, pos := _, after := #[{ on := 13, ground := Go.Ground.data }, { on := 9, ground := Go.Ground.guard }], guard := some (9, false) }) (v := ?_) rfl (by kernel_rfl) (by kernel_rfl) (by kernel_rfl) (fun _ _ _ h => h) (Or.inl ⟨by rfl, ?_⟩) (by assumption) ?_
  rotate_left
  · intro w hSw; (try dsimp only at hSw); go_simp <;> first | with_reducible rfl | (rw [if_neg (by first | omega | (simp only [ByteArray.size_append] at *; omega))])
  simp only [Act.put, List.setIfInBounds_toArray, List.set_cons_zero, List.set_cons_succ]
  refine wpAnyH_ready (rs := [12]) (by kernel_rfl) (by simp) ?_
  refine AllReadyH.cons (o := { dst := some 55, op := Go.Op.call { callee := Go.Callee.value (Go.Operand.func 10), args := #[Go.Operand.tmp 54], argTypes := #[23] }, type := 4, pos := _, after := #[{ on := 11, ground := Go.Ground.data }, { on := 9, ground := Go.Ground.chain }, { on := 9, ground := Go.Ground.guard }], guard := some (9, false) }) rfl (fun K hK => ?_) AllReadyH.nil
  go_simp
  refine (check_at _ s).mono ?_
  rintro e wb ⟨rfl, hb⟩
  have D2 := hid (D1.out.keep hb)
  clear hb D1
  go_wp2_with fail
  refine hK.out _ _ ?_ (fun hHeld2 => ?_)
  · exact D2.out.cells
  clear hK K
  refine wpAnyH_ready (rs := [15]) (by kernel_rfl) (by simp) ?_
  refine AllReadyH.cons (o := { dst := some 58, op := Go.Op.call { callee := Go.Callee.value (Go.Operand.func 11), args := #[Go.Operand.tmp 57], argTypes := #[23] }, type := 4, pos := _, after := #[{ on := 14, ground := Go.Ground.data }, { on := 12, ground := Go.Ground.chain }, { on := 9, ground := Go.Ground.guard }], guard := some (9, false) }) rfl (fun K hK => ?_) AllReadyH.nil
  go_simp
  refine (rcheck_at _ s).mono ?_
  rintro e wc ⟨rfl, hb⟩
  have D3 := hid (D2.out.keep hb)
  clear hb D2
  go_wp2_with fail
  refine hK.out _ _ ?_ (fun hHeld3 => ?_)
  · exact D3.out.cells
  clear hK K
  refine wpAnyH_take (i := 16) (oi := { dst := some 59, op := Go.Op.binOp Go.BinOp.neq 4 (Go.Operand.tmp 55) (Go.Operand.tmp 58) 4, type := 4, pos := _, after := #[{ on := 12, ground := Go.Ground.data }, { on := 15, ground := Go.Ground.data }, { on := 9, ground := Go.Ground.guard }], guard := some (9, false) }) (v := ?_) rfl (by kernel_rfl) (by kernel_rfl) (by kernel_rfl) (fun _ _ _ h => h) (Or.inl ⟨by rfl, ?_⟩) (by assumption) ?_
  rotate_left
  · intro w hSw; (try dsimp only at hSw); go_simp <;> first | with_reducible rfl | (rw [if_neg (by first | omega | (simp only [ByteArray.size_append] at *; omega))])
  simp only [Act.put, List.setIfInBounds_toArray, List.set_cons_zero, List.set_cons_succ]
  refine wpAnyH_take (i := 17) (oi := { dst := some 60, op := Go.Op.pick (Go.Operand.tmp 52) (Go.Operand.const (Go.Value.bool true)) (Go.Operand.tmp 59), type := 4, pos := _, after := #[{ on := 9, ground := Go.Ground.data }, { on := 16, ground := Go.Ground.data }], guard := none }) (v := ?_) rfl (by kernel_rfl) (by kernel_rfl) (by kernel_rfl) (fun _ _ _ h => h) (Or.inl ⟨by rfl, ?_⟩) (by assumption) ?_
  rotate_left
  · intro w hSw; (try dsimp only at hSw); go_simp <;> first | with_reducible rfl | (rw [if_neg (by first | omega | (simp only [ByteArray.size_append] at *; omega))])
  simp only [Act.put, List.setIfInBounds_toArray, List.set_cons_zero, List.set_cons_succ]
  refine wpAnyH_take (i := 18) (oi := { dst := some 61, op := Go.Op.move (Go.Operand.tmp 60), type := 4, pos := _, after := #[{ on := 17, ground := Go.Ground.data }, { on := 15, ground := Go.Ground.chain }], guard := none }) (v := ?_) rfl (by kernel_rfl) (by kernel_rfl) (by kernel_rfl) (fun _ _ _ h => h) (Or.inl ⟨by rfl, ?_⟩) (by assumption) ?_
  rotate_left
  · intro w hSw; (try dsimp only at hSw); go_simp <;> first | with_reducible rfl | (rw [if_neg (by first | omega | (simp only [ByteArray.size_append] at *; omega))])
  simp only [Act.put, List.setIfInBounds_toArray, List.set_cons_zero, List.set_cons_succ]
  refine wpAnyH_take (i := 19) (oi := { dst := some 62, op := Go.Op.fieldAddr 29 (Go.Operand.tmp 1) 0, type := 0, pos := _, after := #[{ on := 18, ground := Go.Ground.guard }], guard := some (18, false) }) (v := ?_) rfl (by kernel_rfl) (by kernel_rfl) (by kernel_rfl) (fun _ _ _ h => h) (Or.inl ⟨by rfl, ?_⟩) (by assumption) ?_
  rotate_left
  · intro w hSw; (try dsimp only at hSw); go_simp <;> first | with_reducible rfl | (rw [if_neg (by first | omega | (simp only [ByteArray.size_append] at *; omega))])
  simp only [Act.put, List.setIfInBounds_toArray, List.set_cons_zero, List.set_cons_succ]
  refine wpAnyH_take (i := 20) (oi := { dst := some 63, op := Go.Op.load 23 (Go.Operand.tmp 62), type := 23, pos := _, after := #[{ on := 19, ground := Go.Ground.data }, { on := 18, ground := Go.Ground.guard }], guard := some (18, false) }) (v := ?_) rfl (by kernel_rfl) (by kernel_rfl) (by kernel_rfl) (fun _ _ _ h => h) (Or.inl ⟨by rfl, ?_⟩) (by assumption) ?_
  rotate_left
  · intro w hSw; (try dsimp only at hSw); go_simp <;> first | with_reducible rfl | (rw [if_neg (by first | omega | (simp only [ByteArray.size_append] at *; omega))])
  simp only [Act.put, List.setIfInBounds_toArray, List.set_cons_zero, List.set_cons_succ]
  refine wpAnyH_take (i := 21) (oi := { dst := some 64, op := Go.Op.fieldAddr 29 (Go.Operand.tmp 1) 3, type := 0, pos := _, after := #[{ on := 18, ground := Go.Ground.guard }], guard := some (18, false) }) (v := ?_) rfl (by kernel_rfl) (by kernel_rfl) (by kernel_rfl) (fun _ _ _ h => h) (Or.inl ⟨by rfl, ?_⟩) (by assumption) ?_
  rotate_left
  · intro w hSw; (try dsimp only at hSw); go_simp <;> first | with_reducible rfl | (rw [if_neg (by first | omega | (simp only [ByteArray.size_append] at *; omega))])
  simp only [Act.put, List.setIfInBounds_toArray, List.set_cons_zero, List.set_cons_succ]
  refine wpAnyH_take (i := 22) (oi := { dst := some 65, op := Go.Op.load 3 (Go.Operand.tmp 64), type := 3, pos := _, after := #[{ on := 21, ground := Go.Ground.data }, { on := 18, ground := Go.Ground.guard }], guard := some (18, false) }) (v := ?_) rfl (by kernel_rfl) (by kernel_rfl) (by kernel_rfl) (fun _ _ _ h => h) (Or.inl ⟨by rfl, ?_⟩) (by assumption) ?_
  rotate_left
  · intro w hSw; (try dsimp only at hSw); go_simp <;> first | with_reducible rfl | (rw [if_neg (by first | omega | (simp only [ByteArray.size_append] at *; omega))])
  simp only [Act.put, List.setIfInBounds_toArray, List.set_cons_zero, List.set_cons_succ]
  refine wpAnyH_take (i := 24) (oi := { dst := some 67, op := Go.Op.fieldAddr 29 (Go.Operand.tmp 1) 0, type := 0, pos := _, after := #[{ on := 18, ground := Go.Ground.guard }], guard := some (18, false) }) (v := ?_) rfl (by kernel_rfl) (by kernel_rfl) (by kernel_rfl) (fun _ _ _ h => h) (Or.inl ⟨by rfl, ?_⟩) (by assumption) ?_
  rotate_left
  · intro w hSw; (try dsimp only at hSw); go_simp <;> first | with_reducible rfl | (rw [if_neg (by first | omega | (simp only [ByteArray.size_append] at *; omega))])
  simp only [Act.put, List.setIfInBounds_toArray, List.set_cons_zero, List.set_cons_succ]
  refine wpAnyH_take (i := 25) (oi := { dst := some 68, op := Go.Op.load 23 (Go.Operand.tmp 67), type := 23, pos := _, after := #[{ on := 24, ground := Go.Ground.data }, { on := 18, ground := Go.Ground.guard }], guard := some (18, false) }) (v := ?_) rfl (by kernel_rfl) (by kernel_rfl) (by kernel_rfl) (fun _ _ _ h => h) (Or.inl ⟨by rfl, ?_⟩) (by assumption) ?_
  rotate_left
  · intro w hSw; (try dsimp only at hSw); go_simp <;> first | with_reducible rfl | (rw [if_neg (by first | omega | (simp only [ByteArray.size_append] at *; omega))])
  simp only [Act.put, List.setIfInBounds_toArray, List.set_cons_zero, List.set_cons_succ]
  refine wpAnyH_take (i := 26) (oi := { dst := some 69, op := Go.Op.fieldAddr 29 (Go.Operand.tmp 1) 3, type := 0, pos := _, after := #[{ on := 18, ground := Go.Ground.guard }], guard := some (18, false) }) (v := ?_) rfl (by kernel_rfl) (by kernel_rfl) (by kernel_rfl) (fun _ _ _ h => h) (Or.inl ⟨by rfl, ?_⟩) (by assumption) ?_
  rotate_left
  · intro w hSw; (try dsimp only at hSw); go_simp <;> first | with_reducible rfl | (rw [if_neg (by first | omega | (simp only [ByteArray.size_append] at *; omega))])
  simp only [Act.put, List.setIfInBounds_toArray, List.set_cons_zero, List.set_cons_succ]
  refine wpAnyH_take (i := 27) (oi := { dst := some 70, op := Go.Op.load 3 (Go.Operand.tmp 69), type := 3, pos := _, after := #[{ on := 26, ground := Go.Ground.data }, { on := 18, ground := Go.Ground.guard }], guard := some (18, false) }) (v := ?_) rfl (by kernel_rfl) (by kernel_rfl) (by kernel_rfl) (fun _ _ _ h => h) (Or.inl ⟨by rfl, ?_⟩) (by assumption) ?_
  rotate_left
  · intro w hSw; (try dsimp only at hSw); go_simp <;> first | with_reducible rfl | (rw [if_neg (by first | omega | (simp only [ByteArray.size_append] at *; omega))])
  simp only [Act.put, List.setIfInBounds_toArray, List.set_cons_zero, List.set_cons_succ]
  refine wpAnyH_ready (rs := [23]) (by kernel_rfl) (by simp) ?_
  refine AllReadyH.cons (o := { dst := some 66, op := Go.Op.call { callee := Go.Callee.value (Go.Operand.func 12), args := #[Go.Operand.tmp 63, Go.Operand.tmp 65], argTypes := #[23, 3] }, type := 3, pos := _, after := #[{ on := 20, ground := Go.Ground.data }, { on := 22, ground := Go.Ground.data }, { on := 18, ground := Go.Ground.chain }, { on := 18, ground := Go.Ground.guard }], guard := some (18, false) }) rfl (fun K hK => ?_) AllReadyH.nil
  go_simp
  refine (skew_at _ s z).mono ?_
  rintro e wd ⟨rfl, hb⟩
  have D4 := hid (D3.out.keep hb)
  clear hb D3
  go_wp2_with fail
  refine hK.out _ _ ?_ (fun hHeld4 => ?_)
  · exact D4.out.cells
  clear hK K
  refine wpAnyH_ready (rs := [28]) (by kernel_rfl) (by simp) ?_
  refine AllReadyH.cons (o := { dst := some 71, op := Go.Op.call { callee := Go.Callee.value (Go.Operand.func 13), args := #[Go.Operand.tmp 68, Go.Operand.tmp 70], argTypes := #[23, 3] }, type := 3, pos := _, after := #[{ on := 25, ground := Go.Ground.data }, { on := 27, ground := Go.Ground.data }, { on := 23, ground := Go.Ground.chain }, { on := 18, ground := Go.Ground.guard }], guard := some (18, false) }) rfl (fun K hK => ?_) AllReadyH.nil
  go_simp
  refine (rskew_at _ s z).mono ?_
  rintro e we ⟨rfl, hb⟩
  have D5 := hid (D4.out.keep hb)
  clear hb D4
  go_wp2_with fail
  refine hK.out _ _ ?_ (fun hHeld5 => ?_)
  · exact D5.out.cells
  clear hK K
  refine wpAnyH_take (i := 29) (oi := { dst := some 72, op := Go.Op.binOp Go.BinOp.neq 3 (Go.Operand.tmp 66) (Go.Operand.tmp 71) 3, type := 4, pos := _, after := #[{ on := 23, ground := Go.Ground.data }, { on := 28, ground := Go.Ground.data }, { on := 18, ground := Go.Ground.guard }], guard := some (18, false) }) (v := ?_) rfl (by kernel_rfl) (by kernel_rfl) (by kernel_rfl) (fun _ _ _ h => h) (Or.inl ⟨by rfl, ?_⟩) (by assumption) ?_
  rotate_left
  · intro w hSw; (try dsimp only at hSw); go_simp <;> first | with_reducible rfl | (rw [if_neg (by first | omega | (simp only [ByteArray.size_append] at *; omega))])
  simp only [Act.put, List.setIfInBounds_toArray, List.set_cons_zero, List.set_cons_succ]
  refine wpAnyH_take (i := 30) (oi := { dst := some 73, op := Go.Op.pick (Go.Operand.tmp 61) (Go.Operand.const (Go.Value.bool true)) (Go.Operand.tmp 72), type := 4, pos := _, after := #[{ on := 18, ground := Go.Ground.data }, { on := 29, ground := Go.Ground.data }], guard := none }) (v := ?_) rfl (by kernel_rfl) (by kernel_rfl) (by kernel_rfl) (fun _ _ _ h => h) (Or.inl ⟨by rfl, ?_⟩) (by assumption) ?_
  rotate_left
  · intro w hSw; (try dsimp only at hSw); go_simp <;> first | with_reducible rfl | (rw [if_neg (by first | omega | (simp only [ByteArray.size_append] at *; omega))])
  simp only [Act.put, List.setIfInBounds_toArray, List.set_cons_zero, List.set_cons_succ]
  refine wpAnyH_take (i := 31) (oi := { dst := some 74, op := Go.Op.move (Go.Operand.tmp 73), type := 4, pos := _, after := #[{ on := 30, ground := Go.Ground.data }, { on := 28, ground := Go.Ground.chain }], guard := none }) (v := ?_) rfl (by kernel_rfl) (by kernel_rfl) (by kernel_rfl) (fun _ _ _ h => h) (Or.inl ⟨by rfl, ?_⟩) (by assumption) ?_
  rotate_left
  · intro w hSw; (try dsimp only at hSw); go_simp <;> first | with_reducible rfl | (rw [if_neg (by first | omega | (simp only [ByteArray.size_append] at *; omega))])
  simp only [Act.put, List.setIfInBounds_toArray, List.set_cons_zero, List.set_cons_succ]
  refine wpAnyH_take (i := 32) (oi := { dst := some 75, op := Go.Op.fieldAddr 29 (Go.Operand.tmp 1) 0, type := 0, pos := _, after := #[{ on := 31, ground := Go.Ground.guard }], guard := some (31, false) }) (v := ?_) rfl (by kernel_rfl) (by kernel_rfl) (by kernel_rfl) (fun _ _ _ h => h) (Or.inl ⟨by rfl, ?_⟩) (by assumption) ?_
  rotate_left
  · intro w hSw; (try dsimp only at hSw); go_simp <;> first | with_reducible rfl | (rw [if_neg (by first | omega | (simp only [ByteArray.size_append] at *; omega))])
  simp only [Act.put, List.setIfInBounds_toArray, List.set_cons_zero, List.set_cons_succ]
  refine wpAnyH_take (i := 33) (oi := { dst := some 76, op := Go.Op.load 23 (Go.Operand.tmp 75), type := 23, pos := _, after := #[{ on := 32, ground := Go.Ground.data }, { on := 31, ground := Go.Ground.guard }], guard := some (31, false) }) (v := ?_) rfl (by kernel_rfl) (by kernel_rfl) (by kernel_rfl) (fun _ _ _ h => h) (Or.inl ⟨by rfl, ?_⟩) (by assumption) ?_
  rotate_left
  · intro w hSw; (try dsimp only at hSw); go_simp <;> first | with_reducible rfl | (rw [if_neg (by first | omega | (simp only [ByteArray.size_append] at *; omega))])
  simp only [Act.put, List.setIfInBounds_toArray, List.set_cons_zero, List.set_cons_succ]
  refine wpAnyH_take (i := 34) (oi := { dst := some 77, op := Go.Op.move (Go.Operand.tmp 3), type := 24, pos := _, after := #[{ on := 31, ground := Go.Ground.guard }], guard := some (31, false) }) (v := ?_) rfl (by kernel_rfl) (by kernel_rfl) (by kernel_rfl) (fun _ _ _ h => h) (Or.inl ⟨by rfl, ?_⟩) (by assumption) ?_
  rotate_left
  · intro w hSw; (try dsimp only at hSw); go_simp <;> first | with_reducible rfl | (rw [if_neg (by first | omega | (simp only [ByteArray.size_append] at *; omega))])
  simp only [Act.put, List.setIfInBounds_toArray, List.set_cons_zero, List.set_cons_succ]
  refine wpAnyH_take (i := 35) (oi := { dst := some 78, op := Go.Op.load 27 (Go.Operand.tmp 4), type := 27, pos := _, after := #[{ on := 31, ground := Go.Ground.guard }], guard := some (31, false) }) (v := ?_) rfl (by kernel_rfl) (by kernel_rfl) (by kernel_rfl) (fun _ _ _ h => h) (Or.inl ⟨by rfl, ?_⟩) (by assumption) ?_
  rotate_left
  · intro w hSw; (try dsimp only at hSw); go_simp <;> first | with_reducible rfl | (rw [if_neg (by first | omega | (simp only [ByteArray.size_append] at *; omega))])
  simp only [Act.put, List.setIfInBounds_toArray, List.set_cons_zero, List.set_cons_succ]
  refine wpAnyH_take (i := 37) (oi := { dst := some 80, op := Go.Op.fieldAddr 29 (Go.Operand.tmp 1) 0, type := 0, pos := _, after := #[{ on := 31, ground := Go.Ground.guard }], guard := some (31, false) }) (v := ?_) rfl (by kernel_rfl) (by kernel_rfl) (by kernel_rfl) (fun _ _ _ h => h) (Or.inl ⟨by rfl, ?_⟩) (by assumption) ?_
  rotate_left
  · intro w hSw; (try dsimp only at hSw); go_simp <;> first | with_reducible rfl | (rw [if_neg (by first | omega | (simp only [ByteArray.size_append] at *; omega))])
  simp only [Act.put, List.setIfInBounds_toArray, List.set_cons_zero, List.set_cons_succ]
  refine wpAnyH_take (i := 38) (oi := { dst := some 81, op := Go.Op.load 23 (Go.Operand.tmp 80), type := 23, pos := _, after := #[{ on := 37, ground := Go.Ground.data }, { on := 31, ground := Go.Ground.guard }], guard := some (31, false) }) (v := ?_) rfl (by kernel_rfl) (by kernel_rfl) (by kernel_rfl) (fun _ _ _ h => h) (Or.inl ⟨by rfl, ?_⟩) (by assumption) ?_
  rotate_left
  · intro w hSw; (try dsimp only at hSw); go_simp <;> first | with_reducible rfl | (rw [if_neg (by first | omega | (simp only [ByteArray.size_append] at *; omega))])
  simp only [Act.put, List.setIfInBounds_toArray, List.set_cons_zero, List.set_cons_succ]
  refine wpAnyH_take (i := 39) (oi := { dst := some 82, op := Go.Op.fieldAddr 29 (Go.Operand.tmp 1) 1, type := 0, pos := _, after := #[{ on := 31, ground := Go.Ground.guard }], guard := some (31, false) }) (v := ?_) rfl (by kernel_rfl) (by kernel_rfl) (by kernel_rfl) (fun _ _ _ h => h) (Or.inl ⟨by rfl, ?_⟩) (by assumption) ?_
  rotate_left
  · intro w hSw; (try dsimp only at hSw); go_simp <;> first | with_reducible rfl | (rw [if_neg (by first | omega | (simp only [ByteArray.size_append] at *; omega))])
  simp only [Act.put, List.setIfInBounds_toArray, List.set_cons_zero, List.set_cons_succ]
  refine wpAnyH_take (i := 40) (oi := { dst := some 83, op := Go.Op.load 24 (Go.Operand.tmp 82), type := 24, pos := _, after := #[{ on := 39, ground := Go.Ground.data }, { on := 31, ground := Go.Ground.guard }], guard := some (31, false) }) (v := ?_) rfl (by kernel_rfl) (by kernel_rfl) (by kernel_rfl) (fun _ _ _ h => h) (Or.inl ⟨by rfl, ?_⟩) (by assumption) ?_
  rotate_left
  · intro w hSw; (try dsimp only at hSw); go_simp <;> first | with_reducible rfl | (rw [if_neg (by first | omega | (simp only [ByteArray.size_append] at *; omega))])
  simp only [Act.put, List.setIfInBounds_toArray, List.set_cons_zero, List.set_cons_succ]
  refine wpAnyH_take (i := 41) (oi := { dst := some 84, op := Go.Op.fieldAddr 29 (Go.Operand.tmp 1) 2, type := 0, pos := _, after := #[{ on := 31, ground := Go.Ground.guard }], guard := some (31, false) }) (v := ?_) rfl (by kernel_rfl) (by kernel_rfl) (by kernel_rfl) (fun _ _ _ h => h) (Or.inl ⟨by rfl, ?_⟩) (by assumption) ?_
  rotate_left
  · intro w hSw; (try dsimp only at hSw); go_simp <;> first | with_reducible rfl | (rw [if_neg (by first | omega | (simp only [ByteArray.size_append] at *; omega))])
  simp only [Act.put, List.setIfInBounds_toArray, List.set_cons_zero, List.set_cons_succ]
  refine wpAnyH_take (i := 42) (oi := { dst := some 85, op := Go.Op.load 27 (Go.Operand.tmp 84), type := 27, pos := _, after := #[{ on := 41, ground := Go.Ground.data }, { on := 31, ground := Go.Ground.guard }], guard := some (31, false) }) (v := ?_) rfl (by kernel_rfl) (by kernel_rfl) (by kernel_rfl) (fun _ _ _ h => h) (Or.inl ⟨by rfl, ?_⟩) (by assumption) ?_
  rotate_left
  · intro w hSw; (try dsimp only at hSw); go_simp <;> first | with_reducible rfl | (rw [if_neg (by first | omega | (simp only [ByteArray.size_append] at *; omega))])
  simp only [Act.put, List.setIfInBounds_toArray, List.set_cons_zero, List.set_cons_succ]
  refine wpAnyH_ready (rs := [36]) (by kernel_rfl) (by simp) ?_
  refine AllReadyH.cons (o := { dst := some 79, op := Go.Op.call { callee := Go.Callee.value (Go.Operand.func 14), args := #[Go.Operand.tmp 76, Go.Operand.tmp 77, Go.Operand.tmp 78], argTypes := #[23, 24, 27] }, type := 4, pos := _, after := #[{ on := 33, ground := Go.Ground.data }, { on := 34, ground := Go.Ground.data }, { on := 35, ground := Go.Ground.data }, { on := 31, ground := Go.Ground.chain }, { on := 31, ground := Go.Ground.guard }], guard := some (31, false) }) rfl (fun K hK => ?_) AllReadyH.nil
  go_simp
  refine (fits_at _ s _ _ r l R G (rd_own (tw_own D5.out.tw) (by omega)) (SlR.of_own (tws_own D5.out.tws) (by omega))).mono ?_
  rintro e wf ⟨⟨y, rfl, hy⟩, hb⟩
  have HY := hid hy
  clear hy
  have D6 := hid (D5.out.keep hb)
  clear hb D5
  go_wp2_with fail
  refine hK.out _ _ ?_ (fun hHeld6 => ?_)
  · exact D6.out.cells
  clear hK K
  refine wpAnyH_ready (rs := [43]) (by kernel_rfl) (by simp) ?_
  refine AllReadyH.cons (o := { dst := some 86, op := Go.Op.call { callee := Go.Callee.value (Go.Operand.func 15), args := #[Go.Operand.tmp 81, Go.Operand.tmp 83, Go.Operand.tmp 85], argTypes := #[23, 24, 27] }, type := 4, pos := _, after := #[{ on := 38, ground := Go.Ground.data }, { on := 40, ground := Go.Ground.data }, { on := 42, ground := Go.Ground.data }, { on := 36, ground := Go.Ground.chain }, { on := 31, ground := Go.Ground.guard }], guard := some (31, false) }) rfl (fun K hK => ?_) AllReadyH.nil
  go_simp
  refine (rfits_at _ s _ _ r l R G (HR.out.keepW D6.out.below) (HL.out.keepW D6.out.below)).mono ?_
  rintro e wg ⟨⟨y2, rfl, hy2⟩, hb⟩
  obtain rfl : y = y2 := Bool.eq_iff_iff.2 (HY.out.trans hy2.symm)
  clear hy2 HY
  have D7 := hid (D6.out.keep hb)
  clear hb D6
  go_wp2_with fail
  refine hK.out _ _ ?_ (fun hHeld7 => ?_)
  · exact D7.out.cells
  clear hK K
  refine wpAnyH_take (i := 44) (oi := { dst := some 87, op := Go.Op.binOp Go.BinOp.neq 4 (Go.Operand.tmp 79) (Go.Operand.tmp 86) 4, type := 4, pos := _, after := #[{ on := 36, ground := Go.Ground.data }, { on := 43, ground := Go.Ground.data }, { on := 31, ground := Go.Ground.guard }], guard := some (31, false) }) (v := ?_) rfl (by kernel_rfl) (by kernel_rfl) (by kernel_rfl) (fun _ _ _ h => h) (Or.inl ⟨by rfl, ?_⟩) (by assumption) ?_
  rotate_left
  · intro w hSw; (try dsimp only at hSw); go_simp <;> first | with_reducible rfl | (rw [if_neg (by first | omega | (simp only [ByteArray.size_append] at *; omega))])
  simp only [Act.put, List.setIfInBounds_toArray, List.set_cons_zero, List.set_cons_succ]
  refine wpAnyH_take (i := 45) (oi := { dst := some 88, op := Go.Op.pick (Go.Operand.tmp 74) (Go.Operand.const (Go.Value.bool true)) (Go.Operand.tmp 87), type := 4, pos := _, after := #[{ on := 31, ground := Go.Ground.data }, { on := 44, ground := Go.Ground.data }], guard := none }) (v := ?_) rfl (by kernel_rfl) (by kernel_rfl) (by kernel_rfl) (fun _ _ _ h => h) (Or.inl ⟨by rfl, ?_⟩) (by assumption) ?_
  rotate_left
  · intro w hSw; (try dsimp only at hSw); go_simp <;> first | with_reducible rfl | (rw [if_neg (by first | omega | (simp only [ByteArray.size_append] at *; omega))])
  simp only [Act.put, List.setIfInBounds_toArray, List.set_cons_zero, List.set_cons_succ]
  refine wpAnyH_take (i := 46) (oi := { dst := some 89, op := Go.Op.move (Go.Operand.tmp 88), type := 4, pos := _, after := #[{ on := 45, ground := Go.Ground.data }, { on := 43, ground := Go.Ground.chain }], guard := none }) (v := ?_) rfl (by kernel_rfl) (by kernel_rfl) (by kernel_rfl) (fun _ _ _ h => h) (Or.inl ⟨by rfl, ?_⟩) (by assumption) ?_
  rotate_left
  · intro w hSw; (try dsimp only at hSw); go_simp <;> first | with_reducible rfl | (rw [if_neg (by first | omega | (simp only [ByteArray.size_append] at *; omega))])
  simp only [Act.put, List.setIfInBounds_toArray, List.set_cons_zero, List.set_cons_succ]
  refine wpAnyH_take (i := 47) (oi := { dst := some 90, op := Go.Op.move (Go.Operand.tmp 3), type := 24, pos := _, after := #[{ on := 46, ground := Go.Ground.guard }], guard := some (46, false) }) (v := ?_) rfl (by kernel_rfl) (by kernel_rfl) (by kernel_rfl) (fun _ _ _ h => h) (Or.inl ⟨by rfl, ?_⟩) (by assumption) ?_
  rotate_left
  · intro w hSw; (try dsimp only at hSw); go_simp <;> first | with_reducible rfl | (rw [if_neg (by first | omega | (simp only [ByteArray.size_append] at *; omega))])
  simp only [Act.put, List.setIfInBounds_toArray, List.set_cons_zero, List.set_cons_succ]
  refine wpAnyH_take (i := 48) (oi := { dst := some 91, op := Go.Op.fieldAddr 29 (Go.Operand.tmp 1) 1, type := 0, pos := _, after := #[{ on := 46, ground := Go.Ground.guard }], guard := some (46, false) }) (v := ?_) rfl (by kernel_rfl) (by kernel_rfl) (by kernel_rfl) (fun _ _ _ h => h) (Or.inl ⟨by rfl, ?_⟩) (by assumption) ?_
  rotate_left
  · intro w hSw; (try dsimp only at hSw); go_simp <;> first | with_reducible rfl | (rw [if_neg (by first | omega | (simp only [ByteArray.size_append] at *; omega))])
  simp only [Act.put, List.setIfInBounds_toArray, List.set_cons_zero, List.set_cons_succ]
  refine wpAnyH_take (i := 49) (oi := { dst := some 92, op := Go.Op.load 24 (Go.Operand.tmp 91), type := 24, pos := _, after := #[{ on := 48, ground := Go.Ground.data }, { on := 46, ground := Go.Ground.guard }], guard := some (46, false) }) (v := ?_) rfl (by kernel_rfl) (by kernel_rfl) (by kernel_rfl) (fun _ _ _ h => h) (Or.inl ⟨by rfl, ?_⟩) (by assumption) ?_
  rotate_left
  · intro w hSw; (try dsimp only at hSw); go_simp <;> first | with_reducible rfl | (rw [if_neg (by first | omega | (simp only [ByteArray.size_append] at *; omega))])
  simp only [Act.put, List.setIfInBounds_toArray, List.set_cons_zero, List.set_cons_succ]
  refine wpAnyH_ready (rs := [50]) (by kernel_rfl) (by simp) ?_
  refine AllReadyH.cons (o := { dst := some 93, op := Go.Op.call { callee := Go.Callee.value (Go.Operand.func 16), args := #[Go.Operand.tmp 90, Go.Operand.tmp 92], argTypes := #[24, 24] }, type := 4, pos := _, after := #[{ on := 47, ground := Go.Ground.data }, { on := 49, ground := Go.Ground.data }, { on := 46, ground := Go.Ground.chain }, { on := 46, ground := Go.Ground.guard }], guard := some (46, false) }) rfl (fun K hK => ?_) AllReadyH.nil
  go_simp
  refine (left_Int _ W.heap.size _ _ r D7.out.tw (HR.out.keepW D7.out.below) (by omega)).mono ?_
  rintro e wh ⟨rfl, hb⟩
  have D8 := hid (D7.out.keep hb)
  clear hb D7
  go_wp2_with fail
  refine hK.out _ _ ?_ (fun hHeld8 => ?_)
  · exact D8.out.cells
  clear hK K
  refine wpAnyH_take (i := 51) (oi := { dst := some 94, op := Go.Op.unOp Go.UnOp.not 4 (Go.Operand.tmp 93), type := 4, pos := _, after := #[{ on := 50, ground := Go.Ground.data }, { on := 46, ground := Go.Ground.guard }], guard := some (46, false) }) (v := ?_) rfl (by kernel_rfl) (by kernel_rfl) (by kernel_rfl) (fun _ _ _ h => h) (Or.inl ⟨by rfl, ?_⟩) (by assumption) ?_
  rotate_left
  · intro w hSw; (try dsimp only at hSw); go_simp <;> first | with_reducible rfl | (rw [if_neg (by first | omega | (simp only [ByteArray.size_append] at *; omega))])
  simp only [Act.put, List.setIfInBounds_toArray, List.set_cons_zero, List.set_cons_succ]
  refine wpAnyH_take (i := 52) (oi := { dst := some 95, op := Go.Op.pick (Go.Operand.tmp 89) (Go.Operand.const (Go.Value.bool true)) (Go.Operand.tmp 94), type := 4, pos := _, after := #[{ on := 46, ground := Go.Ground.data }, { on := 51, ground := Go.Ground.data }], guard := none }) (v := ?_) rfl (by kernel_rfl) (by kernel_rfl) (by kernel_rfl) (fun _ _ _ h => h) (Or.inl ⟨by rfl, ?_⟩) (by assumption) ?_
  rotate_left
  · intro w hSw; (try dsimp only at hSw); go_simp <;> first | with_reducible rfl | (rw [if_neg (by first | omega | (simp only [ByteArray.size_append] at *; omega))])
  simp only [Act.put, List.setIfInBounds_toArray, List.set_cons_zero, List.set_cons_succ]
  refine wpAnyH_take (i := 53) (oi := { dst := some 96, op := Go.Op.move (Go.Operand.tmp 95), type := 4, pos := _, after := #[{ on := 52, ground := Go.Ground.data }, { on := 50, ground := Go.Ground.chain }], guard := none }) (v := ?_) rfl (by kernel_rfl) (by kernel_rfl) (by kernel_rfl) (fun _ _ _ h => h) (Or.inl ⟨by rfl, ?_⟩) (by assumption) ?_
  rotate_left
  · intro w hSw; (try dsimp only at hSw); go_simp <;> first | with_reducible rfl | (rw [if_neg (by first | omega | (simp only [ByteArray.size_append] at *; omega))])
  simp only [Act.put, List.setIfInBounds_toArray, List.set_cons_zero, List.set_cons_succ]
  refine wpAnyH_take (i := 54) (oi := { dst := some 97, op := Go.Op.load 27 (Go.Operand.tmp 4), type := 27, pos := _, after := #[{ on := 53, ground := Go.Ground.guard }], guard := some (53, false) }) (v := ?_) rfl (by kernel_rfl) (by kernel_rfl) (by kernel_rfl) (fun _ _ _ h => h) (Or.inl ⟨by rfl, ?_⟩) (by assumption) ?_
  rotate_left
  · intro w hSw; (try dsimp only at hSw); go_simp <;> first | with_reducible rfl | (rw [if_neg (by first | omega | (simp only [ByteArray.size_append] at *; omega))])
  simp only [Act.put, List.setIfInBounds_toArray, List.set_cons_zero, List.set_cons_succ]
  refine wpAnyH_take (i := 55) (oi := { dst := some 98, op := Go.Op.fieldAddr 29 (Go.Operand.tmp 1) 2, type := 0, pos := _, after := #[{ on := 53, ground := Go.Ground.guard }], guard := some (53, false) }) (v := ?_) rfl (by kernel_rfl) (by kernel_rfl) (by kernel_rfl) (fun _ _ _ h => h) (Or.inl ⟨by rfl, ?_⟩) (by assumption) ?_
  rotate_left
  · intro w hSw; (try dsimp only at hSw); go_simp <;> first | with_reducible rfl | (rw [if_neg (by first | omega | (simp only [ByteArray.size_append] at *; omega))])
  simp only [Act.put, List.setIfInBounds_toArray, List.set_cons_zero, List.set_cons_succ]
  refine wpAnyH_take (i := 56) (oi := { dst := some 99, op := Go.Op.load 27 (Go.Operand.tmp 98), type := 27, pos := _, after := #[{ on := 55, ground := Go.Ground.data }, { on := 53, ground := Go.Ground.guard }], guard := some (53, false) }) (v := ?_) rfl (by kernel_rfl) (by kernel_rfl) (by kernel_rfl) (fun _ _ _ h => h) (Or.inl ⟨by rfl, ?_⟩) (by assumption) ?_
  rotate_left
  · intro w hSw; (try dsimp only at hSw); go_simp <;> first | with_reducible rfl | (rw [if_neg (by first | omega | (simp only [ByteArray.size_append] at *; omega))])
  simp only [Act.put, List.setIfInBounds_toArray, List.set_cons_zero, List.set_cons_succ]
  refine wpAnyH_ready (rs := [57]) (by kernel_rfl) (by simp) ?_
  refine AllReadyH.cons (o := { dst := some 100, op := Go.Op.call { callee := Go.Callee.value (Go.Operand.func 17), args := #[Go.Operand.tmp 97, Go.Operand.tmp 99], argTypes := #[27, 27] }, type := 4, pos := _, after := #[{ on := 54, ground := Go.Ground.data }, { on := 56, ground := Go.Ground.data }, { on := 53, ground := Go.Ground.chain }, { on := 53, ground := Go.Ground.guard }], guard := some (53, false) }) rfl (fun K hK => ?_) AllReadyH.nil
  go_simp
  refine (left_table _ W.heap.size _ _ l R G D8.out.tws (HL.out.keepW D8.out.below) (by omega)).mono ?_
  rintro e wi ⟨rfl, hb⟩
  have D9 := hid (D8.out.keep hb)
  clear hb D8
  go_wp2_with fail
  refine hK.out _ _ ?_ (fun hHeld9 => ?_)
  · exact D9.out.cells
  clear hK K
  refine wpAnyH_take (i := 58) (oi := { dst := some 101, op := Go.Op.unOp Go.UnOp.not 4 (Go.Operand.tmp 100), type := 4, pos := _, after := #[{ on := 57, ground := Go.Ground.data }, { on := 53, ground := Go.Ground.guard }], guard := some (53, false) }) (v := ?_) rfl (by kernel_rfl) (by kernel_rfl) (by kernel_rfl) (fun _ _ _ h => h) (Or.inl ⟨by rfl, ?_⟩) (by assumption) ?_
  rotate_left
  · intro w hSw; (try dsimp only at hSw); go_simp <;> first | with_reducible rfl | (rw [if_neg (by first | omega | (simp only [ByteArray.size_append] at *; omega))])
  simp only [Act.put, List.setIfInBounds_toArray, List.set_cons_zero, List.set_cons_succ]
  refine wpAnyH_take (i := 59) (oi := { dst := some 102, op := Go.Op.pick (Go.Operand.tmp 96) (Go.Operand.const (Go.Value.bool true)) (Go.Operand.tmp 101), type := 4, pos := _, after := #[{ on := 53, ground := Go.Ground.data }, { on := 58, ground := Go.Ground.data }], guard := none }) (v := ?_) rfl (by kernel_rfl) (by kernel_rfl) (by kernel_rfl) (fun _ _ _ h => h) (Or.inl ⟨by rfl, ?_⟩) (by assumption) ?_
  rotate_left
  · intro w hSw; (try dsimp only at hSw); go_simp <;> first | with_reducible rfl | (rw [if_neg (by first | omega | (simp only [ByteArray.size_append] at *; omega))])
  simp only [Act.put, List.setIfInBounds_toArray, List.set_cons_zero, List.set_cons_succ]
  refine wpAnyH_done (by kernel_rfl) ?_ _

  have hst := run_storeCells_new (P := Tryz.prog) wi 59 C0 C0 (by rw [n18]; exact info59) rfl (by rw [HC0.out]; simp [c59, Value.oneCell'])
  go_wp2_with (fail)
  clear hst
  have hrow := push_new wi (.cells C0 59) _ rfl
  have E0 := hid (D9.out.keep (balloc wi (.cells C0 59)))
  have B0 : BkC C0 0 (.slice none 0 0) (.slice none 0 0) := by
    rw [HC0.out]
    refine ⟨rfl, rfl, rfl, fun c h1 h2 h3 h4 => ?_⟩
    match c, h1, h2 with
    | 0, h1, _ => omega
    | n + 18, _, h2 => omega
    | 1, _, _ => rfl | 2, _, _ => rfl | 3, _, _ => rfl | 4, _, _ => rfl | 5, _, _ => rfl | 6, _, _ => rfl | 7, _, _ => rfl | 8, _, _ => rfl | 9, _, _ => rfl | 10, _, _ => rfl | 11, _, _ => rfl | 12, _, _ => rfl | 13, _, _ => rfl | 14, _, _ => rfl | 15, _, _ => rfl | 16, _, _ => rfl | 17, _, _ => rfl
  obtain ⟨bk, hbk⟩ : ∃ bk, bk = wi.heap.size := ⟨_, rfl⟩
  have F0 : Hid (S5 W (wi.alloc (.cells C0 59)) R G P1 (.slice (some ⟨ug, 0, none⟩) l.length uc) l K P2 (.slice va lv.length vc) lv Rv Gv bk) := hid ⟨E0.out.tab, E0.out.tab2, tws_own E0.out.tws, E0.out.ov, E0.out.lt, E0.out.kb, ⟨by rw [hbk]; exact (Array.getElem?_eq_some_iff.1 D9.out.tab).1, by rw [hbk]; exact (Array.getElem?_eq_some_iff.1 D9.out.tab2).1, by rw [hbk]; exact D9.out.below.size, by rw [hbk, World.size_alloc]; omega⟩, (fun b e => by rw [hbk]; exact (own_lo (tws_own D9.out.tws) b e).2), (fun b e => by rw [hbk]; exact (own_lo D9.out.ov b e).2), E0.out.below⟩
  have HT := hid (tw_own E0.out.tw)
  have hsz : W.heap.size ≤ (wi.alloc (.cells C0 59)).heap.size := E0.out.below.size
  clear D9 E0
  rw [← hbk] at hrow ⊢
  clear hbk
  generalize wi.alloc (.cells C0 59) = wj at *
  have hbb := F0.out.pb.2.2.1
  refine (ints_keep W.heap.size wj bk C0 0 (.slice none 0 0) (.slice (some ⟨tg, 0, none⟩) r.length tc) r.length [] hrow B0.c0 B0.i (KAt.nil0 _ _ _ _ _) (by omega) (by simp) ⟨_, ownsRow_mono HT.out (Nat.zero_le _)⟩ (fun j b h => by simp at h) hsz (fun i e => by cases e)).mono ?_
  rintro e wk ⟨⟨_, rfl⟩, vi, hrow2, hI, hm, hli⟩
  have B1 := B0.int vi
  have F1 := hid (F0.out.mv hm (fun i hi => hi.elim id (fun e => by cases e)))
  clear B0 F0 hrow hm hsz
  generalize (C0.setIfInBounds 0 (.int .i64 (((0 : Nat) : Int) + 1))).setIfInBounds 2 vi = C1 at *
  have HI1 := hid hI
  have HB1 := hid (And.intro hrow2 B1)
  have HLI := hid hli
  clear hI hrow2 B1 hli
  obtain ⟨y0, y1, y2⟩ := tb_cells F1.out.t1
  go_wp2_with (fail)
  clear y0 y1 y2
  refine (table_keep W.heap.size wk bk C1 1 (.slice none 0 0) (.slice (some ⟨ug, 0, none⟩) l.length uc) R G l.length [] HB1.out.1 HB1.out.2.c0 HB1.out.2.s (KAt.nil0 _ _ _ _ _) (by omega) (by simp) ⟨_, ownsRow_mono F1.out.o1 (Nat.zero_le _)⟩ (fun j b h => by simp at h) F1.out.bel.size (fun i e => by cases e)).mono ?_
  rintro e wl ⟨⟨_, rfl⟩, vs, hrow3, hS, hm, hls⟩
  have B2 := HB1.out.2.slot vs
  have F2 := hid (F1.out.mv hm (fun i hi => hi.elim id (fun e => by cases e)))
  have HI2 := hid (HI1.out.moved hm (fun i hi cur => by
    obtain rfl : i = bk := hi.elim id (fun e => by cases e)
    exact ⟨ty_ne HB1.out.1 (by decide), ty_ne HB1.out.1 (by decide)⟩))
  clear HB1 F1 HI1 hm
  generalize (C1.setIfInBounds 0 (.int .i64 (((1 : Nat) : Int) + 1))).setIfInBounds 12 vs = C2 at *
  have HB2 := hid (And.intro hrow3 B2)
  have HS2 := hid hS
  have HLS := hid hls
  clear hrow3 B2 hS hls
  obtain ⟨y0, y1, y2⟩ := tb_cells F2.out.t2
  go_wp2_with (fail)
  clear y0 y1 y2
  refine (table_keep W.heap.size wl bk C2 2 vs (.slice va lv.length vc) Rv Gv lv.length _ HB2.out.1 HB2.out.2.c0 HB2.out.2.s HS2.out (by omega) (by simp) ⟨_, ownsRow_mono F2.out.o2 (Nat.zero_le _)⟩ (fun j b h i e => by
    obtain rfl : b = ⟨(.slice (some ⟨ug, 0, none⟩) l.length uc), l.length, .slice none 0 0, 1 + 1⟩ := by
      have := List.mem_of_getElem? h
      simpa using this
    intro e2
    have h1 := F2.out.lt i e
    have h2 := (own_lo F2.out.o2 i e2).1
    omega) F2.out.bel.size HLS.out).mono ?_
  rintro e wm ⟨⟨_, rfl⟩, vs2, hrow4, hS, hm, hls⟩
  have B3 := HB2.out.2.slot vs2
  have HI3 := hid (HI2.out.moved hm (fun i hi cur => by
    rcases hi with rfl | hi
    · exact ⟨ty_ne HB2.out.1 (by decide), ty_ne HB2.out.1 (by decide)⟩
    · obtain ⟨cc, hc⟩ := own_type HS2.out.row hi
      exact ⟨ty_ne hc (by decide), ty_ne hc (by decide)⟩))
  have F3 := hid (F2.out.bel.trans (hm.toBelow F2.out.bel.size (fun i hi => hi.elim (fun e => by rw [e]; exact hbb) (HLS.out i))))
  have HV := hid (And.intro F2.out.o1 (And.intro F2.out.o2 F2.out.kb))
  have hap := apart_at wm bk _ vi _ vs2 _ hrow4 B3.o B3.i HI3.out (by simp) (mem_m (by simp; omega)) B3.s hS (by simp) (mem_m (by simp; omega))
  have HT2 : Hid (∀ i, (Value.slice (some ⟨tg, 0, none⟩) r.length tc).ownBlock = some i → W.heap.size ≤ i) := hid (fun i e => (own_lo HT.out i e).1)
  have HSS := hid hls
  clear HB2 HS2 HI2 HI3 F2 B3 hrow4 hS hm hls HLS HT
  go_wp2_with (fail)
  refine hap.mono ?_
  rintro e wn ⟨rfl, hm⟩
  have F4 := hid (F3.out.trans (hm.toBelow F3.out.size (fun i hi => by
    rcases hi with (⟨j, x, hx, e⟩ | e) | (⟨j, x, hx, e⟩ | e)
    · have := List.mem_of_getElem? hx
      simp at this
      subst this
      exact HT2.out i e
    · exact HLI.out i e
    · have := List.mem_of_getElem? hx
      simp at this
      rcases this with rfl | rfl
      · exact (own_lo HV.out.1 i e).1
      · exact Nat.le_trans HV.out.2.2 (own_lo HV.out.2.1 i e).1
    · exact HSS.out i e)))
  clear hm hap
  go_wp2_with (fail)
  refine (lives_at _).mono ?_
  rintro e w9 ⟨rfl, hb⟩
  have HZ := hid (F4.out.trans (hb.mono F4.out.size))
  clear hb
  go_wp2_with (fail)
  go_ret
  exact ⟨rfl, HZ.out⟩
end Go.Proofs.YtobmnndimlhfpaaGreatDoor.Slo
