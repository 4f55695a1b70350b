/-
  A better setup and shorter frames: the walk of SlotsBetter.
-/
import Derived.Test.YtkleipfhifjlmaaOpn
namespace Go.Proofs.Ytkleipfhifjlmaa.Slo
open Go.ChangeShapes Go.WideShapes Go.ChangeAt Go.RowKit Go.Joins
/-- A row of one-cell values, one of them exchanged. -/
theorem own_set {{e : TypeId}} {{w : World}} {{lo n : Nat}} {{v : Value}} {{xs : List Value}} (h : w.ownsRow lo e 1 v n xs) {{b c i : Nat}} (hv : v = .slice (some ⟨b, 0, none⟩) n c) (x : Value) : (w.setCell ⟨b, i, none⟩ x).ownsRow lo e 1 v n (xs.set i x) := by
  obtain ⟨h1, ⟨h2, _⟩ | ⟨g, cap, cur, e2, hg, hr, hc, hm, hs, ht⟩⟩ := h
  · rw [h2] at hv; cases hv
  · rw [hv] at e2
    injection e2 with e3 _ e4
    injection e3 with e3
    injection e3 with e3
    subst e3 e4
    refine ⟨by rw [List.length_set]; exact h1, .inr ⟨b, c, cur.setIfInBounds i x, hv, hg, heap_setCell_same w b i cur e x hr, hc, hm, by simpa using hs, ?_⟩⟩
    rw [← ht]
    simp [List.take_set]
theorem own_cell {{e : TypeId}} {{w : World}} {{lo n : Nat}} {{v : Value}} {{xs : List Value}} (h : w.ownsRow lo e 1 v n xs) {{i : Nat}} (hi : i < n) {{x : Value}} (hx : xs[i]? = some x) : ∃ b c, v = .slice (some ⟨b, 0, none⟩) n c ∧ n ≤ c ∧ w.cell? ⟨b, i, none⟩ = some x ∧ w.frozen? ⟨b, i, none⟩ = false := by
  obtain ⟨h1, ⟨_, h2⟩ | ⟨g, cap, cur, e2, hg, hr, hc, hm, hs, ht⟩⟩ := h
  · omega
  · refine ⟨g, cap, e2, hc, ?_, ?_⟩
    · rw [cell_of_row w g i cur e (0, 0) hr]
      rw [← ht, List.getElem?_take, if_pos (by omega)] at hx
      simpa using hx
    · unfold World.frozen?
      rw [hr]
      simp
theorem ints_set (l : List Int) (i : Nat) (z : Int) : ints (l.set i z) = (ints l).set i (.int .i64 z) := by simp [ints, List.map_set]
theorem ints_at {l : List Int} {j : Nat} (h : j < l.length) : (ints l)[j]? = some (.int .i64 (ga l j)) := by simp [ints, ga, h]
theorem ga_set {l : List Int} {i : Nat} (hi : i < l.length) (z : Int) (k : Nat) : ga (l.set i z) k = if k = i then z else ga l k := by
  by_cases e : k = i
  · subst e
    rw [if_pos rfl]
    simp [ga, hi]
  · rw [if_neg e]
    simp [ga, Ne.symm e]
/-- What fits a setup fits a better one. -/
theorem fit_better {s y : Su} {r q : List Int} {l : List Sl} {R G : Int} (h : FitP s r l R G) (hy : chk y = true) (hb : y.b ≤ s.b) (hf : y.f ≤ s.f) (hn : y.f - y.n ≤ s.f - s.n) (hd : y.d ≤ s.d) (hk : y.k ≤ s.k)
    (hl : q.length = r.length) (hq : ∀ j, j < r.length → 1 ≤ ga q j ∧ ga q j ≤ ga r j) : FitP y q l R G := by
  obtain ⟨hs, hw, hr⟩ := mayF_iff.1 h.may
  have cs := chk_iff.1 hs
  have cy := chk_iff.1 hy
  have hw2 := wi_iff.1 hw
  refine ⟨mayF_iff.2 ⟨hy, wi_iff.2 ⟨by omega, by omega⟩, btAll_iff.2 fun x hx => ?_⟩, by rw [h.len, hl], h.gg, h.rr, Int.le_trans ?_ h.sk, fun k hk2 => ?_, h.last⟩
  · obtain ⟨j, hj, rfl⟩ := List.mem_iff_getElem.1 hx
    have h1 := hq j (by omega)
    have h2 := btAll_at hr (show j < r.length by omega)
    have e : ga q j = q[j] := by simp [ga, hj]
    omega
  · have hwi : wi R 0 1099511627776 = true := wi_iff.2 h.rr
    have hm : y.d * R ≤ s.d * R := mul_le cy.2.2.2.1.1 h.rr.1 hd (Int.le_refl _)
    have hm0 : 0 ≤ y.d * R := Int.mul_nonneg cy.2.2.2.1.1 h.rr.1
    unfold sk
    rw [if_pos ⟨hy, hwi⟩, if_pos ⟨hs, hwi⟩]
    unfold ru
    generalize y.d * R = a at *
    generalize s.d * R = b at *
    omega
  · have ho := h.each k hk2
    have hkr : k < r.length := by rw [← h.len]; exact hk2
    have h1 := hq k hkr
    have h2 : ga q k * y.b ≤ ga r k * s.b := mul_le (by omega) (by omega) h1.2 hb
    have h3 := ho.t
    exact ⟨ho.o, ho.e, ho.h, ho.p, ho.g, by omega⟩
/-- What stays. -/
structure BvI (W wr : World) (s y : Su) (a u : Value) (R G rd : Int) : Prop where
  box : wr.heap[W.heap.size]? = some (.cells (stC s a u R G rd) 42 (0, 0))
  low : wr.heap[W.heap.size + 1]? = some (.cells (suC y) 23 (0, 0))
  below : Below W.heap.size W wr
theorem BvI.keep {W wr w2 : World} {s y : Su} {a u : Value} {R G rd : Int} (h : BvI W wr s y a u R G rd) (hb : Below wr.heap.size wr w2) : BvI W w2 s y a u R G rd := ⟨keep_row h.box hb, keep_row h.low hb, h.below.trans (hb.mono h.below.size)⟩
theorem st_cells {w : World} {B : Nat} {s : Su} {a u : Value} {R G rd : Int} (h : w.heap[B]? = some (.cells (stC s a u R G rd) 42 (0, 0))) : w.cell? ⟨B, 0, none⟩ = some (.int .i64 s.b) ∧ w.cell? ⟨B, 1, none⟩ = some (.int .i64 s.n) ∧ w.cell? ⟨B, 2, none⟩ = some (.int .i64 s.f) ∧ w.cell? ⟨B, 3, none⟩ = some (.int .i64 s.d) ∧ w.cell? ⟨B, 4, none⟩ = some (.int .i64 s.k) ∧ w.cell? ⟨B, 5, none⟩ = some a ∧ w.cell? ⟨B, 6, none⟩ = some u ∧ w.cell? ⟨B, 7, none⟩ = some (.int .i64 R) ∧ w.cell? ⟨B, 8, none⟩ = some (.int .i64 G) ∧ w.cell? ⟨B, 9, none⟩ = some (.int .i64 rd) :=
  ⟨by rw [cell_of_row _ _ _ _ 42 (0, 0) h]; rfl, by rw [cell_of_row _ _ _ _ 42 (0, 0) h]; rfl, by rw [cell_of_row _ _ _ _ 42 (0, 0) h]; rfl, by rw [cell_of_row _ _ _ _ 42 (0, 0) h]; rfl, by rw [cell_of_row _ _ _ _ 42 (0, 0) h]; rfl, by rw [cell_of_row _ _ _ _ 42 (0, 0) h]; rfl, by rw [cell_of_row _ _ _ _ 42 (0, 0) h]; rfl, by rw [cell_of_row _ _ _ _ 42 (0, 0) h]; rfl, by rw [cell_of_row _ _ _ _ 42 (0, 0) h]; rfl, by rw [cell_of_row _ _ _ _ 42 (0, 0) h]; rfl⟩
theorem BvI.cells {W wr : World} {s y : Su} {a u : Value} {R G rd : Int} (h : BvI W wr s y a u R G rd) : (wr.cell? ⟨W.heap.size, 0, none⟩ = some (.int .i64 s.b) ∧ wr.cell? ⟨W.heap.size, 1, none⟩ = some (.int .i64 s.n) ∧ wr.cell? ⟨W.heap.size, 2, none⟩ = some (.int .i64 s.f) ∧ wr.cell? ⟨W.heap.size, 3, none⟩ = some (.int .i64 s.d) ∧ wr.cell? ⟨W.heap.size, 4, none⟩ = some (.int .i64 s.k) ∧ wr.cell? ⟨W.heap.size, 5, none⟩ = some a ∧ wr.cell? ⟨W.heap.size, 6, none⟩ = some u ∧ wr.cell? ⟨W.heap.size, 7, none⟩ = some (.int .i64 R) ∧ wr.cell? ⟨W.heap.size, 8, none⟩ = some (.int .i64 G) ∧ wr.cell? ⟨W.heap.size, 9, none⟩ = some (.int .i64 rd)) ∧ wr.cell? ⟨W.heap.size + 1, 0, none⟩ = some (.int .i64 y.b) ∧ wr.cell? ⟨W.heap.size + 1, 1, none⟩ = some (.int .i64 y.n) ∧ wr.cell? ⟨W.heap.size + 1, 2, none⟩ = some (.int .i64 y.f) ∧ wr.cell? ⟨W.heap.size + 1, 3, none⟩ = some (.int .i64 y.d) ∧ wr.cell? ⟨W.heap.size + 1, 4, none⟩ = some (.int .i64 y.k) :=
  ⟨st_cells h.box, su_cells h.low⟩
/-- The same with the row of shorter frames. -/
structure BwI (W wr : World) (s y : Su) (a u : Value) (R G rd : Int) (v : Value) (l : List Int) : Prop where
  bv : BvI W wr s y a u R G rd
  row : Row wr (W.heap.size + 2) v l
theorem BwI.keep {W wr w2 : World} {s y : Su} {a u v : Value} {R G rd : Int} {l : List Int} (h : BwI W wr s y a u R G rd v l) (hb : Below wr.heap.size wr w2) : BwI W w2 s y a u R G rd v l := ⟨h.bv.keep hb, h.row.below hb⟩
theorem BwI.drew {W wr : World} {s y : Su} {a u v : Value} {R G rd : Int} {l : List Int} (h : BwI W wr s y a u R G rd v l) : BwI W wr.drew s y a u R G rd v l := h.keep (Below.refl _ _).drew
theorem BwI.put {W wr : World} {s y : Su} {a u : Value} {R G rd : Int} {l : List Int} {g n c : Nat} (h : BwI W wr s y a u R G rd (.slice (some ⟨g, 0, none⟩) n c) l) (hn : n = l.length) (i : Nat) (z : Int) : BwI W (wr.setCell ⟨g, i, none⟩ (.int .i64 z)) s y a u R G rd (.slice (some ⟨g, 0, none⟩) n c) (l.set i z) := by
  have hg := (h.row.lo g rfl).1
  refine ⟨⟨?_, ?_, h.bv.below.setCell (by show W.heap.size ≤ g; omega) _⟩, ?_⟩
  · rw [heap_setCell_other _ _ _ _ (by show W.heap.size ≠ g; omega)]; exact h.bv.box
  · rw [heap_setCell_other _ _ _ _ (by show W.heap.size + 1 ≠ g; omega)]; exact h.bv.low
  · have := own_set (i := i) h.row (by rw [hn]) (.int .i64 z)
    unfold Row
    rw [ints_set, List.length_set]
    exact this
theorem Row.rdx {W : World} {base : Nat} {v : Value} {l : List Int} (h : Row W base v l) (hl : l.length ≤ 17592186044416) : Rd W W.heap.size v l := by
  obtain ⟨ao, cap, e, h1, h2, h3⟩ := h.at
  have hm : maxLen = 9223372036854775807 := rfl
  refine ⟨ao, cap, e, h1, ⟨by omega, hl⟩, ?_⟩
  rcases h3 with h3 | ⟨g, rfl, hc⟩
  · exact .inl (List.length_eq_zero_iff.1 h3)
  · by_cases h0 : l.length = 0
    · exact .inl (List.length_eq_zero_iff.1 h0)
    · refine .inr ⟨g, 0, rfl, (h.lo g (by rw [e]; rfl)).2, fun i hi => ?_⟩
      rw [Nat.zero_add, hc i hi]
      simp [ga, hi]
theorem BwI.first {W w2 w5 : World} {s y : Su} {a u v' : Value} {R G rd : Int} {r : List Int} (h : BvI W w2 s y a u R G rd) (ho : w5.ownsRow (W.heap.size + 2) 3 1 v' (0 + r.length) ([] ++ ints r)) (hg : w2.grownBy w5 (Value.slice none 0 0).ownBlock) (h0 : 0 < r.length) : ∃ gb gc, v' = .slice (some ⟨gb, 0, none⟩) r.length gc ∧ BwI W w5 s y a u R G rd (.slice (some ⟨gb, 0, none⟩) r.length gc) r := by
  have hrow : Row w5 (W.heap.size + 2) v' r := by rw [Nat.zero_add, List.nil_append] at ho; exact ho
  obtain ⟨gb, gc, cur, e, _⟩ := hrow.full h0
  subst e
  exact ⟨gb, gc, rfl, h.keep ⟨hg.os, hg.tape, hg.output, hg.size, fun i hi => hg.block i hi (fun e => by cases e)⟩, hrow⟩
set_option maxRecDepth 100000 in
set_option maxHeartbeats 8000000 in
theorem walk5 (s : Su) (r : List Int) (l : List Sl) (R G rd : Int) (a u : Value) (y : Su) (b : Value) (d : List Nat) (W : World) (hr : Rd W W.heap.size a r) (hl : SlR W W.heap.size u l) (hd : RU W W.heap.size b d) : Calls Try.prog 5 #[.agg (stC s a u R G rd), .agg (suC y), b] W fun e w' => e = .returned (.bool true) ∧ Below W.heap.size W w' := by
  have HR := hid hr
  have HL := hid hl
  obtain ⟨ra, cr, rfl, hrl, hrc, hrs⟩ := hr
  obtain ⟨ua, cu, rfl, hul, huc, _⟩ := hl
  obtain ⟨la, cl, rfl, hll, hls⟩ := hd
  have HRS := hid hrs
  have HLS := hid hls
  clear hrs hls
  have H1 : Hid (BvI W ((W.alloc (.cells (stC s (.slice ra r.length cr) (.slice ua l.length cu) R G rd) 42)).alloc (.cells (suC y) 23)) s y (.slice ra r.length cr) (.slice ua l.length cu) R G rd) := hid ⟨push_old (push_new W _ _ rfl), push_new _ _ _ (by simp), bstep (balloc _ _) (balloc _ _)⟩
  obtain ⟨⟨x0, x1, x2, x3, x4, x5, x6, x7, x8, x9⟩, y0, y1, y2, y3, y4⟩ := H1.out.cells
  by_cases h20 : 20 < r.length
  · have h20' : decide ((r.length : Int) > 20) = true := decide_eq_true (by omega)
    go_enter Try.func5, Try.ntmps5
    go_wp2_with (fail)
    refine (lives_at _).mono ?_
    rintro e w9 ⟨rfl, hb⟩
    have HZ := hid (H1.out.keep hb)
    clear hb
    go_wp2_with (fail)
    go_ret
    exact ⟨rfl, HZ.out.below⟩
  have h20' : decide ((r.length : Int) > 20) = false := decide_eq_false (by omega)
  by_cases h21 : 20 < l.length
  · have h21' : decide ((l.length : Int) > 20) = true := decide_eq_true (by omega)
    go_enter Try.func5, Try.ntmps5
    go_wp2_with (fail)
    refine (lives_at _).mono ?_
    rintro e w9 ⟨rfl, hb⟩
    have HZ := hid (H1.out.keep hb)
    clear hb
    go_wp2_with (fail)
    go_ret
    exact ⟨rfl, HZ.out.below⟩
  have h21' : decide ((l.length : Int) > 20) = false := decide_eq_false (by omega)
  go_enter Try.func5, Try.ntmps5
  go_wp2_with (fail)
  refine (fits_at _ s _ _ r l R G (HR.out.keepW H1.out.below) (HL.out.keepW H1.out.below)).mono ?_
  rintro e w1 ⟨⟨z, rfl, hz⟩, hb⟩
  have H2 := hid (H1.out.keep hb)
  clear hb H1
  clear x0 x1 x2 x3 x4 x5 x6 x7 x8 x9 y0 y1 y2 y3 y4
  cases z
  · clear hz
    go_wp2_with (fail)
    refine (lives_at _).mono ?_
    rintro e w9 ⟨rfl, hb⟩
    have HZ := hid (H2.out.keep hb)
    clear hb
    go_wp2_with (fail)
    go_ret
    exact ⟨rfl, HZ.out.below⟩
  have HFit := hid (hz.1 rfl)
  clear hz
  obtain ⟨⟨x0, x1, x2, x3, x4, x5, x6, x7, x8, x9⟩, y0, y1, y2, y3, y4⟩ := H2.out.cells
  go_wp2_with (fail)
  refine (check_at _ y).mono ?_
  rintro e w2 ⟨rfl, hb⟩
  have H3 := hid (H2.out.keep hb)
  clear hb H2
  clear x0 x1 x2 x3 x4 x5 x6 x7 x8 x9 y0 y1 y2 y3 y4
  obtain ⟨⟨x0, x1, x2, x3, x4, x5, x6, x7, x8, x9⟩, y0, y1, y2, y3, y4⟩ := H3.out.cells
  cases hc : chk y
  · have hc' := hid hc
    go_wp2_with (fail)
    refine (lives_at _).mono ?_
    rintro e w9 ⟨rfl, hb⟩
    have HZ := hid (H3.out.keep hb)
    clear hb
    go_wp2_with (fail)
    go_ret
    exact ⟨rfl, HZ.out.below⟩
  have HC := hid hc
  have cy := chk_iff.1 hc
  have cs := chk_iff.1 (mayF_iff.1 HFit.out.may).1
  have hw1 : IntKind.i64.wrap (y.f - y.n) = y.f - y.n := by rw [IntKind.wrap_i64]; omega
  have hw2 : IntKind.i64.wrap (s.f - s.n) = s.f - s.n := by rw [IntKind.wrap_i64]; omega
  clear hc
  by_cases h1 : s.b < y.b
  · have h1' : decide (y.b > s.b) = true := decide_eq_true h1
    go_wp2_with (fail)
    refine (lives_at _).mono ?_
    rintro e w9 ⟨rfl, hb⟩
    have HZ := hid (H3.out.keep hb)
    clear hb
    go_wp2_with (fail)
    go_ret
    exact ⟨rfl, HZ.out.below⟩
  have h1' : decide (y.b > s.b) = false := decide_eq_false h1
  by_cases h2 : s.f < y.f
  · have h2' : decide (y.f > s.f) = true := decide_eq_true h2
    go_wp2_with (fail)
    refine (lives_at _).mono ?_
    rintro e w9 ⟨rfl, hb⟩
    have HZ := hid (H3.out.keep hb)
    clear hb
    go_wp2_with (fail)
    go_ret
    exact ⟨rfl, HZ.out.below⟩
  have h2' : decide (y.f > s.f) = false := decide_eq_false h2
  by_cases h3 : s.f - s.n < y.f - y.n
  · have h3' : decide (y.f - y.n > s.f - s.n) = true := decide_eq_true h3
    go_wp2_with (fail)
    refine (lives_at _).mono ?_
    rintro e w9 ⟨rfl, hb⟩
    have HZ := hid (H3.out.keep hb)
    clear hb
    go_wp2_with (fail)
    go_ret
    exact ⟨rfl, HZ.out.below⟩
  have h3' : decide (y.f - y.n > s.f - s.n) = false := decide_eq_false h3
  by_cases h4 : s.d < y.d
  · have h4' : decide (y.d > s.d) = true := decide_eq_true h4
    go_wp2_with (fail)
    refine (lives_at _).mono ?_
    rintro e w9 ⟨rfl, hb⟩
    have HZ := hid (H3.out.keep hb)
    clear hb
    go_wp2_with (fail)
    go_ret
    exact ⟨rfl, HZ.out.below⟩
  have h4' : decide (y.d > s.d) = false := decide_eq_false h4
  by_cases h5 : s.k < y.k
  · have h5' : decide (y.k > s.k) = true := decide_eq_true h5
    go_wp2_with (fail)
    refine (lives_at _).mono ?_
    rintro e w9 ⟨rfl, hb⟩
    have HZ := hid (H3.out.keep hb)
    clear hb
    go_wp2_with (fail)
    go_ret
    exact ⟨rfl, HZ.out.below⟩
  have h5' : decide (y.k > s.k) = false := decide_eq_false h5
  have hwi := wi_iff.1 (mayF_iff.1 HFit.out.may).2.1
  have hr0 : 0 < r.length := by omega
  obtain ⟨rb, ro, rfl, hrb, hrr⟩ := HRS.out.resolve_left (by intro e; rw [e] at hr0; simp at hr0)
  have HRR := hid hrr
  obtain ⟨i0, hi, hz0, hz1, hz2⟩ := info_parts inf3
  have HNX : Hid (∀ j v, (ints r)[j]? = some v → w2.cell? ((⟨rb, ro, none⟩ : Addr).add j) = some v) := hid (fun j v hj => by
    have hjl : j < r.length := by have := (List.getElem?_eq_some_iff.1 hj).1; rwa [ints_len] at this
    have hadd : (⟨rb, ro, none⟩ : Addr).add j = ⟨rb, ro + j, none⟩ := by unfold Addr.add; split <;> simp_all
    rw [ints_at hjl] at hj
    rw [hadd, H3.out.below.cell (p := ⟨rb, ro + j, none⟩) hrb, HRR.out j hjl]
    exact hj)
  have hz2' := H3.out.below.size
  have hsz : W.heap.size + 2 ≤ w2.heap.size := by have := (Array.getElem?_eq_some_iff.1 H3.out.low).1; omega
  clear hrr
  go_wp2_with (at_builtin
               refine wpList_append_own_at _ rfl _ _ 24 rfl (W.heap.size + 2) 3 i0 _ 1 8 Try.underlying24 hi hz0 hz1 hz2 rfl (by decide) (.slice none 0 0) 0 [] rfl ⟨rfl, .inl ⟨rfl, rfl⟩⟩ ⟨rb, ro, none⟩ r.length cr (ints r) rfl (by rw [ints_len]; omega) HNX.out (by simp [ints, Value.oneCell']) (by unfold maxLen; omega) (by omega) hsz ?_
               intro v' w5 hown hgrow _ _
               obtain ⟨gb, gc, rfl, HB5⟩ := BwI.first H3.out hown hgrow hr0)
  clear h1' h2' h3' h4' h5' HNX hw1 hw2 hsz hz2'
  clear x0 x1 x2 x3 x4 x5 x6 x7 x8 x9 y0 y1 y2 y3 y4
  have H5 := hid HB5
  clear HB5 H3
  go_loopw [8] (fun s8 wr => ∃ (i : Nat) (q : List Int), i ≤ r.length ∧ s8 = .int .i64 (i : Int) ∧ Hid (q.length = r.length) ∧ Hid (∀ j, j < r.length → 1 ≤ ga q j ∧ ga q j ≤ ga r j) ∧ Hid (BwI W wr s y (.slice (some ⟨rb, ro, none⟩) r.length cr) (.slice ua l.length cu) R G rd (.slice (some ⟨gb, 0, none⟩) r.length gc) (q))) (fun s8 _ => r.length - (intOf s8).toNat)
  case atStart => exact ⟨0, r, by omega, rfl, hid rfl, hid (fun j hj => ⟨(btAll_at (mayF_iff.1 HFit.out.may).2.2 hj).1, Int.le_refl _⟩), H5⟩
  case round =>
    clear H5
    obtain ⟨i, q, hi2, rfl, HQ, HP, HK⟩ := hrel
    by_cases hlt : i < r.length
    case neg =>
      have hlt' : ¬ (i : Int) < (r.length : Int) := by omega
      obtain ⟨⟨x0, x1, x2, x3, x4, x5, x6, x7, x8, x9⟩, y0, y1, y2, y3, y4⟩ := HK.out.bv.cells
      go_wp2_with (fail)
      refine (fits_at _ y _ (.slice ua l.length cu) q l R G (HK.out.row.rdx (by have := HQ.out; omega)) (HL.out.keepW HK.out.bv.below)).mono ?_
      rintro e w7 ⟨⟨z, rfl, hz⟩, hb⟩
      obtain rfl := hz.2 (fit_better HFit.out HC.out (by omega) (by omega) (by omega) (by omega) (by omega) HQ.out HP.out)
      have HL7 := hid (HK.out.keep hb)
      clear hb hz
      clear x0 x1 x2 x3 x4 x5 x6 x7 x8 x9 y0 y1 y2 y3 y4
      go_wp2_with (fail)
      refine (lives_at _).mono ?_
      rintro e w9 ⟨rfl, hb⟩
      have HZ := hid (HL7.out.keep hb)
      clear hb
      go_wp2_with (fail)
      go_ret
      exact ⟨rfl, HZ.out.bv.below⟩
    have hlt' : (i : Int) < (r.length : Int) := by omega
    by_cases hld : i < d.length
    case neg =>
      have hld' : ¬ (i : Int) < (d.length : Int) := by omega
      obtain ⟨⟨x0, x1, x2, x3, x4, x5, x6, x7, x8, x9⟩, y0, y1, y2, y3, y4⟩ := HK.out.bv.cells
      go_wp2_with (fail)
      refine (fits_at _ y _ (.slice ua l.length cu) q l R G (HK.out.row.rdx (by have := HQ.out; omega)) (HL.out.keepW HK.out.bv.below)).mono ?_
      rintro e w7 ⟨⟨z, rfl, hz⟩, hb⟩
      obtain rfl := hz.2 (fit_better HFit.out HC.out (by omega) (by omega) (by omega) (by omega) (by omega) HQ.out HP.out)
      have HL7 := hid (HK.out.keep hb)
      clear hb hz
      clear x0 x1 x2 x3 x4 x5 x6 x7 x8 x9 y0 y1 y2 y3 y4
      go_wp2_with (fail)
      refine (lives_at _).mono ?_
      rintro e w9 ⟨rfl, hb⟩
      have HZ := hid (HL7.out.keep hb)
      clear hb
      go_wp2_with (fail)
      go_ret
      exact ⟨rfl, HZ.out.bv.below⟩
    have hld' : (i : Int) < (d.length : Int) := by omega
    have hi0 : (0 : Int) ≤ (i : Int) := by omega
    obtain ⟨lb, lo, rfl, hlb, hdd⟩ := HLS.out.resolve_left (by intro e; rw [e] at hld; simp at hld)
    have c1 := (HK.out.bv.below.cell (p := ⟨lb, lo + i, none⟩) hlb).trans (hdd i hld).1
    have ht := (hdd i hld).2
    obtain ⟨gb', gc', ge, _, c0, cf⟩ := own_cell HK.out.row (show i < q.length by have := HQ.out; omega) (ints_at (by have := HQ.out; omega))
    injection ge with ge1 ge2 ge3
    clear ge2
    injection ge1 with ge1
    injection ge1 with ge1
    subst ge1 ge3
    have hz1 := HP.out i hlt
    have hz2 := btAll_at (mayF_iff.1 HFit.out.may).2.2 hlt
    clear hdd
    generalize d.getD i 0 = t at *
    obtain ⟨z, hz⟩ : ∃ z, z = ga q i := ⟨_, rfl⟩
    rw [← hz] at c0 hz1
    have hw1 : IntKind.i64.wrap (t : Int) = (t : Int) := by rw [IntKind.wrap_i64]; omega
    have hw2 : IntKind.i64.wrap (z - (t : Int)) = z - (t : Int) := by rw [IntKind.wrap_i64]; omega
    have HZ0 := hid hz
    clear hz
    have hgb := (HK.out.row.lo gb rfl).1
    by_cases hm : 1 < z - (t : Int)
    · have HK2 : Hid (BwI W (wr.setCell ⟨gb, i, none⟩ (.int .i64 (z - (t : Int)))) s y (.slice (some ⟨rb, ro, none⟩) r.length cr) (.slice ua l.length cu) R G rd (.slice (some ⟨gb, 0, none⟩) r.length gc) (q.set i (z - (t : Int)))) := hid (HK.out.put HQ.out.symm i _)
      have HP1 : Hid (((wr.setCell ⟨gb, i, none⟩ (.int .i64 (z - (t : Int)))).drew).cell? ⟨lb, lo + i, none⟩ = some (.int .u8 (t : Int))) := hid ((World.cell?_setCell_far _ _ _ _ (by show gb ≠ lb; omega)).trans c1)
      go_wp2_with (fail)
      refine wp_region_held_drew (S := fun V => V.cell? ⟨lb, lo + i, none⟩ = some (.int .u8 (t : Int))) (by kernel_rfl) ?_ (fun hHeld => ?_)
      · exact c1
      refine wpAnyH_take (i := 0) (oi := { dst := some 97, op := Go.Op.move (Go.Operand.tmp 7), type := 24, pos := _, after := #[], guard := none }) (v := ?_) rfl (by kernel_rfl) (by kernel_rfl) (by kernel_rfl) (fun _ _ _ h => h) (Or.inl ⟨by rfl, ?_⟩) (by assumption) ?_
      rotate_left
      · intro w hSw; (try dsimp only at hSw); go_simp <;> first | with_reducible rfl | (rw [if_neg (by first | omega | (simp only [ByteArray.size_append] at *; omega))])
      simp only [Act.put, List.setIfInBounds_toArray, List.set_cons_zero, List.set_cons_succ]
      refine wpAnyH_take (i := 1) (oi := { dst := some 98, op := Go.Op.move (Go.Operand.tmp 8), type := 3, pos := _, after := #[], guard := none }) (v := ?_) rfl (by kernel_rfl) (by kernel_rfl) (by kernel_rfl) (fun _ _ _ h => h) (Or.inl ⟨by rfl, ?_⟩) (by assumption) ?_
      rotate_left
      · intro w hSw; (try dsimp only at hSw); go_simp <;> first | with_reducible rfl | (rw [if_neg (by first | omega | (simp only [ByteArray.size_append] at *; omega))])
      simp only [Act.put, List.setIfInBounds_toArray, List.set_cons_zero, List.set_cons_succ]
      refine wpAnyH_take (i := 2) (oi := { dst := some 99, op := Go.Op.move (Go.Operand.tmp 7), type := 24, pos := _, after := #[], guard := none }) (v := ?_) rfl (by kernel_rfl) (by kernel_rfl) (by kernel_rfl) (fun _ _ _ h => h) (Or.inl ⟨by rfl, ?_⟩) (by assumption) ?_
      rotate_left
      · intro w hSw; (try dsimp only at hSw); go_simp <;> first | with_reducible rfl | (rw [if_neg (by first | omega | (simp only [ByteArray.size_append] at *; omega))])
      simp only [Act.put, List.setIfInBounds_toArray, List.set_cons_zero, List.set_cons_succ]
      refine wpAnyH_take (i := 3) (oi := { dst := some 100, op := Go.Op.move (Go.Operand.tmp 8), type := 3, pos := _, after := #[], guard := none }) (v := ?_) rfl (by kernel_rfl) (by kernel_rfl) (by kernel_rfl) (fun _ _ _ h => h) (Or.inl ⟨by rfl, ?_⟩) (by assumption) ?_
      rotate_left
      · intro w hSw; (try dsimp only at hSw); go_simp <;> first | with_reducible rfl | (rw [if_neg (by first | omega | (simp only [ByteArray.size_append] at *; omega))])
      simp only [Act.put, List.setIfInBounds_toArray, List.set_cons_zero, List.set_cons_succ]
      refine wpAnyH_take (i := 4) (oi := { dst := some 101, op := Go.Op.indexAddr 24 (Go.Operand.tmp 99) (Go.Operand.tmp 100), type := 0, pos := _, after := #[{ on := 2, ground := Go.Ground.data }, { on := 3, ground := Go.Ground.data }], guard := none }) (v := ?_) rfl (by kernel_rfl) (by kernel_rfl) (by kernel_rfl) (fun _ _ _ h => h) (Or.inl ⟨by rfl, ?_⟩) (by assumption) ?_
      rotate_left
      · intro w hSw; (try dsimp only at hSw); go_simp <;> first | with_reducible rfl | (rw [if_neg (by first | omega | (simp only [ByteArray.size_append] at *; omega))])
      simp only [Act.put, List.setIfInBounds_toArray, List.set_cons_zero, List.set_cons_succ]
      refine wpAnyH_take (i := 6) (oi := { dst := some 103, op := Go.Op.move (Go.Operand.tmp 2), type := 43, pos := _, after := #[], guard := none }) (v := ?_) rfl (by kernel_rfl) (by kernel_rfl) (by kernel_rfl) (fun _ _ _ h => h) (Or.inl ⟨by rfl, ?_⟩) (by assumption) ?_
      rotate_left
      · intro w hSw; (try dsimp only at hSw); go_simp <;> first | with_reducible rfl | (rw [if_neg (by first | omega | (simp only [ByteArray.size_append] at *; omega))])
      simp only [Act.put, List.setIfInBounds_toArray, List.set_cons_zero, List.set_cons_succ]
      refine wpAnyH_take (i := 7) (oi := { dst := some 104, op := Go.Op.move (Go.Operand.tmp 8), type := 3, pos := _, after := #[], guard := none }) (v := ?_) rfl (by kernel_rfl) (by kernel_rfl) (by kernel_rfl) (fun _ _ _ h => h) (Or.inl ⟨by rfl, ?_⟩) (by assumption) ?_
      rotate_left
      · intro w hSw; (try dsimp only at hSw); go_simp <;> first | with_reducible rfl | (rw [if_neg (by first | omega | (simp only [ByteArray.size_append] at *; omega))])
      simp only [Act.put, List.setIfInBounds_toArray, List.set_cons_zero, List.set_cons_succ]
      refine wpAnyH_take (i := 8) (oi := { dst := some 105, op := Go.Op.indexAddr 43 (Go.Operand.tmp 103) (Go.Operand.tmp 104), type := 0, pos := _, after := #[{ on := 6, ground := Go.Ground.data }, { on := 7, ground := Go.Ground.data }], guard := none }) (v := ?_) rfl (by kernel_rfl) (by kernel_rfl) (by kernel_rfl) (fun _ _ _ h => h) (Or.inl ⟨by rfl, ?_⟩) (by assumption) ?_
      rotate_left
      · intro w hSw; (try dsimp only at hSw); go_simp <;> first | with_reducible rfl | (rw [if_neg (by first | omega | (simp only [ByteArray.size_append] at *; omega))])
      simp only [Act.put, List.setIfInBounds_toArray, List.set_cons_zero, List.set_cons_succ]
      refine wpAnyH_take (i := 9) (oi := { dst := some 106, op := Go.Op.load 5 (Go.Operand.tmp 105), type := 5, pos := _, after := #[{ on := 8, ground := Go.Ground.data }], guard := none }) (v := ?_) rfl (by kernel_rfl) (by kernel_rfl) (by kernel_rfl) (fun _ _ _ h => h) (Or.inl ⟨by rfl, ?_⟩) (by assumption) ?_
      rotate_left
      · intro w hSw; (try dsimp only at hSw); go_simp <;> first | with_reducible rfl | (rw [if_neg (by first | omega | (simp only [ByteArray.size_append] at *; omega))])
      simp only [Act.put, List.setIfInBounds_toArray, List.set_cons_zero, List.set_cons_succ]
      refine wpAnyH_take (i := 10) (oi := { dst := some 107, op := Go.Op.convert 5 3 (Go.Operand.tmp 106), type := 3, pos := _, after := #[{ on := 9, ground := Go.Ground.data }], guard := none }) (v := ?_) rfl (by kernel_rfl) (by kernel_rfl) (by kernel_rfl) (fun _ _ _ h => h) (Or.inl ⟨by rfl, ?_⟩) (by assumption) ?_
      rotate_left
      · intro w hSw; (try dsimp only at hSw); go_simp <;> first | with_reducible rfl | (rw [if_neg (by first | omega | (simp only [ByteArray.size_append] at *; omega))])
      simp only [Act.put, List.setIfInBounds_toArray, List.set_cons_zero, List.set_cons_succ]
      refine wpAnyH_ready (rs := [5]) (by kernel_rfl) (by simp) ?_
      refine AllReadyH.cons (o := { dst := some 102, op := Go.Op.load 3 (Go.Operand.tmp 101), type := 3, pos := _, after := #[{ on := 4, ground := Go.Ground.data }], guard := none }) rfl (fun K hK => ?_) AllReadyH.nil
      go_simp
      go_wp2_with fail
      refine hK.out _ _ ?_ (fun hHeld1 => ?_)
      · exact c1
      clear hK K
      refine wpAnyH_take (i := 11) (oi := { dst := some 108, op := Go.Op.binOp Go.BinOp.sub 3 (Go.Operand.tmp 102) (Go.Operand.tmp 107) 3, type := 3, pos := _, after := #[{ on := 5, ground := Go.Ground.data }, { on := 10, ground := Go.Ground.data }], guard := none }) (v := ?_) rfl (by kernel_rfl) (by kernel_rfl) (by kernel_rfl) (fun _ _ _ h => h) (Or.inl ⟨by rfl, ?_⟩) (by assumption) ?_
      rotate_left
      · intro w hSw; (try dsimp only at hSw); go_simp <;> first | with_reducible rfl | (rw [if_neg (by first | omega | (simp only [ByteArray.size_append] at *; omega))])
      simp only [Act.put, List.setIfInBounds_toArray, List.set_cons_zero, List.set_cons_succ]
      refine wpAnyH_take (i := 12) (oi := { dst := some 109, op := Go.Op.call { callee := Go.Callee.builtin Go.Builtin.max, args := #[Go.Operand.const (Go.Value.int Go.IntKind.i64 1), Go.Operand.tmp 108], argTypes := #[3, 3] }, type := 3, pos := _, after := #[{ on := 11, ground := Go.Ground.data }], guard := none }) (v := ?_) rfl (by kernel_rfl) (by kernel_rfl) (by kernel_rfl) (fun _ _ _ h => h) (Or.inl ⟨by rfl, ?_⟩) (by assumption) ?_
      rotate_left
      · intro w hSw; (try dsimp only at hSw); go_simp <;> first | with_reducible rfl | (rw [if_neg (by first | omega | (simp only [ByteArray.size_append] at *; omega))])
      simp only [Act.put, List.setIfInBounds_toArray, List.set_cons_zero, List.set_cons_succ]
      refine wpAnyH_take (i := 13) (oi := { dst := some 110, op := Go.Op.indexAddr 24 (Go.Operand.tmp 97) (Go.Operand.tmp 98), type := 0, pos := _, after := #[{ on := 0, ground := Go.Ground.data }, { on := 1, ground := Go.Ground.data }, { on := 0, ground := Go.Ground.phase }, { on := 1, ground := Go.Ground.phase }, { on := 2, ground := Go.Ground.phase }, { on := 3, ground := Go.Ground.phase }, { on := 4, ground := Go.Ground.phase }, { on := 5, ground := Go.Ground.phase }, { on := 6, ground := Go.Ground.phase }, { on := 7, ground := Go.Ground.phase }, { on := 8, ground := Go.Ground.phase }, { on := 9, ground := Go.Ground.phase }, { on := 10, ground := Go.Ground.phase }, { on := 11, ground := Go.Ground.phase }, { on := 12, ground := Go.Ground.phase }], guard := none }) (v := ?_) rfl (by kernel_rfl) (by kernel_rfl) (by kernel_rfl) (fun _ _ _ h => h) (Or.inl ⟨by rfl, ?_⟩) (by assumption) ?_
      rotate_left
      · intro w hSw; (try dsimp only at hSw); go_simp <;> first | with_reducible rfl | (rw [if_neg (by first | omega | (simp only [ByteArray.size_append] at *; omega))])
      simp only [Act.put, List.setIfInBounds_toArray, List.set_cons_zero, List.set_cons_succ]
      refine wpAnyH_ready (rs := [14]) (by kernel_rfl) (by simp) ?_
      refine AllReadyH.cons (o := { dst := none, op := Go.Op.store 3 (Go.Operand.tmp 110) (Go.Operand.tmp 109), type := 0, pos := _, after := #[{ on := 13, ground := Go.Ground.data }, { on := 12, ground := Go.Ground.data }, { on := 0, ground := Go.Ground.phase }, { on := 1, ground := Go.Ground.phase }, { on := 2, ground := Go.Ground.phase }, { on := 3, ground := Go.Ground.phase }, { on := 4, ground := Go.Ground.phase }, { on := 5, ground := Go.Ground.phase }, { on := 6, ground := Go.Ground.phase }, { on := 7, ground := Go.Ground.phase }, { on := 8, ground := Go.Ground.phase }, { on := 9, ground := Go.Ground.phase }, { on := 10, ground := Go.Ground.phase }, { on := 11, ground := Go.Ground.phase }, { on := 12, ground := Go.Ground.phase }], guard := none }) rfl (fun K hK => ?_) AllReadyH.nil
      go_simp
      go_wp2_with fail
      refine hK.out _ _ ?_ (fun hHeld2 => ?_)
      · exact HP1.out
      clear hK K
      refine wpAnyH_done (by kernel_rfl) ?_ _
      go_wp2_with (fail)
      go_roundw
      case rel => exact ⟨i + 1, q.set i (z - (t : Int)), by omega, by go_num, hid (by rw [List.length_set]; exact HQ.out), hid (fun j hj => by
        rw [ga_set (by have := HQ.out; omega)]
        by_cases hji : j = i
        · rw [if_pos hji, hji]
          have := HP.out i hlt
          have := HZ0.out
          omega
        · rw [if_neg hji]; exact HP.out j hj), hid HK2.out.drew⟩
      case measure => simp [intOf]; omega
    · have HK2 : Hid (BwI W (wr.setCell ⟨gb, i, none⟩ (.int .i64 (1))) s y (.slice (some ⟨rb, ro, none⟩) r.length cr) (.slice ua l.length cu) R G rd (.slice (some ⟨gb, 0, none⟩) r.length gc) (q.set i (1))) := hid (HK.out.put HQ.out.symm i _)
      have HP1 : Hid (((wr.setCell ⟨gb, i, none⟩ (.int .i64 (1))).drew).cell? ⟨lb, lo + i, none⟩ = some (.int .u8 (t : Int))) := hid ((World.cell?_setCell_far _ _ _ _ (by show gb ≠ lb; omega)).trans c1)
      go_wp2_with (fail)
      refine wp_region_held_drew (S := fun V => V.cell? ⟨lb, lo + i, none⟩ = some (.int .u8 (t : Int))) (by kernel_rfl) ?_ (fun hHeld => ?_)
      · exact c1
      refine wpAnyH_take (i := 0) (oi := { dst := some 97, op := Go.Op.move (Go.Operand.tmp 7), type := 24, pos := _, after := #[], guard := none }) (v := ?_) rfl (by kernel_rfl) (by kernel_rfl) (by kernel_rfl) (fun _ _ _ h => h) (Or.inl ⟨by rfl, ?_⟩) (by assumption) ?_
      rotate_left
      · intro w hSw; (try dsimp only at hSw); go_simp <;> first | with_reducible rfl | (rw [if_neg (by first | omega | (simp only [ByteArray.size_append] at *; omega))])
      simp only [Act.put, List.setIfInBounds_toArray, List.set_cons_zero, List.set_cons_succ]
      refine wpAnyH_take (i := 1) (oi := { dst := some 98, op := Go.Op.move (Go.Operand.tmp 8), type := 3, pos := _, after := #[], guard := none }) (v := ?_) rfl (by kernel_rfl) (by kernel_rfl) (by kernel_rfl) (fun _ _ _ h => h) (Or.inl ⟨by rfl, ?_⟩) (by assumption) ?_
      rotate_left
      · intro w hSw; (try dsimp only at hSw); go_simp <;> first | with_reducible rfl | (rw [if_neg (by first | omega | (simp only [ByteArray.size_append] at *; omega))])
      simp only [Act.put, List.setIfInBounds_toArray, List.set_cons_zero, List.set_cons_succ]
      refine wpAnyH_take (i := 2) (oi := { dst := some 99, op := Go.Op.move (Go.Operand.tmp 7), type := 24, pos := _, after := #[], guard := none }) (v := ?_) rfl (by kernel_rfl) (by kernel_rfl) (by kernel_rfl) (fun _ _ _ h => h) (Or.inl ⟨by rfl, ?_⟩) (by assumption) ?_
      rotate_left
      · intro w hSw; (try dsimp only at hSw); go_simp <;> first | with_reducible rfl | (rw [if_neg (by first | omega | (simp only [ByteArray.size_append] at *; omega))])
      simp only [Act.put, List.setIfInBounds_toArray, List.set_cons_zero, List.set_cons_succ]
      refine wpAnyH_take (i := 3) (oi := { dst := some 100, op := Go.Op.move (Go.Operand.tmp 8), type := 3, pos := _, after := #[], guard := none }) (v := ?_) rfl (by kernel_rfl) (by kernel_rfl) (by kernel_rfl) (fun _ _ _ h => h) (Or.inl ⟨by rfl, ?_⟩) (by assumption) ?_
      rotate_left
      · intro w hSw; (try dsimp only at hSw); go_simp <;> first | with_reducible rfl | (rw [if_neg (by first | omega | (simp only [ByteArray.size_append] at *; omega))])
      simp only [Act.put, List.setIfInBounds_toArray, List.set_cons_zero, List.set_cons_succ]
      refine wpAnyH_take (i := 4) (oi := { dst := some 101, op := Go.Op.indexAddr 24 (Go.Operand.tmp 99) (Go.Operand.tmp 100), type := 0, pos := _, after := #[{ on := 2, ground := Go.Ground.data }, { on := 3, ground := Go.Ground.data }], guard := none }) (v := ?_) rfl (by kernel_rfl) (by kernel_rfl) (by kernel_rfl) (fun _ _ _ h => h) (Or.inl ⟨by rfl, ?_⟩) (by assumption) ?_
      rotate_left
      · intro w hSw; (try dsimp only at hSw); go_simp <;> first | with_reducible rfl | (rw [if_neg (by first | omega | (simp only [ByteArray.size_append] at *; omega))])
      simp only [Act.put, List.setIfInBounds_toArray, List.set_cons_zero, List.set_cons_succ]
      refine wpAnyH_take (i := 6) (oi := { dst := some 103, op := Go.Op.move (Go.Operand.tmp 2), type := 43, pos := _, after := #[], guard := none }) (v := ?_) rfl (by kernel_rfl) (by kernel_rfl) (by kernel_rfl) (fun _ _ _ h => h) (Or.inl ⟨by rfl, ?_⟩) (by assumption) ?_
      rotate_left
      · intro w hSw; (try dsimp only at hSw); go_simp <;> first | with_reducible rfl | (rw [if_neg (by first | omega | (simp only [ByteArray.size_append] at *; omega))])
      simp only [Act.put, List.setIfInBounds_toArray, List.set_cons_zero, List.set_cons_succ]
      refine wpAnyH_take (i := 7) (oi := { dst := some 104, op := Go.Op.move (Go.Operand.tmp 8), type := 3, pos := _, after := #[], guard := none }) (v := ?_) rfl (by kernel_rfl) (by kernel_rfl) (by kernel_rfl) (fun _ _ _ h => h) (Or.inl ⟨by rfl, ?_⟩) (by assumption) ?_
      rotate_left
      · intro w hSw; (try dsimp only at hSw); go_simp <;> first | with_reducible rfl | (rw [if_neg (by first | omega | (simp only [ByteArray.size_append] at *; omega))])
      simp only [Act.put, List.setIfInBounds_toArray, List.set_cons_zero, List.set_cons_succ]
      refine wpAnyH_take (i := 8) (oi := { dst := some 105, op := Go.Op.indexAddr 43 (Go.Operand.tmp 103) (Go.Operand.tmp 104), type := 0, pos := _, after := #[{ on := 6, ground := Go.Ground.data }, { on := 7, ground := Go.Ground.data }], guard := none }) (v := ?_) rfl (by kernel_rfl) (by kernel_rfl) (by kernel_rfl) (fun _ _ _ h => h) (Or.inl ⟨by rfl, ?_⟩) (by assumption) ?_
      rotate_left
      · intro w hSw; (try dsimp only at hSw); go_simp <;> first | with_reducible rfl | (rw [if_neg (by first | omega | (simp only [ByteArray.size_append] at *; omega))])
      simp only [Act.put, List.setIfInBounds_toArray, List.set_cons_zero, List.set_cons_succ]
      refine wpAnyH_take (i := 9) (oi := { dst := some 106, op := Go.Op.load 5 (Go.Operand.tmp 105), type := 5, pos := _, after := #[{ on := 8, ground := Go.Ground.data }], guard := none }) (v := ?_) rfl (by kernel_rfl) (by kernel_rfl) (by kernel_rfl) (fun _ _ _ h => h) (Or.inl ⟨by rfl, ?_⟩) (by assumption) ?_
      rotate_left
      · intro w hSw; (try dsimp only at hSw); go_simp <;> first | with_reducible rfl | (rw [if_neg (by first | omega | (simp only [ByteArray.size_append] at *; omega))])
      simp only [Act.put, List.setIfInBounds_toArray, List.set_cons_zero, List.set_cons_succ]
      refine wpAnyH_take (i := 10) (oi := { dst := some 107, op := Go.Op.convert 5 3 (Go.Operand.tmp 106), type := 3, pos := _, after := #[{ on := 9, ground := Go.Ground.data }], guard := none }) (v := ?_) rfl (by kernel_rfl) (by kernel_rfl) (by kernel_rfl) (fun _ _ _ h => h) (Or.inl ⟨by rfl, ?_⟩) (by assumption) ?_
      rotate_left
      · intro w hSw; (try dsimp only at hSw); go_simp <;> first | with_reducible rfl | (rw [if_neg (by first | omega | (simp only [ByteArray.size_append] at *; omega))])
      simp only [Act.put, List.setIfInBounds_toArray, List.set_cons_zero, List.set_cons_succ]
      refine wpAnyH_ready (rs := [5]) (by kernel_rfl) (by simp) ?_
      refine AllReadyH.cons (o := { dst := some 102, op := Go.Op.load 3 (Go.Operand.tmp 101), type := 3, pos := _, after := #[{ on := 4, ground := Go.Ground.data }], guard := none }) rfl (fun K hK => ?_) AllReadyH.nil
      go_simp
      go_wp2_with fail
      refine hK.out _ _ ?_ (fun hHeld1 => ?_)
      · exact c1
      clear hK K
      refine wpAnyH_take (i := 11) (oi := { dst := some 108, op := Go.Op.binOp Go.BinOp.sub 3 (Go.Operand.tmp 102) (Go.Operand.tmp 107) 3, type := 3, pos := _, after := #[{ on := 5, ground := Go.Ground.data }, { on := 10, ground := Go.Ground.data }], guard := none }) (v := ?_) rfl (by kernel_rfl) (by kernel_rfl) (by kernel_rfl) (fun _ _ _ h => h) (Or.inl ⟨by rfl, ?_⟩) (by assumption) ?_
      rotate_left
      · intro w hSw; (try dsimp only at hSw); go_simp <;> first | with_reducible rfl | (rw [if_neg (by first | omega | (simp only [ByteArray.size_append] at *; omega))])
      simp only [Act.put, List.setIfInBounds_toArray, List.set_cons_zero, List.set_cons_succ]
      refine wpAnyH_take (i := 12) (oi := { dst := some 109, op := Go.Op.call { callee := Go.Callee.builtin Go.Builtin.max, args := #[Go.Operand.const (Go.Value.int Go.IntKind.i64 1), Go.Operand.tmp 108], argTypes := #[3, 3] }, type := 3, pos := _, after := #[{ on := 11, ground := Go.Ground.data }], guard := none }) (v := ?_) rfl (by kernel_rfl) (by kernel_rfl) (by kernel_rfl) (fun _ _ _ h => h) (Or.inl ⟨by rfl, ?_⟩) (by assumption) ?_
      rotate_left
      · intro w hSw; (try dsimp only at hSw); go_simp <;> first | with_reducible rfl | (rw [if_neg (by first | omega | (simp only [ByteArray.size_append] at *; omega))])
      simp only [Act.put, List.setIfInBounds_toArray, List.set_cons_zero, List.set_cons_succ]
      refine wpAnyH_take (i := 13) (oi := { dst := some 110, op := Go.Op.indexAddr 24 (Go.Operand.tmp 97) (Go.Operand.tmp 98), type := 0, pos := _, after := #[{ on := 0, ground := Go.Ground.data }, { on := 1, ground := Go.Ground.data }, { on := 0, ground := Go.Ground.phase }, { on := 1, ground := Go.Ground.phase }, { on := 2, ground := Go.Ground.phase }, { on := 3, ground := Go.Ground.phase }, { on := 4, ground := Go.Ground.phase }, { on := 5, ground := Go.Ground.phase }, { on := 6, ground := Go.Ground.phase }, { on := 7, ground := Go.Ground.phase }, { on := 8, ground := Go.Ground.phase }, { on := 9, ground := Go.Ground.phase }, { on := 10, ground := Go.Ground.phase }, { on := 11, ground := Go.Ground.phase }, { on := 12, ground := Go.Ground.phase }], guard := none }) (v := ?_) rfl (by kernel_rfl) (by kernel_rfl) (by kernel_rfl) (fun _ _ _ h => h) (Or.inl ⟨by rfl, ?_⟩) (by assumption) ?_
      rotate_left
      · intro w hSw; (try dsimp only at hSw); go_simp <;> first | with_reducible rfl | (rw [if_neg (by first | omega | (simp only [ByteArray.size_append] at *; omega))])
      simp only [Act.put, List.setIfInBounds_toArray, List.set_cons_zero, List.set_cons_succ]
      refine wpAnyH_ready (rs := [14]) (by kernel_rfl) (by simp) ?_
      refine AllReadyH.cons (o := { dst := none, op := Go.Op.store 3 (Go.Operand.tmp 110) (Go.Operand.tmp 109), type := 0, pos := _, after := #[{ on := 13, ground := Go.Ground.data }, { on := 12, ground := Go.Ground.data }, { on := 0, ground := Go.Ground.phase }, { on := 1, ground := Go.Ground.phase }, { on := 2, ground := Go.Ground.phase }, { on := 3, ground := Go.Ground.phase }, { on := 4, ground := Go.Ground.phase }, { on := 5, ground := Go.Ground.phase }, { on := 6, ground := Go.Ground.phase }, { on := 7, ground := Go.Ground.phase }, { on := 8, ground := Go.Ground.phase }, { on := 9, ground := Go.Ground.phase }, { on := 10, ground := Go.Ground.phase }, { on := 11, ground := Go.Ground.phase }, { on := 12, ground := Go.Ground.phase }], guard := none }) rfl (fun K hK => ?_) AllReadyH.nil
      go_simp
      go_wp2_with fail
      refine hK.out _ _ ?_ (fun hHeld2 => ?_)
      · exact HP1.out
      clear hK K
      refine wpAnyH_done (by kernel_rfl) ?_ _
      go_wp2_with (fail)
      go_roundw
      case rel => exact ⟨i + 1, q.set i (1), by omega, by go_num, hid (by rw [List.length_set]; exact HQ.out), hid (fun j hj => by
        rw [ga_set (by have := HQ.out; omega)]
        by_cases hji : j = i
        · rw [if_pos hji, hji]
          have := HP.out i hlt
          have := HZ0.out
          omega
        · rw [if_neg hji]; exact HP.out j hj), hid HK2.out.drew⟩
      case measure => simp [intOf]; omega
end Go.Proofs.Ytkleipfhifjlmaa.Slo
