/-
  Are all names short, and with an end behind each name: the contracts of short and turned.
  With an end behind each name: the contract of turned.
  A program's twin in which each name gets an end: what stands while that is done.
  With other names, in all its places, a program is checked just if it was: the walk of the law.
-/
import Derived.Test.YtilpoiihoikhlaaDoorW5
import Derived.Test.YtilpoiihoikhlaaDoorW7
import Derived.Test.YtilpoiihoikhlaaDoorW4
namespace Go.Proofs.YtilpoiihoikhlaaDoor.Lex
open Go.ChangeShapes Go.WideShapes Go.ChangeAt Go.RowKit Go.Joins
def ShC (x : Ex) : Prop := ∀ (w : World) (s : Value), St w x s → Calls Tryd.prog 16 #[exV x s] w fun e w' => e = .returned (.bool (shE x)) ∧ Below w.heap.size w w'
set_option maxRecDepth 100000 in
set_option maxHeartbeats 1000000 in
theorem short_of (x : Ex) (ih : ∀ i (h : i < x.args.length), ShC x.args[i]) : ShC x := by
  intro w s hS
  obtain ⟨ao, cap, sl, rfl, hop, hn, hnm, hlen, _, hc, hs⟩ := hS.out
  have HS := hid hs
  have HC := hid hc
  have HI := hid ih
  have B0 := hid ((Below.refl w.heap.size w).alloc (Nat.le_refl _) (.cells (ex4 x (.slice ao x.args.length cap)) 41))
  have X0 := hid (heap_alloc_new w (.cells (ex4 x (.slice ao x.args.length cap)) 41))
  clear hs hc ih hS
  go_enter Tryd.func16, Tryd.ntmps16
  go_wp2_with (fail)
  go_loopw [3] (fun i wr => ∃ k : Nat, k ≤ x.args.length ∧ i = .int .i64 (k : Int) ∧ Hid (∀ y ∈ x.args.take k, shE y = true) ∧ Hid (Below w.heap.size w wr) ∧ Hid (wr.heap[w.heap.size]? = some (.cells (ex4 x (.slice ao x.args.length cap)) 41 (0, 0)))) (fun i _ => x.args.length - (intOf i).toNat)
  case atStart => exact ⟨0, Nat.zero_le _, rfl, hid (by simp), B0, X0⟩
  case round =>
    obtain ⟨k, hk, rfl, HA, HB, HX⟩ := hrel
    have v2 := (cell_of_row wr w.heap.size 2 _ 41 (0, 0) HX.out).trans (show _ = some (.string x.name) from rfl)
    have v3 := (cell_of_row wr w.heap.size 3 _ 41 (0, 0) HX.out).trans (show _ = some (.slice ao x.args.length cap) from rfl)
    by_cases hlt : k < x.args.length
    · have hlt' : (k : Int) < (x.args.length : Int) := by omega
      have hk0 : (0 : Int) ≤ (k : Int) := by omega
      obtain ⟨b, o, rfl, hc⟩ := HC.out.resolve_left (by omega)
      obtain ⟨h0, h1, h2, h3⟩ := hc k hlt
      have y0 := cell_kept h0 HB.out
      have y1 := cell_kept h1 HB.out
      have y2 := cell_kept h2 HB.out
      have y3 := cell_kept h3 HB.out
      obtain ⟨a4, c4, _, e4, _⟩ := (HS.out k hlt).out
      rw [e4] at y3
      have c := HI.out k hlt wr _ (e4 ▸ ((HS.out k hlt).keep HB.out))
      have HT := hid (List.take_succ_eq_append_getElem hlt)
      have HM := hid (List.getElem_mem hlt)
      clear h0 h1 h2 h3 hc e4
      generalize x.args[k] = y at *
      cases hy : shE y with
      | true =>
        rw [hy] at c
        go_wp2_with (fail)
        refine c.mono ?_
        rintro e w2 ⟨rfl, hb2⟩
        have HB2 := hid (HB.out.trans (hb2.mono HB.out.size))
        have HX2 := hid (keep_row HX.out hb2)
        go_wp2_with (fail)
        go_roundw
        case rel => exact ⟨k + 1, by omega, by go_num, hid (fun z hz => by rw [HT.out] at hz; rcases List.mem_append.1 hz with h | h; exact HA.out z h; rw [List.mem_singleton.1 h]; exact hy), HB2, HX2⟩
        case measure => simp [intOf]; omega
      | false =>
        rw [hy] at c
        have hf : shE x = false := by
          rw [shE_eq, Bool.and_eq_false_iff]
          exact .inl (List.all_eq_false.2 ⟨y, HM.out, by rw [hy]; simp⟩)
        have HF := hid hf
        clear hf
        go_wp2_with (fail)
        refine c.mono ?_
        rintro e w2 ⟨rfl, hb2⟩
        have hB := HB.out.trans (hb2.mono HB.out.size)
        go_wp2_with (fail)
        go_ret
        exact ⟨by rw [HF.out]; rfl, hB⟩
    · have hlt' : ¬ (k : Int) < (x.args.length : Int) := by omega
      obtain rfl : k = x.args.length := by omega
      have hB := HB.out
      have ha : x.args.all shE = true := List.all_eq_true.2 (fun y hy => HA.out y (by rw [List.take_length]; exact hy))
      by_cases h38 : x.name.size ≤ 38
      · have h38' : (x.name.size : Int) ≤ 38 := by omega
        have HF : Hid (shE x = true) := hid (by rw [shE_eq, ha, Bool.true_and, decide_eq_true h38])
        clear h38 ha
        go_wp2_with (fail)
        go_ret
        exact ⟨by rw [HF.out]; rfl, hB⟩
      · have h38' : ¬ (x.name.size : Int) ≤ 38 := by omega
        have HF : Hid (shE x = false) := hid (by rw [shE_eq, ha, Bool.true_and, decide_eq_false h38])
        clear h38 ha
        go_wp2_with (fail)
        go_ret
        exact ⟨by rw [HF.out]; rfl, hB⟩
theorem short_any : ∀ (m : Nat) (x : Ex), SizeOf.sizeOf x ≤ m → ShC x := by
  intro m
  induction m with
  | zero => intro x h; obtain ⟨o, n, s, l⟩ := x; simp at h
  | succ m ih => intro x h; exact short_of x fun i hi => ih _ (by have := x.part_lt i hi; omega)
/-- The rows of parts. -/
abbrev exL (x : Ex) (s : Value) : List Value := [.int .u8 (x.op : Int), .int .i64 x.n, .string x.name, s]
abbrev esX (qs : List (Ex × Value)) : List (List Value) := qs.map fun (q : Ex × Value) => exL q.1 q.2
theorem esX_each (qs : List (Ex × Value)) : ∀ e ∈ esX qs, e.length = 4 := fun e he => by
  obtain ⟨q, _, rfl⟩ := List.mem_map.1 he
  rfl
theorem own_ex {X : World} {lo : Nat} {v : Value} {qs : List (Ex × Value)} (op : Nat) (n : Int) (nm : ByteArray) (hop : op < 256) (hn : -9223372036854775808 ≤ n ∧ n ≤ 9223372036854775807) (hnm : nm.size ≤ 140737488355328)
    (hown : X.ownsRow lo 41 4 v qs.length (esX qs).flatten) (hlen : qs.length ≤ 2513169434843) (hst : ∀ q ∈ qs, StP (fun b => lo ≤ b) X q.1 q.2) : StP (fun b => lo ≤ b) X ⟨op, n, nm, qs.map (·.1)⟩ v := by
  have hst' : ∀ i (h : i < (qs.map fun (q : Ex × Value) => q.1).length), StP (fun b => lo ≤ b) X (qs.map fun (q : Ex × Value) => q.1)[i] ((qs[i]?.map (·.2)).getD (.slice none 0 0)) := fun i hi => by
    have hi' : i < qs.length := by simpa using hi
    rw [List.getElem?_eq_getElem hi']
    simpa using hst qs[i] (List.getElem_mem hi')
  have go : ∀ ao cap, v = .slice ao qs.length cap → qs.length ≤ cap → (qs.length = 0 ∨ ∃ b o, ao = some ⟨b, o, none⟩ ∧ lo ≤ b ∧ ∀ i (h : i < qs.length), X.cell? ⟨b, o + i * 4, none⟩ = some (.int .u8 (qs[i].1.op : Int)) ∧ X.cell? ⟨b, o + i * 4 + 1, none⟩ = some (.int .i64 qs[i].1.n) ∧ X.cell? ⟨b, o + i * 4 + 2, none⟩ = some (.string qs[i].1.name) ∧ X.cell? ⟨b, o + i * 4 + 3, none⟩ = some qs[i].2) → StP (fun b => lo ≤ b) X ⟨op, n, nm, qs.map (·.1)⟩ v := by
    intro ao cap e hcap hc
    have := StP.intro (ok := fun b => lo ≤ b) (w := X) ⟨op, n, nm, qs.map (·.1)⟩ ao cap (fun i => (qs[i]?.map (·.2)).getD (.slice none 0 0)) hop hn hnm (by simpa using hlen) (by simpa using hcap) (by
      rcases hc with h0 | ⟨b, o, ha, hb, hc⟩
      · exact .inl (by simpa using h0)
      · refine .inr ⟨b, o, ha, hb, fun i hi => ?_⟩
        have hi' : i < qs.length := by simpa using hi
        rw [List.getElem?_eq_getElem hi']
        simpa using hc i hi') hst'
    rw [e]
    simpa using this
  rcases hown.2 with ⟨h, h0⟩ | ⟨g, cap, cur, e, hg, _, hcap, _⟩
  · exact go none 0 (by rw [h, h0]) (by omega) (.inl h0)
  · refine go _ cap e hcap (.inr ⟨g, 0, rfl, hg, fun i hi => ?_⟩)
    have he : (esX qs)[i]? = some (exL qs[i].1 qs[i].2) := by rw [List.getElem?_map, List.getElem?_eq_getElem hi]; rfl
    have c : ∀ j u, (exL qs[i].1 qs[i].2)[j]? = some u → X.cell? ⟨g, i * 4 + j, none⟩ = some u := fun j u hu => by
      have hj : j < 4 := (List.getElem?_eq_some_iff.1 hu).1
      subst e
      rw [hown.cellAt _ (by omega)]
      have := flat_at (rest := []) (esX_each qs) he hj
      rw [List.append_nil] at this
      rw [this]
      exact hu
    simp only [Nat.zero_add]
    exact ⟨c 0 _ rfl, c 1 _ rfl, c 2 _ rfl, c 3 _ rfl⟩
/-- The row of the parts, while it is made. -/
structure XV (w0 : World) (qs : List (Ex × Value)) (v : Value) (W : World) : Prop where
  below : Below w0.heap.size w0 W
  own : W.ownsRow w0.heap.size 41 4 v qs.length (esX qs).flatten
  parts : ∀ q ∈ qs, StP (fun b => w0.heap.size ≤ b ∧ v.ownBlock ≠ some b) W q.1 q.2
theorem XV.start (w0 : World) : XV w0 [] (.slice none 0 0) w0 := ⟨Below.refl _ _, ⟨rfl, .inl ⟨rfl, rfl⟩⟩, fun q hq => by cases hq⟩
theorem XV.keep {w0 W W' : World} {qs : List (Ex × Value)} {v : Value} (h : XV w0 qs v W) (hb : Below W.heap.size W W') : XV w0 qs v W' :=
  ⟨h.below.trans (hb.mono h.below.size), own_carry h.own (fun b _ hlt => hb.block b hlt), fun q hq => (h.parts q hq).carry (fun b _ hlt => hb.block b hlt)⟩
theorem XV.lt {w0 W : World} {qs : List (Ex × Value)} {v : Value} (h : XV w0 qs v W) {b : Nat} (hb : v.ownBlock = some b) : w0.heap.size ≤ b ∧ b < W.heap.size := by
  rcases h.own.2 with ⟨e, _⟩ | ⟨g, cap, cur, e, h1, h2, _⟩
  · rw [e] at hb; cases hb
  · rw [e] at hb
    have : g = b := by injection hb
    subst this
    exact ⟨h1, (Array.getElem?_eq_some_iff.1 h2).1⟩
theorem XV.slice {w0 W : World} {qs : List (Ex × Value)} {v : Value} (h : XV w0 qs v W) : ∃ ao cap, v = .slice ao qs.length cap := by
  rcases h.own.2 with ⟨e, e0⟩ | ⟨g, cap, cur, e, _⟩
  · exact ⟨none, 0, by rw [e, e0]⟩
  · exact ⟨_, cap, e⟩
theorem XV.grow {w0 W0 W W' : World} {qs : List (Ex × Value)} {v v' : Value} {y : Ex} {s : Value} (h0 : XV w0 qs v W0) (hb : Below W0.heap.size W0 W) (hy : StP (fun b => W0.heap.size ≤ b) W y s)
    (hown : W'.ownsRow w0.heap.size 41 4 v' (qs.length + 1) ((esX qs).flatten ++ exL y s)) (hg : W.grownBy W' v.ownBlock) (hat : v'.ownBlock = v.ownBlock ∨ v'.ownBlock = some W.heap.size) : XV w0 (qs ++ [(y, s)]) v' W' where
  below := (h0.below.trans (hb.mono h0.below.size)).grown hg (Nat.le_trans h0.below.size hb.size) (fun j hj => (h0.lt hj).1)
  own := by
    have e1 : (qs ++ [(y, s)]).length = qs.length + 1 := by simp
    have e2 : (esX (qs ++ [(y, s)])).flatten = (esX qs).flatten ++ exL y s := by simp
    rw [e1, e2]
    exact hown
  parts := fun q hq => by
    have hv : ∀ b, b < W.heap.size → w0.heap.size ≤ b ∧ v.ownBlock ≠ some b → w0.heap.size ≤ b ∧ v'.ownBlock ≠ some b := fun b hlt hb => ⟨hb.1, fun e => by
      rcases hat with h | h
      · rw [h] at e; exact hb.2 e
      · rw [h] at e; injection e with e; omega⟩
    have hc : ∀ b, w0.heap.size ≤ b ∧ v.ownBlock ≠ some b → b < W.heap.size → W'.heap[b]? = W.heap[b]? := fun b hb hlt => hg.block b hlt (fun e => hb.2 e.symm)
    rcases List.mem_append.1 hq with hq | hq
    · exact StP.carryN hc hv _ _ _ (Nat.le_refl _) ((h0.keep hb).parts q hq)
    · rw [List.mem_singleton.1 hq]
      have hy' : StP (fun b => w0.heap.size ≤ b ∧ v.ownBlock ≠ some b) W y s := StP.carryN (fun _ _ _ => rfl) (fun b _ hle => ⟨Nat.le_trans h0.below.size hle, fun e => by have := (h0.lt e).2; omega⟩) _ _ _ (Nat.le_refl _) hy
      exact StP.carryN hc hv _ _ _ (Nat.le_refl _) hy'
end Go.Proofs.YtilpoiihoikhlaaDoor.Lex
namespace Go.Proofs.YtilpoiihoikhlaaDoor.Lex
open Go.ChangeShapes Go.WideShapes Go.ChangeAt Go.RowKit Go.Joins
def TnC (e : ByteArray) (x : Ex) : Prop := ∀ (w : World) (s : Value), St w x s → shE x = true → Calls Tryd.prog 17 #[exV x s, .string e] w fun r w' => ∃ s', r = .returned (exV (rnE e x) s') ∧ StP (fun b => w.heap.size ≤ b) w' (rnE e x) s' ∧ Below w.heap.size w w'
def nmX (e : ByteArray) (x : Ex) : ByteArray := if x.op = 3 then x.name ++ e else x.name
set_option maxRecDepth 100000 in
set_option maxHeartbeats 2000000 in
theorem turned_of (e : ByteArray) (he : e.size = 2) (x : Ex) (ih : ∀ i (h : i < x.args.length), TnC e x.args[i]) : TnC e x := by
  intro w s hS hsh
  obtain ⟨ao, cap, sl, rfl, hop, hn, hnm, hlen, _, hc, hs⟩ := hS.out
  rw [shE_eq, Bool.and_eq_true, decide_eq_true_eq, List.all_eq_true] at hsh
  have HS := hid hs
  have HC := hid hc
  have HI := hid ih
  have HSH := hid hsh.1
  have h38 := hsh.2
  obtain ⟨i0, hi, hz0, hz1, hz2⟩ := info_parts info25'
  clear hs hc ih hS hsh
  by_cases h3 : x.op = 3
  · have h3' : ((x.op : Int) == 3) = true := by rw [beq_iff_eq]; omega
    have HNM : Hid (nmX e x = (x.name ++ e)) := hid (by unfold nmX; rw [if_pos h3])
    clear h3
    have B0 := hid (bstep ((Below.refl w.heap.size w).alloc (Nat.le_refl _) (.cells #[.int .u8 (x.op : Int), .int .i64 x.n, .string (x.name ++ e), .slice ao x.args.length cap] 41)) ((Below.refl _ _).alloc (Nat.le_refl _) (.cells #[.int .u8 0, .int .i64 0, .string ⟨#[]⟩, .slice none 0 0] 41)))
    have R0 := hid (show ((w.alloc (.cells #[.int .u8 (x.op : Int), .int .i64 x.n, .string (x.name ++ e), .slice ao x.args.length cap] 41)).alloc (.cells #[.int .u8 0, .int .i64 0, .string ⟨#[]⟩, .slice none 0 0] 41)).heap[w.heap.size]? = some (.cells #[.int .u8 (x.op : Int), .int .i64 x.n, .string (x.name ++ e), .slice ao x.args.length cap] 41 (0, 0)) from push_old (push_new _ _ _ rfl))
    have R1 := hid (show ((w.alloc (.cells #[.int .u8 (x.op : Int), .int .i64 x.n, .string (x.name ++ e), .slice ao x.args.length cap] 41)).alloc (.cells #[.int .u8 0, .int .i64 0, .string ⟨#[]⟩, .slice none 0 0] 41)).heap[w.heap.size + 1]? = some (.cells #[.int .u8 0, .int .i64 0, .string ⟨#[]⟩, .slice none 0 0] 41 (0, 0)) from push_new _ _ _ (by simp))
    have S0 := hid (show ((w.alloc (.cells #[.int .u8 (x.op : Int), .int .i64 x.n, .string (x.name ++ e), .slice ao x.args.length cap] 41)).alloc (.cells #[.int .u8 0, .int .i64 0, .string ⟨#[]⟩, .slice none 0 0] 41)).heap.size = w.heap.size + 2 by simp)
    go_enter Tryd.func17, Tryd.ntmps17
    go_wp2_with (fail)
    generalize ((w.alloc (.cells #[.int .u8 (x.op : Int), .int .i64 x.n, .string (x.name ++ e), .slice ao x.args.length cap] 41)).alloc (.cells #[.int .u8 0, .int .i64 0, .string ⟨#[]⟩, .slice none 0 0] 41)) = w0 at *
    go_loopw [5, 6] (fun l i wr => ∃ (k : Nat) (qs : List (Ex × Value)), k ≤ x.args.length ∧ i = .int .i64 (k : Int) ∧ Hid (XV w0 qs l wr) ∧ Hid (qs.map (·.1) = (x.args.take k).map (rnE e))) (fun _ i _ => x.args.length - (intOf i).toNat)
    case atStart => exact ⟨0, [], Nat.zero_le _, rfl, hid (XV.start w0), hid (by simp)⟩
    case round =>
      obtain ⟨k, qs, hk, rfl, HX, HQ⟩ := hrel
      have RR := hid (keep_row R0.out HX.out.below)
      have RK := hid (keep_row R1.out HX.out.below)
      have SZ := hid (show w.heap.size + 2 ≤ wr.heap.size from S0.out ▸ HX.out.below.size)
      have HB := hid (bstep B0.out HX.out.below)
      have hql : qs.length = k := by have h := congrArg List.length HQ.out; simp at h; omega
      have v0 := (cell_of_row wr w.heap.size 0 _ 41 (0, 0) RR.out).trans (show _ = some (.int .u8 (x.op : Int)) from rfl)
      have v1 := (cell_of_row wr w.heap.size 1 _ 41 (0, 0) RR.out).trans (show _ = some (.int .i64 x.n) from rfl)
      have v2 := (cell_of_row wr w.heap.size 2 _ 41 (0, 0) RR.out).trans (show _ = some (.string ((x.name ++ e))) from rfl)
      have v3 := (cell_of_row wr w.heap.size 3 _ 41 (0, 0) RR.out).trans (show _ = some (.slice ao x.args.length cap) from rfl)
      by_cases hlt : k < x.args.length
      · have hlt' : (k : Int) < (x.args.length : Int) := by omega
        have hk0 : (0 : Int) ≤ (k : Int) := by omega
        obtain ⟨b, o, rfl, hc⟩ := HC.out.resolve_left (by omega)
        obtain ⟨h0, h1, h2, h3⟩ := hc k hlt
        have y0 := cell_kept h0 HB.out
        have y1 := cell_kept h1 HB.out
        have y2 := cell_kept h2 HB.out
        have y3 := cell_kept h3 HB.out
        obtain ⟨a4, c4, _, e4, _⟩ := (HS.out k hlt).out
        rw [e4] at y3
        have c := HI.out k hlt wr _ (e4 ▸ ((HS.out k hlt).keep HB.out)) (HSH.out _ (List.getElem_mem hlt))
        have HT : Hid ((x.args.take (k + 1)).map (rnE e) = (x.args.take k).map (rnE e) ++ [rnE e x.args[k]]) := hid (by rw [List.take_succ_eq_append_getElem hlt, List.map_append]; rfl)
        clear h0 h1 h2 h3 hc e4
        generalize x.args[k] = y at *
        go_wp2_with (fail)
        refine c.mono ?_
        rintro r w2 ⟨s', rfl, hst, hb2⟩
        obtain ⟨a5, c5, _, rfl, _⟩ := hst.out
        generalize rnE e y = z at *
        have HST := hid hst
        have HB2 := hid hb2
        have HBA := hid (hb2.alloc hb2.size (.cells #[.int .u8 (z.op : Int), .int .i64 z.n, .string z.name, .slice a5 z.args.length c5] 41))
        have X2 := hid (HX.out.keep HBA.out)
        have N2 := hid (next_cells w2 (exL z (.slice a5 z.args.length c5)) 41)
        have Z2 := hid (HST.out.carry (w' := w2.alloc (.cells #[.int .u8 (z.op : Int), .int .i64 z.n, .string z.name, .slice a5 z.args.length c5] 41)) (fun b _ hlt => Below.heap_alloc _ _ _ hlt))
        have hmx : qs.length + 1 ≤ maxLen := by unfold maxLen; omega
        clear hst hb2 y0 y1 y2 y3 v0 v1 v2 v3
        go_wp2_with (at_builtin; refine wpList_append_own_at _ rfl (.tmp 22) (.tmp 30) 39 rfl w0.heap.size 41 i0 _ 4 56 Tryd.underlying39 hi hz0 hz1 hz2 rfl (by decide) _ _ _ rfl X2.out.own ⟨w2.heap.size, 0, none⟩ 1 1 (exL z (.slice a5 z.args.length c5)) rfl rfl N2.out (by simp [Value.oneCell']) hmx (by omega) X2.out.below.size ?_; intro v' w' hown1 hgrow1 _ hat1; have X3 := hid (HX.out.grow HBA.out Z2.out hown1 hgrow1 hat1); clear hown1 hgrow1 hat1)
        go_roundw
        case rel => exact ⟨k + 1, qs ++ [(z, .slice a5 z.args.length c5)], by omega, by go_num, X3, hid (by rw [HT.out, List.map_append, HQ.out]; rfl)⟩
        case measure => simp [intOf]; omega
      · have hlt' : ¬ (k : Int) < (x.args.length : Int) := by omega
        obtain rfl : k = x.args.length := by omega
        have HQL := hid hql
        clear hql
        obtain ⟨fo, fc, rfl⟩ := HX.out.slice
        have fz3 := fz_row RR.out 3
        have HK := hid (show (wr.setCell ⟨w.heap.size, 3, none⟩ (.slice fo qs.length fc)).heap[w.heap.size + 1]? = some (.cells #[.int .u8 0, .int .i64 0, .string ⟨#[]⟩, .slice none 0 0] 41 (0, 0)) from (Below.heap_setCell _ _ _ _ (by simp)).trans RK.out)
        go_wp2_with (refine wpList_store_row rfl 41 _ _ rfl (w.heap.size + 1) #[.int .u8 (x.op : Int), .int .i64 x.n, .string ((x.name ++ e)), .slice fo qs.length fc] rfl rfl 41 _ HK.out info25 rfl (by simp [Value.oneCell']) ?_)
        have hsame : ∀ b, w0.heap.size ≤ b → ((wr.setCell ⟨w.heap.size, 3, none⟩ (.slice fo qs.length fc)).setRow (w.heap.size + 1) #[.int .u8 (x.op : Int), .int .i64 x.n, .string ((x.name ++ e)), .slice fo qs.length fc]).heap[b]? = wr.heap[b]? := fun b hb => by
          have hs0 := S0.out
          rw [setRow_other _ _ _ _ (by omega)]
          exact Below.heap_setCell _ _ _ _ (by simp; omega)
        refine bodyPost_ret (results_cell_row rfl _ _ (w.heap.size + 1) 41 #[.int .u8 (x.op : Int), .int .i64 x.n, .string ((x.name ++ e)), .slice fo qs.length fc] (0, 0) _ rfl (setRow_heap _ _ _ _ _ _ HK.out) Tryd.underlying41 rfl info25) rfl ⟨.slice fo qs.length fc, ?_, ?_, ?_⟩
        · rw [rnE_eq]
          show _ = Ending.returned (.agg #[.int .u8 (x.op : Int), .int .i64 x.n, .string (nmX e x), .slice fo qs.length fc])
          rw [HNM.out]
        · have := own_ex (n := x.n) (nm := nmX e x) x.op hop hn (by rw [HNM.out]; simp only [ByteArray.size_append]; omega) (own_carry HX.out.own (fun b hb _ => hsame b hb)) (by have := HQL.out; omega) (fun q hq => StP.carryN (fun b hb _ => hsame b hb.1) (fun b _ hb => hb.1) _ _ _ (Nat.le_refl _) (HX.out.parts q hq))
          rw [HQ.out, List.take_length] at this
          rw [rnE_eq]
          exact StP.carryN (fun _ _ _ => rfl) (fun b _ hb => Nat.le_trans (by have := S0.out; omega) hb) _ _ _ (Nat.le_refl _) this
        · exact below_row (HB.out.setCell (p := ⟨w.heap.size, 3, none⟩) (Nat.le_refl _) _) (by have := SZ.out; simp; omega) (by omega) _
  · have h3' : ((x.op : Int) == 3) = false := by rw [beq_eq_false_iff_ne]; omega
    have HNM : Hid (nmX e x = x.name) := hid (by unfold nmX; rw [if_neg h3])
    clear h3
    have B0 := hid (bstep ((Below.refl w.heap.size w).alloc (Nat.le_refl _) (.cells #[.int .u8 (x.op : Int), .int .i64 x.n, .string x.name, .slice ao x.args.length cap] 41)) ((Below.refl _ _).alloc (Nat.le_refl _) (.cells #[.int .u8 0, .int .i64 0, .string ⟨#[]⟩, .slice none 0 0] 41)))
    have R0 := hid (show ((w.alloc (.cells #[.int .u8 (x.op : Int), .int .i64 x.n, .string x.name, .slice ao x.args.length cap] 41)).alloc (.cells #[.int .u8 0, .int .i64 0, .string ⟨#[]⟩, .slice none 0 0] 41)).heap[w.heap.size]? = some (.cells #[.int .u8 (x.op : Int), .int .i64 x.n, .string x.name, .slice ao x.args.length cap] 41 (0, 0)) from push_old (push_new _ _ _ rfl))
    have R1 := hid (show ((w.alloc (.cells #[.int .u8 (x.op : Int), .int .i64 x.n, .string x.name, .slice ao x.args.length cap] 41)).alloc (.cells #[.int .u8 0, .int .i64 0, .string ⟨#[]⟩, .slice none 0 0] 41)).heap[w.heap.size + 1]? = some (.cells #[.int .u8 0, .int .i64 0, .string ⟨#[]⟩, .slice none 0 0] 41 (0, 0)) from push_new _ _ _ (by simp))
    have S0 := hid (show ((w.alloc (.cells #[.int .u8 (x.op : Int), .int .i64 x.n, .string x.name, .slice ao x.args.length cap] 41)).alloc (.cells #[.int .u8 0, .int .i64 0, .string ⟨#[]⟩, .slice none 0 0] 41)).heap.size = w.heap.size + 2 by simp)
    go_enter Tryd.func17, Tryd.ntmps17
    go_wp2_with (fail)
    generalize ((w.alloc (.cells #[.int .u8 (x.op : Int), .int .i64 x.n, .string x.name, .slice ao x.args.length cap] 41)).alloc (.cells #[.int .u8 0, .int .i64 0, .string ⟨#[]⟩, .slice none 0 0] 41)) = w0 at *
    go_loopw [5, 6] (fun l i wr => ∃ (k : Nat) (qs : List (Ex × Value)), k ≤ x.args.length ∧ i = .int .i64 (k : Int) ∧ Hid (XV w0 qs l wr) ∧ Hid (qs.map (·.1) = (x.args.take k).map (rnE e))) (fun _ i _ => x.args.length - (intOf i).toNat)
    case atStart => exact ⟨0, [], Nat.zero_le _, rfl, hid (XV.start w0), hid (by simp)⟩
    case round =>
      obtain ⟨k, qs, hk, rfl, HX, HQ⟩ := hrel
      have RR := hid (keep_row R0.out HX.out.below)
      have RK := hid (keep_row R1.out HX.out.below)
      have SZ := hid (show w.heap.size + 2 ≤ wr.heap.size from S0.out ▸ HX.out.below.size)
      have HB := hid (bstep B0.out HX.out.below)
      have hql : qs.length = k := by have h := congrArg List.length HQ.out; simp at h; omega
      have v0 := (cell_of_row wr w.heap.size 0 _ 41 (0, 0) RR.out).trans (show _ = some (.int .u8 (x.op : Int)) from rfl)
      have v1 := (cell_of_row wr w.heap.size 1 _ 41 (0, 0) RR.out).trans (show _ = some (.int .i64 x.n) from rfl)
      have v2 := (cell_of_row wr w.heap.size 2 _ 41 (0, 0) RR.out).trans (show _ = some (.string (x.name)) from rfl)
      have v3 := (cell_of_row wr w.heap.size 3 _ 41 (0, 0) RR.out).trans (show _ = some (.slice ao x.args.length cap) from rfl)
      by_cases hlt : k < x.args.length
      · have hlt' : (k : Int) < (x.args.length : Int) := by omega
        have hk0 : (0 : Int) ≤ (k : Int) := by omega
        obtain ⟨b, o, rfl, hc⟩ := HC.out.resolve_left (by omega)
        obtain ⟨h0, h1, h2, h3⟩ := hc k hlt
        have y0 := cell_kept h0 HB.out
        have y1 := cell_kept h1 HB.out
        have y2 := cell_kept h2 HB.out
        have y3 := cell_kept h3 HB.out
        obtain ⟨a4, c4, _, e4, _⟩ := (HS.out k hlt).out
        rw [e4] at y3
        have c := HI.out k hlt wr _ (e4 ▸ ((HS.out k hlt).keep HB.out)) (HSH.out _ (List.getElem_mem hlt))
        have HT : Hid ((x.args.take (k + 1)).map (rnE e) = (x.args.take k).map (rnE e) ++ [rnE e x.args[k]]) := hid (by rw [List.take_succ_eq_append_getElem hlt, List.map_append]; rfl)
        clear h0 h1 h2 h3 hc e4
        generalize x.args[k] = y at *
        go_wp2_with (fail)
        refine c.mono ?_
        rintro r w2 ⟨s', rfl, hst, hb2⟩
        obtain ⟨a5, c5, _, rfl, _⟩ := hst.out
        generalize rnE e y = z at *
        have HST := hid hst
        have HB2 := hid hb2
        have HBA := hid (hb2.alloc hb2.size (.cells #[.int .u8 (z.op : Int), .int .i64 z.n, .string z.name, .slice a5 z.args.length c5] 41))
        have X2 := hid (HX.out.keep HBA.out)
        have N2 := hid (next_cells w2 (exL z (.slice a5 z.args.length c5)) 41)
        have Z2 := hid (HST.out.carry (w' := w2.alloc (.cells #[.int .u8 (z.op : Int), .int .i64 z.n, .string z.name, .slice a5 z.args.length c5] 41)) (fun b _ hlt => Below.heap_alloc _ _ _ hlt))
        have hmx : qs.length + 1 ≤ maxLen := by unfold maxLen; omega
        clear hst hb2 y0 y1 y2 y3 v0 v1 v2 v3
        go_wp2_with (at_builtin; refine wpList_append_own_at _ rfl (.tmp 22) (.tmp 30) 39 rfl w0.heap.size 41 i0 _ 4 56 Tryd.underlying39 hi hz0 hz1 hz2 rfl (by decide) _ _ _ rfl X2.out.own ⟨w2.heap.size, 0, none⟩ 1 1 (exL z (.slice a5 z.args.length c5)) rfl rfl N2.out (by simp [Value.oneCell']) hmx (by omega) X2.out.below.size ?_; intro v' w' hown1 hgrow1 _ hat1; have X3 := hid (HX.out.grow HBA.out Z2.out hown1 hgrow1 hat1); clear hown1 hgrow1 hat1)
        go_roundw
        case rel => exact ⟨k + 1, qs ++ [(z, .slice a5 z.args.length c5)], by omega, by go_num, X3, hid (by rw [HT.out, List.map_append, HQ.out]; rfl)⟩
        case measure => simp [intOf]; omega
      · have hlt' : ¬ (k : Int) < (x.args.length : Int) := by omega
        obtain rfl : k = x.args.length := by omega
        have HQL := hid hql
        clear hql
        obtain ⟨fo, fc, rfl⟩ := HX.out.slice
        have fz3 := fz_row RR.out 3
        have HK := hid (show (wr.setCell ⟨w.heap.size, 3, none⟩ (.slice fo qs.length fc)).heap[w.heap.size + 1]? = some (.cells #[.int .u8 0, .int .i64 0, .string ⟨#[]⟩, .slice none 0 0] 41 (0, 0)) from (Below.heap_setCell _ _ _ _ (by simp)).trans RK.out)
        go_wp2_with (refine wpList_store_row rfl 41 _ _ rfl (w.heap.size + 1) #[.int .u8 (x.op : Int), .int .i64 x.n, .string (x.name), .slice fo qs.length fc] rfl rfl 41 _ HK.out info25 rfl (by simp [Value.oneCell']) ?_)
        have hsame : ∀ b, w0.heap.size ≤ b → ((wr.setCell ⟨w.heap.size, 3, none⟩ (.slice fo qs.length fc)).setRow (w.heap.size + 1) #[.int .u8 (x.op : Int), .int .i64 x.n, .string (x.name), .slice fo qs.length fc]).heap[b]? = wr.heap[b]? := fun b hb => by
          have hs0 := S0.out
          rw [setRow_other _ _ _ _ (by omega)]
          exact Below.heap_setCell _ _ _ _ (by simp; omega)
        refine bodyPost_ret (results_cell_row rfl _ _ (w.heap.size + 1) 41 #[.int .u8 (x.op : Int), .int .i64 x.n, .string (x.name), .slice fo qs.length fc] (0, 0) _ rfl (setRow_heap _ _ _ _ _ _ HK.out) Tryd.underlying41 rfl info25) rfl ⟨.slice fo qs.length fc, ?_, ?_, ?_⟩
        · rw [rnE_eq]
          show _ = Ending.returned (.agg #[.int .u8 (x.op : Int), .int .i64 x.n, .string (nmX e x), .slice fo qs.length fc])
          rw [HNM.out]
        · have := own_ex (n := x.n) (nm := nmX e x) x.op hop hn (by rw [HNM.out]; omega) (own_carry HX.out.own (fun b hb _ => hsame b hb)) (by have := HQL.out; omega) (fun q hq => StP.carryN (fun b hb _ => hsame b hb.1) (fun b _ hb => hb.1) _ _ _ (Nat.le_refl _) (HX.out.parts q hq))
          rw [HQ.out, List.take_length] at this
          rw [rnE_eq]
          exact StP.carryN (fun _ _ _ => rfl) (fun b _ hb => Nat.le_trans (by have := S0.out; omega) hb) _ _ _ (Nat.le_refl _) this
        · exact below_row (HB.out.setCell (p := ⟨w.heap.size, 3, none⟩) (Nat.le_refl _) _) (by have := SZ.out; simp; omega) (by omega) _
theorem turned_any (e : ByteArray) (he : e.size = 2) : ∀ (m : Nat) (x : Ex), SizeOf.sizeOf x ≤ m → TnC e x := by
  intro m
  induction m with
  | zero => intro x h; obtain ⟨o, n, s, l⟩ := x; simp at h
  | succ m ih => intro x h; exact turned_of e he x fun i hi => ih _ (by have := x.part_lt i hi; omega)
end Go.Proofs.YtilpoiihoikhlaaDoor.Lex
namespace Go.Proofs.YtilpoiihoikhlaaDoor.Lex
open Go.ChangeShapes Go.WideShapes Go.ChangeAt Go.RowKit Go.Shelf
theorem Tw.stP {w : World} {lo : Nat} : ∀ (m : Nat) (x : Ex) (s : Value), SizeOf.sizeOf x ≤ m → Tw w lo x s → StP (fun b => lo ≤ b) w x s
  | 0, x, s, hm, _ => by have := x.pos; omega
  | m + 1, x, s, hm, h => by
    obtain ⟨b, cap, sl, rfl, hlo, hop, hn, hnm, hlen, hcap, hc, _, hs⟩ := h.full
    exact StP.intro x _ cap sl hop hn hnm hlen (by omega) (.inr ⟨b, 0, rfl, hlo, fun i hi => by simpa using hc i hi⟩) (fun i hi => Tw.stP m _ _ (by have := x.part_lt i hi; omega) (hs i hi))
/-- The twin, with what its rows hold. -/
structure NV (w w9 : World) (p : Pg) (A B C : Value) (ib ic fb fc ob oc : Nat) (ci : Nat → Hd) (cf : Nat → Fl) (sl : Nat → Value) (lo : Nat → Nat) (co : Nat → ByteArray) (W : World) : Prop where
  below : Below w.heap.size w W
  row : W.heap[w.heap.size]? = some (.cells (pgC p A B C) 26 (0, 0))
  qrow : W.heap[w9.heap.size]? = some (.cells (pgC p (.slice (some ⟨ib, 0, none⟩) p.ins.length ic) (.slice (some ⟨fb, 0, none⟩) p.flows.length fc) (.slice (some ⟨ob, 0, none⟩) p.outs.length oc)) 26 (0, 0))
  bI : Blk W ib 37 3 ic
  bF : Blk W fb 43 8 fc
  bO : Blk W ob 9 1 oc
  ins : ∀ m, m < p.ins.length → HdCells W ib (m * 3) (ci m)
  flows : ∀ m, m < p.flows.length → FlCells W fb (m * 8) (cf m) (sl m)
  bodies : ∀ m, m < p.flows.length → StP (fun b => lo m < b) W (cf m).body (sl m)
  outs : ∀ m, m < p.outs.length → W.cell? ⟨ob, m, none⟩ = some (.string (co m))
theorem NV.keep {w w9 : World} {p : Pg} {A B C : Value} {ib ic fb fc ob oc : Nat} {ci : Nat → Hd} {cf : Nat → Fl} {sl : Nat → Value} {lo : Nat → Nat} {co : Nat → ByteArray} {W W' : World} (h : NV w w9 p A B C ib ic fb fc ob oc ci cf sl lo co W) (hb : Below W.heap.size W W') : NV w w9 p A B C ib ic fb fc ob oc ci cf sl lo co W' :=
  ⟨h.below.trans (hb.mono h.below.size), keep_row h.row hb, keep_row h.qrow hb, h.bI.keep hb, h.bF.keep hb, h.bO.keep hb, fun m hm => (h.ins m hm).keep hb, fun m hm => (h.flows m hm).keep hb, fun m hm => (h.bodies m hm).carry (fun b _ hlt => hb.block b hlt), fun m hm => cell_kept (h.outs m hm) hb⟩
theorem NV.congr {w w9 : World} {p : Pg} {A B C : Value} {ib ic fb fc ob oc : Nat} {ci ci' : Nat → Hd} {cf cf' : Nat → Fl} {sl : Nat → Value} {lo : Nat → Nat} {co co' : Nat → ByteArray} {W : World} (h : NV w w9 p A B C ib ic fb fc ob oc ci cf sl lo co W) (h1 : ∀ m, ci m = ci' m) (h2 : ∀ m, cf m = cf' m) (h3 : ∀ m, co m = co' m) : NV w w9 p A B C ib ic fb fc ob oc ci' cf' sl lo co' W := by
  rw [← funext h1, ← funext h2, ← funext h3]
  exact h
theorem NV.congrLt {w w9 : World} {p : Pg} {A B C : Value} {ib ic fb fc ob oc : Nat} {ci ci' : Nat → Hd} {cf cf' : Nat → Fl} {sl : Nat → Value} {lo : Nat → Nat} {co co' : Nat → ByteArray} {W : World} (h : NV w w9 p A B C ib ic fb fc ob oc ci cf sl lo co W) (h1 : ∀ m, m < p.ins.length → ci m = ci' m) (h2 : ∀ m, m < p.flows.length → cf m = cf' m) (h3 : ∀ m, m < p.outs.length → co m = co' m) : NV w w9 p A B C ib ic fb fc ob oc ci' cf' sl lo co' W :=
  ⟨h.below, h.row, h.qrow, h.bI, h.bF, h.bO, fun m hm => h1 m hm ▸ h.ins m hm, fun m hm => h2 m hm ▸ h.flows m hm, fun m hm => h2 m hm ▸ h.bodies m hm, fun m hm => h3 m hm ▸ h.outs m hm⟩
theorem set_keep {W : World} {b o b' o' : Nat} {v u : Value} (h : W.cell? ⟨b', o', none⟩ = some v) (hne : b' ≠ b ∨ o' ≠ o) : (W.setCell ⟨b, o, none⟩ u).cell? ⟨b', o', none⟩ = some v := by
  rw [World.cell?_setCell_other _ _ _ _ (by intro e; injection e with e1 e2 _; rcases hne with h | h <;> omega)]
  exact h
theorem Blk.put {W : World} {b t c cap b' o : Nat} {u : Value} (h : Blk W b t c cap) : Blk (W.setCell ⟨b', o, none⟩ u) b t c cap := by
  obtain ⟨cur, h1, h2, h3⟩ := h
  by_cases e : b = b'
  · subst e
    exact ⟨_, set_same h1 o u, by simpa using h2, h3⟩
  · exact ⟨cur, (Below.heap_setCell _ _ _ _ e).trans h1, h2, h3⟩
theorem cell_new {W : World} {b t c cap o : Nat} {u : Value} (h : Blk W b t c cap) (ho : o < cap * c) : (W.setCell ⟨b, o, none⟩ u).cell? ⟨b, o, none⟩ = some u := by
  obtain ⟨v, hv⟩ := Option.isSome_iff_exists.1 ((h.there (o := o) (n := 1) (by omega)) 0 (by omega)).1
  exact World.cell?_setCell_same _ _ _ hv
/-- Another name for one from without. -/
theorem NV.setI {w w9 : World} {p : Pg} {A B C : Value} {ib ic fb fc ob oc : Nat} {ci : Nat → Hd} {cf : Nat → Fl} {sl : Nat → Value} {lo : Nat → Nat} {co : Nat → ByteArray} {W : World} (h : NV w w9 p A B C ib ic fb fc ob oc ci cf sl lo co W) (k : Nat) (hk : k < p.ins.length) (hcap : p.ins.length < ic) (h1 : w.heap.size < ib) (h2 : ib < w9.heap.size) (hlo : ∀ m, m < p.flows.length → ib ≤ lo m) (s : ByteArray) :
    NV w w9 p A B C ib ic fb fc ob oc (fun m => if m = k then { ci k with name := s } else ci m) cf sl lo co (W.setCell ⟨ib, k * 3, none⟩ (.string s)) where
  below := h.below.setCell (p := ⟨ib, k * 3, none⟩) (Nat.le_of_lt h1) _
  row := (Below.heap_setCell _ _ _ _ (by simp; omega)).trans h.row
  qrow := (Below.heap_setCell _ _ _ _ (by simp; omega)).trans h.qrow
  bI := h.bI.put
  bF := h.bF.put
  bO := h.bO.put
  ins := fun m hm => by
    by_cases e : m = k
    · subst e
      simp only [if_pos]
      exact ⟨cell_new h.bI (by omega), set_keep (h.ins m hm).2.1 (.inr (by omega)), set_keep (h.ins m hm).2.2 (.inr (by omega))⟩
    · simp only [if_neg e]
      exact ⟨set_keep (h.ins m hm).1 (.inr (by omega)), set_keep (h.ins m hm).2.1 (.inr (by omega)), set_keep (h.ins m hm).2.2 (.inr (by omega))⟩
  flows := fun m hm => by
    have hne := h.bI.ne h.bF (by decide)
    obtain ⟨d0, d1, d2, d3, d4, d5, d6, d7⟩ := h.flows m hm
    exact ⟨set_keep d0 (.inl (by omega)), set_keep d1 (.inl (by omega)), set_keep d2 (.inl (by omega)), set_keep d3 (.inl (by omega)), set_keep d4 (.inl (by omega)), set_keep d5 (.inl (by omega)), set_keep d6 (.inl (by omega)), set_keep d7 (.inl (by omega))⟩
  bodies := fun m hm => (h.bodies m hm).carry (fun b hb _ => Below.heap_setCell _ _ _ _ (by have := hlo m hm; simp; omega))
  outs := fun m hm => set_keep (h.outs m hm) (.inl (by have := h.bI.ne h.bO (by decide); omega))
/-- Another name for a flow. -/
theorem NV.setN {w w9 : World} {p : Pg} {A B C : Value} {ib ic fb fc ob oc : Nat} {ci : Nat → Hd} {cf : Nat → Fl} {sl : Nat → Value} {lo : Nat → Nat} {co : Nat → ByteArray} {W : World} (h : NV w w9 p A B C ib ic fb fc ob oc ci cf sl lo co W) (k : Nat) (hk : k < p.flows.length) (hcap : p.flows.length < fc) (h1 : w.heap.size < fb) (h2 : fb < w9.heap.size) (hlo : ∀ m, m < p.flows.length → fb ≤ lo m) (s : ByteArray) :
    NV w w9 p A B C ib ic fb fc ob oc ci (fun m => if m = k then { cf k with name := s } else cf m) sl lo co (W.setCell ⟨fb, k * 8, none⟩ (.string s)) where
  below := h.below.setCell (p := ⟨fb, k * 8, none⟩) (Nat.le_of_lt h1) _
  row := (Below.heap_setCell _ _ _ _ (by simp; omega)).trans h.row
  qrow := (Below.heap_setCell _ _ _ _ (by simp; omega)).trans h.qrow
  bI := h.bI.put
  bF := h.bF.put
  bO := h.bO.put
  ins := fun m hm => by
    have hne := h.bI.ne h.bF (by decide)
    exact ⟨set_keep (h.ins m hm).1 (.inl hne), set_keep (h.ins m hm).2.1 (.inl hne), set_keep (h.ins m hm).2.2 (.inl hne)⟩
  flows := fun m hm => by
    obtain ⟨d0, d1, d2, d3, d4, d5, d6, d7⟩ := h.flows m hm
    by_cases e : m = k
    · subst e
      simp only [if_pos]
      exact ⟨cell_new h.bF (by omega), set_keep d1 (.inr (by omega)), set_keep d2 (.inr (by omega)), set_keep d3 (.inr (by omega)), set_keep d4 (.inr (by omega)), set_keep d5 (.inr (by omega)), set_keep d6 (.inr (by omega)), set_keep d7 (.inr (by omega))⟩
    · simp only [if_neg e]
      exact ⟨set_keep d0 (.inr (by omega)), set_keep d1 (.inr (by omega)), set_keep d2 (.inr (by omega)), set_keep d3 (.inr (by omega)), set_keep d4 (.inr (by omega)), set_keep d5 (.inr (by omega)), set_keep d6 (.inr (by omega)), set_keep d7 (.inr (by omega))⟩
  bodies := fun m hm => by
    have := (h.bodies m hm).carry (w' := W.setCell ⟨fb, k * 8, none⟩ (.string s)) (fun b hb _ => Below.heap_setCell _ _ _ _ (by have := hlo m hm; simp; omega))
    by_cases e : m = k
    · subst e; simp only [if_pos]; exact this
    · simp only [if_neg e]; exact this
  outs := fun m hm => set_keep (h.outs m hm) (.inl (by have := h.bF.ne h.bO (by decide); omega))
/-- Another body for a flow. -/
theorem NV.setB {w w9 : World} {p : Pg} {A B C : Value} {ib ic fb fc ob oc : Nat} {ci : Nat → Hd} {cf : Nat → Fl} {sl : Nat → Value} {lo : Nat → Nat} {co : Nat → ByteArray} {W : World} (h : NV w w9 p A B C ib ic fb fc ob oc ci cf sl lo co W) (k : Nat) (hk : k < p.flows.length) (hcap : p.flows.length < fc) (h1 : w.heap.size < fb) (h2 : fb < w9.heap.size) (hlo : ∀ m, m < p.flows.length → fb ≤ lo m) (z : Ex) (s : Value) (l' : Nat) (hl' : fb ≤ l') (hz : StP (fun b => l' < b) W z s) :
    NV w w9 p A B C ib ic fb fc ob oc ci (fun m => if m = k then { cf k with body := z } else cf m) (fun m => if m = k then s else sl m) (fun m => if m = k then l' else lo m) co (W.setCells fb (k * 8 + 4) (exL z s)) where
  below := h.below.grown (grown_setCells _ _ _ _) h.below.size (fun j hj => by cases hj; omega)
  row := by rw [heap_setCells_other (by omega)]; exact h.row
  qrow := by rw [heap_setCells_other (by omega)]; exact h.qrow
  bI := by
    have hne := h.bI.ne h.bF (by decide)
    obtain ⟨cur, e, r⟩ := h.bI
    exact ⟨cur, (heap_setCells_other hne _ _ _).trans e, r⟩
  bF := h.bF.set _ _ _
  bO := by
    have hne := h.bF.ne h.bO (by decide)
    obtain ⟨cur, e, r⟩ := h.bO
    exact ⟨cur, (heap_setCells_other (Ne.symm hne) _ _ _).trans e, r⟩
  ins := fun m hm => (h.ins m hm).blk (heap_setCells_other (h.bI.ne h.bF (by decide)) _ _ _)
  flows := fun m hm => by
    obtain ⟨d0, d1, d2, d3, d4, d5, d6, d7⟩ := h.flows m hm
    have k' : ∀ {o v}, (o < k * 8 + 4 ∨ k * 8 + 8 ≤ o) → W.cell? ⟨fb, o, none⟩ = some v → (W.setCells fb (k * 8 + 4) (exL z s)).cell? ⟨fb, o, none⟩ = some v := fun {o v} ho hv => by
      rw [World.cell?_setCells_out fb _ _ _ _ (fun _ _ => by simp; omega)]; exact hv
    by_cases e : m = k
    · subst e
      simp only [if_pos]
      have C := World.rangeAt_setCells_same W fb (m * 8 + 4) (exL z s) (h.bF.there (by simp; omega))
      exact ⟨k' (by omega) d0, k' (by omega) d1, k' (by omega) d2, k' (by omega) d3, C 0 _ rfl, C 1 _ rfl, C 2 _ rfl, C 3 _ rfl⟩
    · simp only [if_neg e]
      exact ⟨k' (by omega) d0, k' (by omega) d1, k' (by omega) d2, k' (by omega) d3, k' (by omega) d4, k' (by omega) d5, k' (by omega) d6, k' (by omega) d7⟩
  bodies := fun m hm => by
    by_cases e : m = k
    · subst e
      simp only [if_pos]
      exact hz.carry (fun b hb _ => heap_setCells_other (by omega) _ _ _)
    · simp only [if_neg e]
      exact (h.bodies m hm).carry (fun b hb _ => heap_setCells_other (by have := hlo m hm; omega) _ _ _)
  outs := fun m hm => by
    have hne := h.bF.ne h.bO (by decide)
    rw [World.cell?_setCells_out fb _ _ _ _ (fun e _ => by simp at e; omega)]
    exact h.outs m hm
/-- Another name for an out. -/
theorem NV.setO {w w9 : World} {p : Pg} {A B C : Value} {ib ic fb fc ob oc : Nat} {ci : Nat → Hd} {cf : Nat → Fl} {sl : Nat → Value} {lo : Nat → Nat} {co : Nat → ByteArray} {W : World} (h : NV w w9 p A B C ib ic fb fc ob oc ci cf sl lo co W) (k : Nat) (hk : k < p.outs.length) (hcap : p.outs.length < oc) (h1 : w.heap.size < ob) (h2 : ob < w9.heap.size) (hlo : ∀ m, m < p.flows.length → ob ≤ lo m) (s : ByteArray) :
    NV w w9 p A B C ib ic fb fc ob oc ci cf sl lo (fun m => if m = k then s else co m) (W.setCell ⟨ob, k, none⟩ (.string s)) where
  below := h.below.setCell (p := ⟨ob, k, none⟩) (Nat.le_of_lt h1) _
  row := (Below.heap_setCell _ _ _ _ (by simp; omega)).trans h.row
  qrow := (Below.heap_setCell _ _ _ _ (by simp; omega)).trans h.qrow
  bI := h.bI.put
  bF := h.bF.put
  bO := h.bO.put
  ins := fun m hm => by
    have hne := h.bI.ne h.bO (by decide)
    exact ⟨set_keep (h.ins m hm).1 (.inl hne), set_keep (h.ins m hm).2.1 (.inl hne), set_keep (h.ins m hm).2.2 (.inl hne)⟩
  flows := fun m hm => by
    have hne := h.bF.ne h.bO (by decide)
    obtain ⟨d0, d1, d2, d3, d4, d5, d6, d7⟩ := h.flows m hm
    exact ⟨set_keep d0 (.inl hne), set_keep d1 (.inl hne), set_keep d2 (.inl hne), set_keep d3 (.inl hne), set_keep d4 (.inl hne), set_keep d5 (.inl hne), set_keep d6 (.inl hne), set_keep d7 (.inl hne)⟩
  bodies := fun m hm => (h.bodies m hm).carry (fun b hb _ => Below.heap_setCell _ _ _ _ (by have := hlo m hm; simp; omega))
  outs := fun m hm => by
    by_cases e : m = k
    · subst e
      simp only [if_pos]
      exact cell_new h.bO (by omega)
    · simp only [if_neg e]
      exact set_keep (h.outs m hm) (.inr e)
/-- What the rows hold at first. -/
def ci0 (p : Pg) (m : Nat) : Hd := (p.ins[m]?).getD ⟨ByteArray.empty, 0, 0⟩
def cf0 (p : Pg) (m : Nat) : Fl := (p.flows[m]?).getD ⟨ByteArray.empty, 0, 0, 0, ⟨0, 0, ByteArray.empty, []⟩⟩
def co0 (p : Pg) (m : Nat) : ByteArray := (p.outs[m]?).getD ByteArray.empty
theorem ci0_eq (p : Pg) (m : Nat) (h : m < p.ins.length) : ci0 p m = p.ins[m] := by unfold ci0; rw [List.getElem?_eq_getElem h]; rfl
theorem cf0_eq (p : Pg) (m : Nat) (h : m < p.flows.length) : cf0 p m = p.flows[m] := by unfold cf0; rw [List.getElem?_eq_getElem h]; rfl
theorem co0_eq (p : Pg) (m : Nat) (h : m < p.outs.length) : co0 p m = p.outs[m] := by unfold co0; rw [List.getElem?_eq_getElem h]; rfl
theorem NV.start {w w9 : World} {p : Pg} {A B C : Value} {ib ic fb fc ob oc lo : Nat} (h : FV w p A B C w9) (hT : TwPg w9 lo p (.slice (some ⟨ib, 0, none⟩) p.ins.length ic) (.slice (some ⟨fb, 0, none⟩) p.flows.length fc) (.slice (some ⟨ob, 0, none⟩) p.outs.length oc)) :
    ∃ sl, NV w w9 p A B C ib ic fb fc ob oc (ci0 p) (cf0 p) sl (fun _ => fb) (co0 p) (w9.alloc (.cells #[.int .i64 p.st, .slice (some ⟨ib, 0, none⟩) p.ins.length ic, .slice (some ⟨fb, 0, none⟩) p.flows.length fc, .slice (some ⟨ob, 0, none⟩) p.outs.length oc] 26)) := by
  obtain ⟨b1, c1, e1, _, _, _, _, k1, _, g1⟩ := id hT.ins
  obtain ⟨b2, c2, sl, e2, _, _, _, _, k2, _, t2, g2⟩ := id hT.flows
  obtain ⟨b3, c3, e3, _, _, _, _, k3, _, g3⟩ := id hT.outs
  injection e1 with e1 _ e1'
  injection e1 with e1
  injection e1 with e1 _ _
  injection e2 with e2 _ e2'
  injection e2 with e2
  injection e2 with e2 _ _
  injection e3 with e3 _ e3'
  injection e3 with e3
  injection e3 with e3 _ _
  subst e1 e1' e2 e2' e3 e3'
  have hb := (Below.refl w9.heap.size w9).alloc (Nat.le_refl _) (.cells #[.int .i64 p.st, .slice (some ⟨ib, 0, none⟩) p.ins.length ic, .slice (some ⟨fb, 0, none⟩) p.flows.length fc, .slice (some ⟨ob, 0, none⟩) p.outs.length oc] 26)
  refine ⟨sl, h.below.alloc h.below.size _, push_old h.row, push_new _ _ _ rfl, g1.keep hb, g2.keep hb, g3.keep hb, fun m hm => ?_, fun m hm => ?_, fun m hm => ?_, fun m hm => ?_⟩
  · rw [ci0_eq p m hm]; exact (k1 m hm).keep hb
  · rw [cf0_eq p m hm]; exact (k2 m hm).keep hb
  · rw [cf0_eq p m hm]
    exact StP.carryN (fun b _ hlt => hb.block b hlt) (fun b _ hle => hle) _ _ _ (Nat.le_refl _) (Tw.stP _ _ _ (Nat.le_refl _) (t2 m hm))
  · rw [co0_eq p m hm]; exact cell_kept (k3 m hm) hb
/-- The program, when all is done. -/
theorem NV.pg {w w9 : World} {p : Pg} {A B C : Value} {ib ic fb fc ob oc : Nat} {e : ByteArray} {sl : Nat → Value} {lo : Nat → Nat} {W : World}
    (h : NV w w9 p A B C ib ic fb fc ob oc (fun m => rnH e (ci0 p m)) (fun m => rnF e (cf0 p m)) sl lo (fun m => co0 p m ++ e) W) (he : e.size = 2) (hs : shP p) (hP : PgAt w p A B C) (h1 : p.ins.length < ic) (h2 : p.flows.length < fc) (h3 : p.outs.length < oc) :
    PgAt W (rnP e p) (.slice (some ⟨ib, 0, none⟩) p.ins.length ic) (.slice (some ⟨fb, 0, none⟩) p.flows.length fc) (.slice (some ⟨ob, 0, none⟩) p.outs.length oc) := by
  obtain ⟨_, _, _, q1, _, r1, _⟩ := hP.ins
  obtain ⟨_, _, _, _, q2, _, r2, _⟩ := hP.flows
  obtain ⟨_, _, _, q3, _, r3, _⟩ := hP.outs
  have sz : ∀ s : ByteArray, s.size ≤ 38 → (s ++ e).size ≤ 140737488355328 := fun s hs => by simp only [ByteArray.size_append]; omega
  unfold rnP
  refine ⟨hP.st, ⟨_, ic, by simp, by simpa using q1, by simp; omega, ?_, .inr ⟨ib, 0, rfl, fun i hi => ?_⟩⟩, ⟨_, fc, sl, by simp, by simpa using q2, by simp; omega, ?_, .inr ⟨fb, 0, rfl, fun i hi => ?_⟩, fun i hi => ?_⟩, ⟨_, oc, by simp, by simpa using q3, by simp; omega, ?_, .inr ⟨ob, 0, rfl, fun i hi => ?_⟩⟩⟩
  · intro x hx
    obtain ⟨y, hy, rfl⟩ := List.mem_map.1 hx
    exact ⟨sz _ (hs.1 y hy), (r1 y hy).2⟩
  · have hi' : i < p.ins.length := by simpa using hi
    have := h.ins i hi'
    rw [ci0_eq p i hi'] at this
    simpa using this
  · intro x hx
    obtain ⟨y, hy, rfl⟩ := List.mem_map.1 hx
    exact ⟨sz _ (hs.2.1 y hy).1, (r2 y hy).2⟩
  · have hi' : i < p.flows.length := by simpa using hi
    have := h.flows i hi'
    rw [cf0_eq p i hi'] at this
    simpa using this
  · have hi' : i < p.flows.length := by simpa using hi
    have := (h.bodies i hi').st
    rw [cf0_eq p i hi'] at this
    simpa using this
  · intro x hx
    obtain ⟨y, hy, rfl⟩ := List.mem_map.1 hx
    exact sz _ (hs.2.2 y hy)
  · have hi' : i < p.outs.length := by simpa using hi
    have := h.outs i hi'
    rw [co0_eq p i hi'] at this
    simpa using this
end Go.Proofs.YtilpoiihoikhlaaDoor.Lex
namespace Go.Proofs.YtilpoiihoikhlaaDoor.Lex
open Go.ChangeShapes Go.WideShapes Go.ChangeAt Go.RowKit Go.Shelf
theorem foV_form (o : Option (Int × Hd)) : ∃ (v1 : Int) (v2 : Int) (v3 : Int) (v4 : Bool), foV o = #[.int .i64 v1, .int .u8 v2, .int .i64 v3, .bool v4] := by
  cases o with
  | none => exact ⟨0, 0, 0, false, rfl⟩
  | some x => exact ⟨x.2.st, (x.2.ty : Int), x.1, true, rfl⟩
theorem end_of (k : Nat) (hk : k < 26) : IsEnd ((⟨#[97, 98, 99, 100, 101, 102, 103, 104, 105, 106, 107, 108, 109, 110, 111, 112, 113, 114, 115, 116, 117, 118, 119, 120, 121, 122]⟩ : ByteArray).extract k (k + 1) ++ ⟨#[95]⟩) ∧ ((⟨#[97, 98, 99, 100, 101, 102, 103, 104, 105, 106, 107, 108, 109, 110, 111, 112, 113, 114, 115, 116, 117, 118, 119, 120, 121, 122]⟩ : ByteArray).extract k (k + 1) ++ ⟨#[95]⟩).size = 2 := by
  have h : ∀ k ∈ List.range 26, letter (UInt8.ofNat (97 + k)) = true ∧ ((⟨#[97, 98, 99, 100, 101, 102, 103, 104, 105, 106, 107, 108, 109, 110, 111, 112, 113, 114, 115, 116, 117, 118, 119, 120, 121, 122]⟩ : ByteArray).extract k (k + 1) ++ ⟨#[95]⟩).data.toList = [UInt8.ofNat (97 + k), 95] := by decide +kernel
  obtain ⟨h1, h2⟩ := h k (List.mem_range.2 hk)
  exact ⟨⟨_, h1, h2⟩, by rw [size_data, h2]; rfl⟩
set_option maxRecDepth 100000 in
set_option maxHeartbeats 8000000 in
theorem walk6 (p : Pg) (n : Nat) (w : World) (a b c : Value) (hP : PgAt w p a b c) (hR : TabR w) (hJ : TabJ w) : Calls Tryd.prog 6 #[pgV p a b c, .int .u8 (n : Int)] w fun e w' => e = .returned (.bool true) ∧ Below w.heap.size w w' := by
  have H0 := hid (And.intro hP (And.intro hR hJ))
  obtain ⟨a0, a1, rfl, hl1, _, _, hc1⟩ := hP.ins
  obtain ⟨b0, b1, sl, rfl, hl2, _, hok, hc2, hs2⟩ := hP.flows
  obtain ⟨c0, c1, rfl, hl3, _, _, hc3⟩ := hP.outs
  have HC2 := hid hc2
  have fv0 := hid (FV.new hP hR hJ)
  clear hP hR hJ hc1 hc2 hc3 hs2 hok
  go_enter Tryd.func6, Tryd.ntmps6
  go_wp2_with (fail)
  refine (alive _ fv0.out.R fv0.out.J).mono ?_
  rintro e w1 ⟨rfl, hb1⟩
  have fv1 := fv0.out.keep hb1
  obtain ⟨p0, p1, p2, p3⟩ := row4 fv1.row
  have F1 := hid fv1
  clear fv1 hb1 fv0
  go_wp2_with (fail)
  refine (great p _ _ _ _ F1.out.P).mono ?_
  rintro e w2 ⟨⟨g, rfl, hg⟩, hb2⟩
  have fv2 := F1.out.keep hb2
  clear p0 p1 p2 p3
  obtain ⟨p0, p1, p2, p3⟩ := row4 fv2.row
  have F2 := hid fv2
  clear fv2 hb2 F1 hg
  cases g with
  | true =>
    go_wp2_with (fail)
    refine (alive _ F2.out.R F2.out.J).mono ?_
    rintro e w3 ⟨rfl, hb3⟩
    have hB := (F2.out.keep hb3).below
    go_wp2_with (fail)
    go_ret
    exact ⟨rfl, hB⟩
  | false =>
    obtain ⟨k, hk, hkn⟩ : ∃ k : Nat, k < 26 ∧ Int.tmod (n : Int) 26 = (k : Int) := ⟨n % 26, Nat.mod_lt _ (by omega), by rw [show (26 : Int) = ((26 : Nat) : Int) from rfl, Int.ofNat_tmod]⟩
    have hw1 : IntKind.u8.wrap ((k : Int) + 1) = (k : Int) + 1 := by rw [IntKind.wrap_u8']; omega
    have hw0 : IntKind.u8.wrap (k : Int) = (k : Int) := by rw [IntKind.wrap_u8']; omega
    have hk0 : (0 : Int) ≤ (k : Int) := by omega
    have hk1 : (k : Int) + 1 ≤ 26 := by omega
    have HEN := hid (end_of k hk)
    go_wp2_with (fail)
    generalize (⟨#[97, 98, 99, 100, 101, 102, 103, 104, 105, 106, 107, 108, 109, 110, 111, 112, 113, 114, 115, 116, 117, 118, 119, 120, 121, 122]⟩ : ByteArray).extract k (k + 1) ++ ⟨#[95]⟩ = e at *
    have he2 := HEN.out.2
    clear hk hkn hw1 hw0 hk0 hk1
    refine (twin_prog2 p _ _ _ _ F2.out.P).mono ?_
    rintro e' w9 ⟨a', b', c', rfl, hT, hb9, hord⟩
    obtain ⟨ib, ic, rfl, hi1, _, hi2, _, _, _, kI⟩ := id hT.ins
    obtain ⟨fb, fc, _, rfl, hf1, _, hf2, _, _, _, _, kF⟩ := id hT.flows
    obtain ⟨ob, oc, rfl, ho1, _, ho2, _, _, _, kO⟩ := id hT.outs
    have hif : ib < fb := hord _ _ _ _ _ _ rfl rfl
    have hlo2 : w.heap.size < w2.heap.size := (Array.getElem?_eq_some_iff.1 F2.out.row).1
    have li : ib < w9.heap.size := by obtain ⟨_, h, _⟩ := kI; exact (Array.getElem?_eq_some_iff.1 h).1
    have lf : fb < w9.heap.size := by obtain ⟨_, h, _⟩ := kF; exact (Array.getElem?_eq_some_iff.1 h).1
    have lob : ob < w9.heap.size := by obtain ⟨_, h, _⟩ := kO; exact (Array.getElem?_eq_some_iff.1 h).1
    have F9 := hid (F2.out.keep hb9)
    obtain ⟨sl9, hN0⟩ := NV.start F9.out hT
    have N0 := hid hN0
    clear p0 p1 p2 p3 hT hb9 hord kI kF kO hN0 F2
    obtain ⟨p0, p1, p2, p3⟩ := row4 F9.out.row
    go_wp2_with (fail)
    clear p0 p1 p2 p3
    go_loopw [7] (fun i wr => ∃ m : Nat, m ≤ p.ins.length ∧ i = .int .i64 (m : Int) ∧ Hid (∀ j, j < m → (ci0 p j).name.size ≤ 38) ∧ Hid (NV w w9 p (.slice a0 p.ins.length a1) (.slice b0 p.flows.length b1) (.slice c0 p.outs.length c1) ib ic fb fc ob oc (fun j => if j < m then rnH e (ci0 p j) else ci0 p j) (cf0 p) sl9 (fun _ => fb) (co0 p) wr)) (fun i _ => p.ins.length - (intOf i).toNat)
    case atStart => exact ⟨0, Nat.zero_le _, rfl, hid (fun j hj => by omega), hid (N0.out.congr (fun j => by simp) (fun _ => rfl) (fun _ => rfl))⟩
    case round =>
      obtain ⟨m, hm, rfl, HA, HN⟩ := hrel
      obtain ⟨q0, q1, q2, q3⟩ := row4 HN.out.qrow
      by_cases hlt : m < p.ins.length
      · have hlt' : (m : Int) < (p.ins.length : Int) := by omega
        have hm0 : (0 : Int) ≤ (m : Int) := by omega
        have X := HN.out.ins m hlt
        rw [if_neg (Nat.lt_irrefl m)] at X
        obtain ⟨f0, f1, f2⟩ := X
        by_cases h38 : (ci0 p m).name.size ≤ 38
        · have h38' : ¬ (38 : Int) < ((ci0 p m).name.size : Int) := by omega
          have NX := hid ((HN.out.setI m hlt hi2 (by omega) li (fun _ _ => by omega) ((ci0 p m).name ++ e)).keep (Below.refl _ _).drew)
          have fz : wr.frozen? ⟨ib, m * 3, none⟩ = false := (HN.out.bI.there (o := m * 3) (n := 1) (by omega) 0 (by omega)).2
          have HY : Hid (∀ j, (if j = m then rnH e (ci0 p m) else if j < m then rnH e (ci0 p j) else ci0 p j) = (if j < m + 1 then rnH e (ci0 p j) else ci0 p j)) := hid (fun j => by
            by_cases e1 : j = m
            · subst e1; rw [if_pos rfl, if_pos (by omega)]
            · rw [if_neg e1]
              by_cases e2 : j < m
              · rw [if_pos e2, if_pos (by omega)]
              · rw [if_neg e2, if_neg (by omega)])
          have NY := hid (NX.out.congr (ci' := fun j => if j < m + 1 then rnH e (ci0 p j) else ci0 p j) (fun j => by simp only [Nat.lt_irrefl, if_false]; exact HY.out j) (fun _ => rfl) (fun _ => rfl))
          have HA2 : Hid (∀ j, j < m + 1 → (ci0 p j).name.size ≤ 38) := hid (fun j hj => by
            by_cases e1 : j = m
            · subst e1; exact h38
            · exact HA.out j (by omega))
          clear NX HY
          generalize ci0 p m = y at f0 f1 f2 h38 h38' NY
          go_wp2_with (fail)
          go_region
          go_wp2_with (fail)
          go_roundw
          case rel => exact ⟨m + 1, by omega, by go_num, HA2, NY⟩
          case measure => simp [intOf]; omega
        · have h38' : (38 : Int) < ((ci0 p m).name.size : Int) := by omega
          have hB := HN.out.below
          generalize ci0 p m = y at f0 f1 f2 h38 h38'
          go_wp2_with (fail)
          go_ret
          exact ⟨rfl, hB⟩
      · have hlt' : ¬ (m : Int) < (p.ins.length : Int) := by omega
        obtain rfl : m = p.ins.length := by omega
        have HI := hid HA.out
        have N1 := hid (HN.out.congrLt (ci' := fun j => rnH e (ci0 p j)) (cf' := cf0 p) (co' := co0 p) (fun j hj => if_pos hj) (fun _ _ => rfl) (fun _ _ => rfl))
        clear hm hlt HN HA N0
        go_wp2_with (fail)
        clear q0 q1 q2 q3 hlt'
        go_loopw [8] (fun i wr => ∃ (m : Nat) (sl2 : Nat → Value) (lo2 : Nat → Nat), m ≤ p.flows.length ∧ i = .int .i64 (m : Int) ∧ Hid (∀ j, j < m → (cf0 p j).name.size ≤ 38 ∧ shE (cf0 p j).body = true) ∧ Hid (∀ j, fb ≤ lo2 j ∧ (j < m → w9.heap.size ≤ lo2 j)) ∧ Hid (NV w w9 p (.slice a0 p.ins.length a1) (.slice b0 p.flows.length b1) (.slice c0 p.outs.length c1) ib ic fb fc ob oc (fun j => rnH e (ci0 p j)) (fun j => if j < m then rnF e (cf0 p j) else cf0 p j) sl2 lo2 (co0 p) wr)) (fun i _ => p.flows.length - (intOf i).toNat)
        case atStart => exact ⟨0, sl9, fun _ => fb, Nat.zero_le _, rfl, hid (fun j hj => by omega), hid (fun j => ⟨Nat.le_refl _, fun h => by omega⟩), hid (N1.out.congr (fun _ => rfl) (fun j => by simp) (fun _ => rfl))⟩
        case round =>
          clear N1
          obtain ⟨m, sl2, lo2, hm, rfl, HA, HLO, HN⟩ := hrel
          obtain ⟨q0, q1, q2, q3⟩ := row4 HN.out.qrow
          by_cases hlt : m < p.flows.length
          · have hlt' : (m : Int) < (p.flows.length : Int) := by omega
            have hm0 : (0 : Int) ≤ (m : Int) := by omega
            have X := HN.out.flows m hlt
            have BD := HN.out.bodies m hlt
            rw [if_neg (Nat.lt_irrefl m)] at X BD
            obtain ⟨a3, c3, _, e3, _⟩ := BD.out
            rw [e3] at X BD
            have HBD := hid BD
            obtain ⟨f0, f1, f2, f3, f4, f5, f6, f7⟩ := X
            have HSL := hid e3
            clear BD e3
            by_cases h38 : (cf0 p m).name.size ≤ 38
            · have h38' : ¬ (38 : Int) < ((cf0 p m).name.size : Int) := by omega
              have c16 := short_any _ (cf0 p m).body (Nat.le_refl _) wr _ HBD.out.st
              cases hsh : shE (cf0 p m).body with
              | false =>
                rw [hsh] at c16
                have HB := hid HN.out.below
                generalize cf0 p m = y at f0 f1 f2 f3 f4 f5 f6 f7 h38 h38' c16
                go_wp2_with (fail)
                refine c16.mono ?_
                rintro r w3 ⟨rfl, hb3⟩
                have hB := HB.out.trans (hb3.mono HB.out.size)
                go_wp2_with (fail)
                go_ret
                exact ⟨rfl, hB⟩
              | true =>
                rw [hsh] at c16
                have HA2 : Hid (∀ j, j < m + 1 → (cf0 p j).name.size ≤ 38 ∧ shE (cf0 p j).body = true) := hid (fun j hj => by
                  by_cases e1 : j = m
                  · subst e1; exact ⟨h38, hsh⟩
                  · exact HA.out j (by omega))
                have HSH := hid hsh
                go_wp2_with (fail)
                refine c16.mono ?_
                rintro r w3 ⟨rfl, hb3⟩
                have N3 := hid (HN.out.keep hb3)
                have BD3 := hid (HBD.out.carry (fun b _ hlt => hb3.block b hlt))
                have X3 := (show FlCells wr fb (m * 8) (cf0 p m) (.slice a3 (cf0 p m).body.args.length c3) from ⟨f0, f1, f2, f3, f4, f5, f6, f7⟩).keep hb3
                clear f0 f1 f2 f3 f4 f5 f6 f7 q0 q1 q2 q3 hb3 HN HBD
                obtain ⟨f0, f1, f2, f3, f4, f5, f6, f7⟩ := X3
                obtain ⟨q0, q1, q2, q3⟩ := row4 N3.out.qrow
                have N4 := hid ((N3.out.setN m hlt hf2 (by omega) lf (fun j _ => (HLO.out j).1) ((cf0 p m).name ++ e)).keep (Below.refl _ _).drew)
                have fz : w3.frozen? ⟨fb, m * 8, none⟩ = false := (N3.out.bF.there (o := m * 8) (n := 1) (by omega) 0 (by omega)).2
                have BD4 := hid ((BD3.out.carry (w' := (w3.setCell ⟨fb, m * 8, none⟩ (.string ((cf0 p m).name ++ e))).drew) (fun b hb _ => Below.heap_setCell _ _ _ _ (by have := (HLO.out m).1; simp; omega))))
                go_wp2_with (fail)
                go_region
                have X4 := N4.out.flows m hlt
                simp only [if_true, Nat.lt_irrefl, if_false] at X4
                rw [HSL.out] at X4
                generalize (w3.setCell ⟨fb, m * 8, none⟩ (.string ((cf0 p m).name ++ e))).drew = W4 at *
                clear f0 f1 f2 f3 f4 f5 f6 f7 q0 q1 q2 q3 fz N3 BD3 c16
                obtain ⟨f0, f1, f2, f3, f4, f5, f6, f7⟩ := X4
                obtain ⟨q0, q1, q2, q3⟩ := row4 N4.out.qrow
                have c17 := turned_any e he2 _ (cf0 p m).body (Nat.le_refl _) W4.drew _ (BD4.out.st.keep (Below.refl _ _).drew) HSH.out
                have HX4 := hid (show FlCells W4 fb (m * 8) { cf0 p m with name := (cf0 p m).name ++ e } (.slice a3 (cf0 p m).body.args.length c3) from ⟨f0, f1, f2, f3, f4, f5, f6, f7⟩)
                dsimp only at f4 f5 f6 f7
                go_wp2_with (fail)
                go_region_law ((refine if_take (by rfl) ?_; go_simp; refine c17.mono ?_; rintro r w5 ⟨s', rfl, hst, hb5⟩; obtain ⟨a5, c5, _, rfl, _⟩ := hst.out; have N5 := hid (N4.out.keep ((Below.refl _ _).drew.trans (hb5.mono (by simp)))); have X5 := HX4.out.keep ((Below.refl _ _).drew.trans (hb5.mono (by simp))); have HST := hid hst; clear hst hb5; obtain ⟨r0, r1, r2, r3⟩ := row4 N5.out.qrow; obtain ⟨g0, g1, g2, g3, g4, g5, g6, g7⟩ := X5; dsimp only at g4 g5 g6 g7; have z4 : w5.frozen? ⟨fb, m * 8 + 4, none⟩ = false := (N5.out.bF.there (o := m * 8 + 4) (n := 1) (by omega) 0 (by omega)).2; have z5 : w5.frozen? ⟨fb, m * 8 + 4 + 1, none⟩ = false := (N5.out.bF.there (o := m * 8 + 4 + 1) (n := 1) (by omega) 0 (by omega)).2; have z6 : w5.frozen? ⟨fb, m * 8 + 4 + 2, none⟩ = false := (N5.out.bF.there (o := m * 8 + 4 + 2) (n := 1) (by omega) 0 (by omega)).2; have z7 : w5.frozen? ⟨fb, m * 8 + 4 + 3, none⟩ = false := (N5.out.bF.there (o := m * 8 + 4 + 3) (n := 1) (by omega) 0 (by omega)).2))
                all_goals
                  have N6 := hid (N5.out.setB m hlt hf2 (by omega) lf (fun j _ => (HLO.out j).1) (rnE e (cf0 p m).body) (.slice a5 (rnE e (cf0 p m).body).args.length c5) w9.heap.size (Nat.le_of_lt lf) (StP.carryN (fun _ _ _ => rfl) (fun b _ hb => by have h1 : w9.heap.size < W4.heap.size := (Array.getElem?_eq_some_iff.1 N4.out.qrow).1; have h2 : W4.heap.size ≤ b := hb; omega) _ _ _ (Nat.le_refl _) HST.out))
                  have N7 := hid (N6.out.congr (ci' := fun j => rnH e (ci0 p j)) (cf' := fun j => if j < m + 1 then rnF e (cf0 p j) else cf0 p j) (co' := co0 p) (fun _ => rfl) (fun j => by
                    by_cases e1 : j = m
                    · subst e1
                      simp only [if_true, Nat.lt_irrefl, if_false, Nat.lt_succ_self]
                    · simp only [if_neg e1]
                      by_cases e2 : j < m
                      · rw [if_pos e2, if_pos (by omega)]
                      · rw [if_neg e2, if_neg (by omega)]) (fun _ => rfl))
                  have HLO2 : Hid (∀ j, fb ≤ (if j = m then w9.heap.size else lo2 j) ∧ (j < m + 1 → w9.heap.size ≤ (if j = m then w9.heap.size else lo2 j))) := hid (fun j => by
                    by_cases e1 : j = m
                    · rw [if_pos e1]; exact ⟨Nat.le_of_lt lf, fun _ => Nat.le_refl _⟩
                    · rw [if_neg e1]; exact ⟨(HLO.out j).1, fun hj => (HLO.out j).2 (by omega)⟩)
                  clear N6 N5 HST g0 g1 g2 g3 g4 g5 g6 g7 z4 z5 z6 z7 r0 r1 r2 r3 f0 f1 f2 f3 f4 f5 f6 f7 q0 q1 q2 q3 HX4 N4 BD4 c17
                  go_wp2_with (fail)
                  go_roundw
                  case rel => exact ⟨m + 1, _, _, by omega, by go_num, HA2, HLO2, N7⟩
                  case measure => simp [intOf]; omega
            · have h38' : (38 : Int) < ((cf0 p m).name.size : Int) := by omega
              have hB := HN.out.below
              generalize cf0 p m = y at f0 f1 f2 f3 f4 f5 f6 f7 h38 h38'
              go_wp2_with (fail)
              go_ret
              exact ⟨rfl, hB⟩
          · have hlt' : ¬ (m : Int) < (p.flows.length : Int) := by omega
            obtain rfl : m = p.flows.length := by omega
            have HF := hid HA.out
            have HLF := hid HLO.out
            have N1 := hid (HN.out.congrLt (ci' := fun j => rnH e (ci0 p j)) (cf' := fun j => rnF e (cf0 p j)) (co' := co0 p) (fun _ _ => rfl) (fun j hj => if_pos hj) (fun _ _ => rfl))
            clear hm hlt HN HA HLO
            go_wp2_with (fail)
            clear q0 q1 q2 q3 hlt'
            go_loopw [9] (fun i wr => ∃ m : Nat, m ≤ p.outs.length ∧ i = .int .i64 (m : Int) ∧ Hid (∀ j, j < m → (co0 p j).size ≤ 38) ∧ Hid (NV w w9 p (.slice a0 p.ins.length a1) (.slice b0 p.flows.length b1) (.slice c0 p.outs.length c1) ib ic fb fc ob oc (fun j => rnH e (ci0 p j)) (fun j => rnF e (cf0 p j)) sl2 lo2 (fun j => if j < m then co0 p j ++ e else co0 p j) wr)) (fun i _ => p.outs.length - (intOf i).toNat)
            case atStart => exact ⟨0, Nat.zero_le _, rfl, hid (fun j hj => by omega), hid (N1.out.congr (fun _ => rfl) (fun _ => rfl) (fun j => by simp))⟩
            case round =>
              clear N1
              obtain ⟨m, hm, rfl, HA, HN⟩ := hrel
              obtain ⟨q0, q1, q2, q3⟩ := row4 HN.out.qrow
              by_cases hlt : m < p.outs.length
              · have hlt' : (m : Int) < (p.outs.length : Int) := by omega
                have hm0 : (0 : Int) ≤ (m : Int) := by omega
                have f0 := HN.out.outs m hlt
                rw [if_neg (Nat.lt_irrefl m)] at f0
                by_cases h38 : (co0 p m).size ≤ 38
                · have h38' : ¬ (38 : Int) < ((co0 p m).size : Int) := by omega
                  have NX := hid ((HN.out.setO m hlt ho2 (by omega) lob (fun j hj => Nat.le_trans (Nat.le_of_lt lob) ((HLF.out j).2 hj)) (co0 p m ++ e)).keep (Below.refl _ _).drew)
                  have fz : wr.frozen? ⟨ob, m, none⟩ = false := (HN.out.bO.there (o := m) (n := 1) (by omega) 0 (by omega)).2
                  have NY := hid (NX.out.congr (ci' := fun j => rnH e (ci0 p j)) (cf' := fun j => rnF e (cf0 p j)) (co' := fun j => if j < m + 1 then co0 p j ++ e else co0 p j) (fun _ => rfl) (fun _ => rfl) (fun j => by
                    by_cases e1 : j = m
                    · subst e1; simp only [if_true, Nat.lt_succ_self]
                    · simp only [if_neg e1]
                      by_cases e2 : j < m
                      · rw [if_pos e2, if_pos (by omega)]
                      · rw [if_neg e2, if_neg (by omega)]))
                  have HA2 : Hid (∀ j, j < m + 1 → (co0 p j).size ≤ 38) := hid (fun j hj => by
                    by_cases e1 : j = m
                    · subst e1; exact h38
                    · exact HA.out j (by omega))
                  clear NX
                  generalize co0 p m = y at f0 h38 h38' NY
                  go_wp2_with (fail)
                  go_region
                  go_wp2_with (fail)
                  go_roundw
                  case rel => exact ⟨m + 1, by omega, by go_num, HA2, NY⟩
                  case measure => simp [intOf]; omega
                · have h38' : (38 : Int) < ((co0 p m).size : Int) := by omega
                  have hB := HN.out.below
                  generalize co0 p m = y at f0 h38 h38'
                  go_wp2_with (fail)
                  go_ret
                  exact ⟨rfl, hB⟩
              · have hlt' : ¬ (m : Int) < (p.outs.length : Int) := by omega
                obtain rfl : m = p.outs.length := by omega
                have HSP : Hid (shP p) := hid ⟨fun x hx => by
                    obtain ⟨i, hi, rfl⟩ := List.mem_iff_getElem.1 hx
                    have := HI.out i hi
                    rwa [ci0_eq p i hi] at this, fun x hx => by
                    obtain ⟨i, hi, rfl⟩ := List.mem_iff_getElem.1 hx
                    have := HF.out i hi
                    rwa [cf0_eq p i hi] at this, fun x hx => by
                    obtain ⟨i, hi, rfl⟩ := List.mem_iff_getElem.1 hx
                    have := HA.out i hi
                    rwa [co0_eq p i hi] at this⟩
                have N1 := hid (HN.out.congrLt (ci' := fun j => rnH e (ci0 p j)) (cf' := fun j => rnF e (cf0 p j)) (co' := fun j => co0 p j ++ e) (fun _ _ => rfl) (fun _ _ => rfl) (fun j hj => if_pos hj))
                have GP := hid (fun (W : World) (h : NV w w9 p (.slice a0 p.ins.length a1) (.slice b0 p.flows.length b1) (.slice c0 p.outs.length c1) ib ic fb fc ob oc (fun j => rnH e (ci0 p j)) (fun j => rnF e (cf0 p j)) sl2 lo2 (fun j => co0 p j ++ e) W) => h.pg he2 HSP.out H0.out.1 hi2 hf2 ho2)
                have GF := hid (fun (W : World) (h : Below w.heap.size w W) => And.intro (H0.out.1.keep h) (And.intro (H0.out.2.1.below h) (H0.out.2.2.below h)))
                clear hm hlt HN HA HI HF HLF
                obtain ⟨p0, p1, p2, p3⟩ := row4 N1.out.row
                go_wp2_with (fail)
                refine ((callsIn_wide (n := 20)).1 (names_check p _ _ _ _ (GF.out _ N1.out.below).1 (GF.out _ N1.out.below).2.1 (GF.out _ N1.out.below).2.2)).mono ?_
                rintro r w10 ⟨rfl, hb10⟩
                have N2 := hid (N1.out.keep hb10)
                clear hb10 N1 p0 p1 p2 p3 q0 q1 q2 q3
                obtain ⟨p0, p1, p2, p3⟩ := row4 N2.out.row
                obtain ⟨q0, q1, q2, q3⟩ := row4 N2.out.qrow
                by_cases hE : nmErr p = 1
                · have hB := N2.out.below
                  rw [hE]
                  go_wp2_with (fail)
                  go_ret
                  exact ⟨rfl, hB⟩
                · have hE' : (nmErr p == 1) = false := by simpa using hE
                  have HEQ := hid (nmErr_end HEN.out.1 HSP.out hE)
                  have NQ := hid (fun W h => GP.out W h)
                  have d1 := (callsIn_wide (n := 20)).1 (names_check p _ _ _ _ (GF.out _ (N2.out.keep (Below.refl _ _).drew).below).1 (GF.out _ (N2.out.keep (Below.refl _ _).drew).below).2.1 (GF.out _ (N2.out.keep (Below.refl _ _).drew).below).2.2)
                  have hnn : (nmErr p != nmErr p) = false := by simp
                  clear hE
                  generalize nmErr p = E at *
                  go_wp2_with (fail)
                  refine wp_region_held_drew (S := fun W => W.cell? ⟨w.heap.size, 0, none⟩ = some (.int .i64 p.st) ∧ W.cell? ⟨w.heap.size, 1, none⟩ = some (.slice a0 p.ins.length a1) ∧ W.cell? ⟨w.heap.size, 2, none⟩ = some (.slice b0 p.flows.length b1) ∧ W.cell? ⟨w.heap.size, 3, none⟩ = some (.slice c0 p.outs.length c1) ∧ W.cell? ⟨w9.heap.size, 0, none⟩ = some (.int .i64 p.st) ∧ W.cell? ⟨w9.heap.size, 1, none⟩ = some (.slice (some ⟨ib, 0, none⟩) p.ins.length ic) ∧ W.cell? ⟨w9.heap.size, 2, none⟩ = some (.slice (some ⟨fb, 0, none⟩) p.flows.length fc) ∧ W.cell? ⟨w9.heap.size, 3, none⟩ = some (.slice (some ⟨ob, 0, none⟩) p.outs.length oc)) (by kernel_rfl) ?_ (fun hHeld => ?_)
                  · exact ⟨p0, p1, p2, p3, q0, q1, q2, q3⟩
                  refine wpAnyH_take (i := 0) (oi := { dst := some 142, op := Go.Op.load 26 (Go.Operand.tmp 2), type := 26, pos := _, after := #[], guard := none }) (v := ?_) rfl (by kernel_rfl) (by kernel_rfl) (by kernel_rfl) (fun _ _ _ h => h) (Or.inl ⟨by rfl, ?_⟩) (by assumption) ?_
                  rotate_left
                  · intro w hSw; (try dsimp only at hSw); go_simp <;> first | with_reducible rfl | (rw [if_neg (by first | omega | (simp only [ByteArray.size_append] at *; omega))])
                  simp only [Act.put, List.setIfInBounds_toArray, List.set_cons_zero, List.set_cons_succ]
                  refine wpAnyH_take (i := 2) (oi := { dst := some 144, op := Go.Op.load 26 (Go.Operand.tmp 6), type := 26, pos := _, after := #[], guard := none }) (v := ?_) rfl (by kernel_rfl) (by kernel_rfl) (by kernel_rfl) (fun _ _ _ h => h) (Or.inl ⟨by rfl, ?_⟩) (by assumption) ?_
                  rotate_left
                  · intro w hSw; (try dsimp only at hSw); go_simp <;> first | with_reducible rfl | (rw [if_neg (by first | omega | (simp only [ByteArray.size_append] at *; omega))])
                  simp only [Act.put, List.setIfInBounds_toArray, List.set_cons_zero, List.set_cons_succ]
                  refine wpAnyH_ready (rs := [1]) (by kernel_rfl) (by simp) ?_
                  refine AllReadyH.cons (o := { dst := some 143, op := Go.Op.call { callee := Go.Callee.value (Go.Operand.func 10), args := #[Go.Operand.tmp 142], argTypes := #[26] }, type := 29, pos := _, after := #[{ on := 0, ground := Go.Ground.data }], guard := none }) rfl (fun K hK => ?_) AllReadyH.nil
                  go_simp
                  refine d1.mono ?_
                  rintro r w11 ⟨rfl, hb11⟩
                  have N3 := hid (N2.out.keep ((Below.refl _ _).drew.trans (hb11.mono (by simp))))
                  obtain ⟨t0, t1, t2, t3⟩ := row4 N3.out.row
                  obtain ⟨u0, u1, u2, u3⟩ := row4 N3.out.qrow
                  have d2 := (callsIn_wide (n := 20)).1 (names_check (rnP e p) _ _ _ _ (NQ.out _ N3.out) (GF.out _ N3.out.below).2.1 (GF.out _ N3.out.below).2.2)
                  rw [HEQ.out] at d2
                  clear hb11
                  go_wp2_with fail
                  refine hK.out _ _ ?_ (fun hHeld1 => ?_)
                  · exact ⟨t0, t1, t2, t3, u0, u1, u2, u3⟩
                  clear hK K
                  refine wpAnyH_ready (rs := [3]) (by kernel_rfl) (by simp) ?_
                  refine AllReadyH.cons (o := { dst := some 145, op := Go.Op.call { callee := Go.Callee.value (Go.Operand.func 10), args := #[Go.Operand.tmp 144], argTypes := #[26] }, type := 29, pos := _, after := #[{ on := 2, ground := Go.Ground.data }, { on := 1, ground := Go.Ground.chain }], guard := none }) rfl (fun K hK => ?_) AllReadyH.nil
                  go_simp
                  refine d2.mono ?_
                  rintro r w12 ⟨rfl, hb12⟩
                  have N4 := hid (N3.out.keep hb12)
                  obtain ⟨x0, x1, x2, x3⟩ := row4 N4.out.row
                  obtain ⟨z0, z1, z2, z3⟩ := row4 N4.out.qrow
                  clear hb12 d2
                  go_wp2_with fail
                  refine hK.out _ _ ?_ (fun hHeld2 => ?_)
                  · exact ⟨x0, x1, x2, x3, z0, z1, z2, z3⟩
                  clear hK K
                  refine wpAnyH_take (i := 4) (oi := { dst := some 146, op := Go.Op.binOp Go.BinOp.neq 29 (Go.Operand.tmp 143) (Go.Operand.tmp 145) 29, type := 4, pos := _, after := #[{ on := 1, ground := Go.Ground.data }, { on := 3, ground := Go.Ground.data }], guard := none }) (v := ?_) rfl (by kernel_rfl) (by kernel_rfl) (by kernel_rfl) (fun _ _ _ h => h) (Or.inl ⟨by rfl, ?_⟩) (by assumption) ?_
                  rotate_left
                  · intro w hSw; (try dsimp only at hSw); go_simp <;> first | with_reducible rfl | (rw [if_neg (by first | omega | (simp only [ByteArray.size_append] at *; omega))])
                  simp only [Act.put, List.setIfInBounds_toArray, List.set_cons_zero, List.set_cons_succ]
                  refine wpAnyH_done (by kernel_rfl) ?_ _
                  go_wp2_with (fail)
                  clear p0 p1 p2 p3 q0 q1 q2 q3 t0 t1 t2 t3 u0 u1 u2 u3 x0 x1 x2 x3 z0 z1 z2 z3 d1 N2 N3
                  go_loopw [10] (fun i wr => ∃ m : Nat, m ≤ p.flows.length ∧ i = .int .i64 (m : Int) ∧ Hid (NV w w9 p (.slice a0 p.ins.length a1) (.slice b0 p.flows.length b1) (.slice c0 p.outs.length c1) ib ic fb fc ob oc (fun j => rnH e (ci0 p j)) (fun j => rnF e (cf0 p j)) sl2 lo2 (fun j => co0 p j ++ e) wr)) (fun i _ => p.flows.length - (intOf i).toNat)
                  case atStart => exact ⟨0, Nat.zero_le _, rfl, N4⟩
                  case round =>
                    clear N4 hlt'
                    obtain ⟨m, hm, rfl, HN⟩ := hrel
                    obtain ⟨s0, s1, s2, s3⟩ := row4 HN.out.row
                    obtain ⟨q0, q1, q2, q3⟩ := row4 HN.out.qrow
                    by_cases hlt : m < p.flows.length
                    · have hlt' : (m : Int) < (p.flows.length : Int) := by omega
                      have hm0 : (0 : Int) ≤ (m : Int) := by omega
                      obtain ⟨bb, o, rfl, hcc⟩ := HC2.out.resolve_left (by omega)
                      have HFP := hid (hcc m hlt).1
                      have f0 := cell_kept HFP.out HN.out.below
                      have HGM := hid (fun (W : World) (h : NV w w9 p (.slice a0 p.ins.length a1) (.slice (some ⟨bb, o, none⟩) p.flows.length b1) (.slice c0 p.outs.length c1) ib ic fb fc ob oc (fun j => rnH e (ci0 p j)) (fun j => rnF e (cf0 p j)) sl2 lo2 (fun j => co0 p j ++ e) W) => show W.cell? ⟨fb, m * 8, none⟩ = some (.string (p.flows[m].name ++ e)) by have := (h.flows m hlt).1; rw [cf0_eq p m hlt] at this; exact this)
                      have g0 := HGM.out _ HN.out
                      have c14 := find p p.flows[m].name _ _ _ _ (GF.out _ (HN.out.keep (Below.refl _ _).drew).below).1
                      have c15 := fun (W : World) h => find (rnP e p) (p.flows[m].name ++ e) W _ _ _ (NQ.out W h)
                      simp only [find_end] at c15
                      have HC15 := hid c15
                      obtain ⟨v1, v2, v3, v4, hfo⟩ := foV_form (findT (thingsL p) p.flows[m].name)
                      rw [hfo] at c14 HC15
                      clear hcc c15 hfo
                      generalize p.flows[m].name = y at *
                      go_wp2_with (fail)
                      refine wp_region_held_drew (S := fun W => W.cell? ⟨w.heap.size, 0, none⟩ = some (.int .i64 p.st) ∧ W.cell? ⟨w.heap.size, 1, none⟩ = some (.slice a0 p.ins.length a1) ∧ W.cell? ⟨w.heap.size, 2, none⟩ = some (.slice (some ⟨bb, o, none⟩) p.flows.length b1) ∧ W.cell? ⟨w.heap.size, 3, none⟩ = some (.slice c0 p.outs.length c1) ∧ W.cell? ⟨w9.heap.size, 0, none⟩ = some (.int .i64 p.st) ∧ W.cell? ⟨w9.heap.size, 1, none⟩ = some (.slice (some ⟨ib, 0, none⟩) p.ins.length ic) ∧ W.cell? ⟨w9.heap.size, 2, none⟩ = some (.slice (some ⟨fb, 0, none⟩) p.flows.length fc) ∧ W.cell? ⟨w9.heap.size, 3, none⟩ = some (.slice (some ⟨ob, 0, none⟩) p.outs.length oc) ∧ W.cell? ⟨bb, o + m * 8, none⟩ = some (.string y) ∧ W.cell? ⟨fb, m * 8, none⟩ = some (.string (y ++ e))) (by kernel_rfl) ?_ (fun hHeld => ?_)
                      · exact ⟨s0, s1, s2, s3, q0, q1, q2, q3, f0, g0⟩
                      refine wpAnyH_take (i := 0) (oi := { dst := some 155, op := Go.Op.load 26 (Go.Operand.tmp 2), type := 26, pos := _, after := #[], guard := none }) (v := ?_) rfl (by kernel_rfl) (by kernel_rfl) (by kernel_rfl) (fun _ _ _ h => h) (Or.inl ⟨by rfl, ?_⟩) (by assumption) ?_
                      rotate_left
                      · intro w hSw; (try dsimp only at hSw); go_simp <;> first | with_reducible rfl | (rw [if_neg (by first | omega | (simp only [ByteArray.size_append] at *; omega))])
                      simp only [Act.put, List.setIfInBounds_toArray, List.set_cons_zero, List.set_cons_succ]
                      refine wpAnyH_take (i := 1) (oi := { dst := some 156, op := Go.Op.fieldAddr 26 (Go.Operand.tmp 2) 2, type := 0, pos := _, after := #[], guard := none }) (v := ?_) rfl (by kernel_rfl) (by kernel_rfl) (by kernel_rfl) (fun _ _ _ h => h) (Or.inl ⟨by rfl, ?_⟩) (by assumption) ?_
                      rotate_left
                      · intro w hSw; (try dsimp only at hSw); go_simp <;> first | with_reducible rfl | (rw [if_neg (by first | omega | (simp only [ByteArray.size_append] at *; omega))])
                      simp only [Act.put, List.setIfInBounds_toArray, List.set_cons_zero, List.set_cons_succ]
                      refine wpAnyH_take (i := 2) (oi := { dst := some 157, op := Go.Op.load 23 (Go.Operand.tmp 156), type := 23, pos := _, after := #[{ on := 1, ground := Go.Ground.data }], guard := none }) (v := ?_) rfl (by kernel_rfl) (by kernel_rfl) (by kernel_rfl) (fun _ _ _ h => h) (Or.inl ⟨by rfl, ?_⟩) (by assumption) ?_
                      rotate_left
                      · intro w hSw; (try dsimp only at hSw); go_simp <;> first | with_reducible rfl | (rw [if_neg (by first | omega | (simp only [ByteArray.size_append] at *; omega))])
                      simp only [Act.put, List.setIfInBounds_toArray, List.set_cons_zero, List.set_cons_succ]
                      refine wpAnyH_take (i := 3) (oi := { dst := some 158, op := Go.Op.move (Go.Operand.tmp 10), type := 3, pos := _, after := #[], guard := none }) (v := ?_) rfl (by kernel_rfl) (by kernel_rfl) (by kernel_rfl) (fun _ _ _ h => h) (Or.inl ⟨by rfl, ?_⟩) (by assumption) ?_
                      rotate_left
                      · intro w hSw; (try dsimp only at hSw); go_simp <;> first | with_reducible rfl | (rw [if_neg (by first | omega | (simp only [ByteArray.size_append] at *; omega))])
                      simp only [Act.put, List.setIfInBounds_toArray, List.set_cons_zero, List.set_cons_succ]
                      refine wpAnyH_take (i := 4) (oi := { dst := some 159, op := Go.Op.indexAddr 23 (Go.Operand.tmp 157) (Go.Operand.tmp 158), type := 0, pos := _, after := #[{ on := 2, ground := Go.Ground.data }, { on := 3, ground := Go.Ground.data }], guard := none }) (v := ?_) rfl (by kernel_rfl) (by kernel_rfl) (by kernel_rfl) (fun _ _ _ h => h) (Or.inl ⟨by rfl, ?_⟩) (by assumption) ?_
                      rotate_left
                      · intro w hSw; (try dsimp only at hSw); go_simp <;> first | with_reducible rfl | (rw [if_neg (by first | omega | (simp only [ByteArray.size_append] at *; omega))])
                      simp only [Act.put, List.setIfInBounds_toArray, List.set_cons_zero, List.set_cons_succ]
                      refine wpAnyH_take (i := 5) (oi := { dst := some 160, op := Go.Op.fieldAddr 43 (Go.Operand.tmp 159) 0, type := 0, pos := _, after := #[{ on := 4, ground := Go.Ground.data }], guard := none }) (v := ?_) rfl (by kernel_rfl) (by kernel_rfl) (by kernel_rfl) (fun _ _ _ h => h) (Or.inl ⟨by rfl, ?_⟩) (by assumption) ?_
                      rotate_left
                      · intro w hSw; (try dsimp only at hSw); go_simp <;> first | with_reducible rfl | (rw [if_neg (by first | omega | (simp only [ByteArray.size_append] at *; omega))])
                      simp only [Act.put, List.setIfInBounds_toArray, List.set_cons_zero, List.set_cons_succ]
                      refine wpAnyH_take (i := 6) (oi := { dst := some 161, op := Go.Op.load 9 (Go.Operand.tmp 160), type := 9, pos := _, after := #[{ on := 5, ground := Go.Ground.data }], guard := none }) (v := ?_) rfl (by kernel_rfl) (by kernel_rfl) (by kernel_rfl) (fun _ _ _ h => h) (Or.inl ⟨by rfl, ?_⟩) (by assumption) ?_
                      rotate_left
                      · intro w hSw; (try dsimp only at hSw); go_simp <;> first | with_reducible rfl | (rw [if_neg (by first | omega | (simp only [ByteArray.size_append] at *; omega))])
                      simp only [Act.put, List.setIfInBounds_toArray, List.set_cons_zero, List.set_cons_succ]
                      refine wpAnyH_ready (rs := [7]) (by kernel_rfl) (by simp) ?_
                      refine AllReadyH.cons (o := { dst := some 162, op := Go.Op.call { callee := Go.Callee.value (Go.Operand.func 14), args := #[Go.Operand.tmp 155, Go.Operand.tmp 161], argTypes := #[26, 9] }, type := 34, pos := _, after := #[{ on := 0, ground := Go.Ground.data }, { on := 6, ground := Go.Ground.data }], guard := none }) rfl (fun K hK => ?_) AllReadyH.nil
                      go_simp
                      refine c14.mono ?_
                      rintro r w13 ⟨rfl, hb13⟩
                      have HN' := hid (HN.out.keep ((Below.refl _ _).drew.trans (hb13.mono (by simp))))
                      obtain ⟨t0, t1, t2, t3⟩ := row4 HN'.out.row
                      obtain ⟨u0, u1, u2, u3⟩ := row4 HN'.out.qrow
                      have f1 := cell_kept HFP.out HN'.out.below
                      have g1 := HGM.out _ HN'.out
                      clear hb13
                      go_wp2_with fail
                      refine hK.out _ _ ?_ (fun hHeld1 => ?_)
                      · exact ⟨t0, t1, t2, t3, u0, u1, u2, u3, f1, g1⟩
                      clear hK K
                      refine wpAnyH_take (i := 8) (oi := { dst := some 154, op := Go.Op.move (Go.Operand.tmp 162), type := 34, pos := _, after := #[{ on := 7, ground := Go.Ground.data }], guard := none }) (v := ?_) rfl (by kernel_rfl) (by kernel_rfl) (by kernel_rfl) (fun _ _ _ h => h) (Or.inl ⟨by rfl, ?_⟩) (by assumption) ?_
                      rotate_left
                      · intro w hSw; (try dsimp only at hSw); go_simp <;> first | with_reducible rfl | (rw [if_neg (by first | omega | (simp only [ByteArray.size_append] at *; omega))])
                      simp only [Act.put, List.setIfInBounds_toArray, List.set_cons_zero, List.set_cons_succ]
                      refine wpAnyH_take (i := 9) (oi := { dst := some 163, op := Go.Op.extract (Go.Operand.tmp 154) 0, type := 3, pos := _, after := #[{ on := 8, ground := Go.Ground.data }], guard := none }) (v := ?_) rfl (by kernel_rfl) (by kernel_rfl) (by kernel_rfl) (fun _ _ _ h => h) (Or.inl ⟨by rfl, ?_⟩) (by assumption) ?_
                      rotate_left
                      · intro w hSw; (try dsimp only at hSw); go_simp <;> first | with_reducible rfl | (rw [if_neg (by first | omega | (simp only [ByteArray.size_append] at *; omega))])
                      simp only [Act.put, List.setIfInBounds_toArray, List.set_cons_zero, List.set_cons_succ]
                      refine wpAnyH_take (i := 10) (oi := { dst := some 164, op := Go.Op.extract (Go.Operand.tmp 154) 1, type := 33, pos := _, after := #[{ on := 8, ground := Go.Ground.data }, { on := 13, ground := Go.Ground.gcOnly Go.Departure.lateStores }], guard := none }) (v := ?_) rfl (by kernel_rfl) (by kernel_rfl) (by kernel_rfl) (fun _ _ _ h => h) (Or.inl ⟨by rfl, ?_⟩) (by assumption) ?_
                      rotate_left
                      · intro w hSw; (try dsimp only at hSw); go_simp <;> first | with_reducible rfl | (rw [if_neg (by first | omega | (simp only [ByteArray.size_append] at *; omega))])
                      simp only [Act.put, List.setIfInBounds_toArray, List.set_cons_zero, List.set_cons_succ]
                      refine wpAnyH_take (i := 11) (oi := { dst := some 165, op := Go.Op.extract (Go.Operand.tmp 154) 2, type := 3, pos := _, after := #[{ on := 8, ground := Go.Ground.data }, { on := 14, ground := Go.Ground.gcOnly Go.Departure.lateStores }], guard := none }) (v := ?_) rfl (by kernel_rfl) (by kernel_rfl) (by kernel_rfl) (fun _ _ _ h => h) (Or.inl ⟨by rfl, ?_⟩) (by assumption) ?_
                      rotate_left
                      · intro w hSw; (try dsimp only at hSw); go_simp <;> first | with_reducible rfl | (rw [if_neg (by first | omega | (simp only [ByteArray.size_append] at *; omega))])
                      simp only [Act.put, List.setIfInBounds_toArray, List.set_cons_zero, List.set_cons_succ]
                      refine wpAnyH_take (i := 12) (oi := { dst := some 166, op := Go.Op.extract (Go.Operand.tmp 154) 3, type := 4, pos := _, after := #[{ on := 8, ground := Go.Ground.data }, { on := 15, ground := Go.Ground.gcOnly Go.Departure.lateStores }], guard := none }) (v := ?_) rfl (by kernel_rfl) (by kernel_rfl) (by kernel_rfl) (fun _ _ _ h => h) (Or.inl ⟨by rfl, ?_⟩) (by assumption) ?_
                      rotate_left
                      · intro w hSw; (try dsimp only at hSw); go_simp <;> first | with_reducible rfl | (rw [if_neg (by first | omega | (simp only [ByteArray.size_append] at *; omega))])
                      simp only [Act.put, List.setIfInBounds_toArray, List.set_cons_zero, List.set_cons_succ]
                      refine wpAnyH_take (i := 13) (oi := { dst := some 11, op := Go.Op.assign (Go.Operand.tmp 163), type := 3, pos := _, after := #[{ on := 9, ground := Go.Ground.data }, { on := 7, ground := Go.Ground.chain }, { on := 0, ground := Go.Ground.phase }, { on := 1, ground := Go.Ground.phase }, { on := 2, ground := Go.Ground.phase }, { on := 3, ground := Go.Ground.phase }, { on := 4, ground := Go.Ground.phase }, { on := 5, ground := Go.Ground.phase }, { on := 6, ground := Go.Ground.phase }, { on := 7, ground := Go.Ground.phase }, { on := 8, ground := Go.Ground.phase }, { on := 9, ground := Go.Ground.phase }, { on := 10, ground := Go.Ground.textOnly Go.Departure.lateStores }, { on := 11, ground := Go.Ground.textOnly Go.Departure.lateStores }, { on := 12, ground := Go.Ground.textOnly Go.Departure.lateStores }], guard := none }) (v := ?_) rfl (by kernel_rfl) (by kernel_rfl) (by kernel_rfl) (fun _ _ _ h => h) (Or.inl ⟨by rfl, ?_⟩) (by assumption) ?_
                      rotate_left
                      · intro w hSw; (try dsimp only at hSw); go_simp <;> first | with_reducible rfl | (rw [if_neg (by first | omega | (simp only [ByteArray.size_append] at *; omega))])
                      simp only [Act.put, List.setIfInBounds_toArray, List.set_cons_zero, List.set_cons_succ]
                      refine wpAnyH_take (i := 14) (oi := { dst := some 12, op := Go.Op.assign (Go.Operand.tmp 164), type := 33, pos := _, after := #[{ on := 10, ground := Go.Ground.data }, { on := 13, ground := Go.Ground.chain }, { on := 0, ground := Go.Ground.phase }, { on := 1, ground := Go.Ground.phase }, { on := 2, ground := Go.Ground.phase }, { on := 3, ground := Go.Ground.phase }, { on := 4, ground := Go.Ground.phase }, { on := 5, ground := Go.Ground.phase }, { on := 6, ground := Go.Ground.phase }, { on := 7, ground := Go.Ground.phase }, { on := 8, ground := Go.Ground.phase }, { on := 9, ground := Go.Ground.phase }, { on := 10, ground := Go.Ground.phase }, { on := 11, ground := Go.Ground.textOnly Go.Departure.lateStores }, { on := 12, ground := Go.Ground.textOnly Go.Departure.lateStores }, { on := 13, ground := Go.Ground.phase }], guard := none }) (v := ?_) rfl (by kernel_rfl) (by kernel_rfl) (by kernel_rfl) (fun _ _ _ h => h) (Or.inl ⟨by rfl, ?_⟩) (by assumption) ?_
                      rotate_left
                      · intro w hSw; (try dsimp only at hSw); go_simp <;> first | with_reducible rfl | (rw [if_neg (by first | omega | (simp only [ByteArray.size_append] at *; omega))])
                      simp only [Act.put, List.setIfInBounds_toArray, List.set_cons_zero, List.set_cons_succ]
                      refine wpAnyH_take (i := 15) (oi := { dst := some 13, op := Go.Op.assign (Go.Operand.tmp 165), type := 3, pos := _, after := #[{ on := 11, ground := Go.Ground.data }, { on := 14, ground := Go.Ground.chain }, { on := 0, ground := Go.Ground.phase }, { on := 1, ground := Go.Ground.phase }, { on := 2, ground := Go.Ground.phase }, { on := 3, ground := Go.Ground.phase }, { on := 4, ground := Go.Ground.phase }, { on := 5, ground := Go.Ground.phase }, { on := 6, ground := Go.Ground.phase }, { on := 7, ground := Go.Ground.phase }, { on := 8, ground := Go.Ground.phase }, { on := 9, ground := Go.Ground.phase }, { on := 10, ground := Go.Ground.phase }, { on := 11, ground := Go.Ground.phase }, { on := 12, ground := Go.Ground.textOnly Go.Departure.lateStores }, { on := 13, ground := Go.Ground.phase }, { on := 14, ground := Go.Ground.phase }], guard := none }) (v := ?_) rfl (by kernel_rfl) (by kernel_rfl) (by kernel_rfl) (fun _ _ _ h => h) (Or.inl ⟨by rfl, ?_⟩) (by assumption) ?_
                      rotate_left
                      · intro w hSw; (try dsimp only at hSw); go_simp <;> first | with_reducible rfl | (rw [if_neg (by first | omega | (simp only [ByteArray.size_append] at *; omega))])
                      simp only [Act.put, List.setIfInBounds_toArray, List.set_cons_zero, List.set_cons_succ]
                      refine wpAnyH_take (i := 16) (oi := { dst := some 14, op := Go.Op.assign (Go.Operand.tmp 166), type := 4, pos := _, after := #[{ on := 12, ground := Go.Ground.data }, { on := 15, ground := Go.Ground.chain }, { on := 0, ground := Go.Ground.phase }, { on := 1, ground := Go.Ground.phase }, { on := 2, ground := Go.Ground.phase }, { on := 3, ground := Go.Ground.phase }, { on := 4, ground := Go.Ground.phase }, { on := 5, ground := Go.Ground.phase }, { on := 6, ground := Go.Ground.phase }, { on := 7, ground := Go.Ground.phase }, { on := 8, ground := Go.Ground.phase }, { on := 9, ground := Go.Ground.phase }, { on := 10, ground := Go.Ground.phase }, { on := 11, ground := Go.Ground.phase }, { on := 12, ground := Go.Ground.phase }, { on := 13, ground := Go.Ground.phase }, { on := 14, ground := Go.Ground.phase }, { on := 15, ground := Go.Ground.phase }], guard := none }) (v := ?_) rfl (by kernel_rfl) (by kernel_rfl) (by kernel_rfl) (fun _ _ _ h => h) (Or.inl ⟨by rfl, ?_⟩) (by assumption) ?_
                      rotate_left
                      · intro w hSw; (try dsimp only at hSw); go_simp <;> first | with_reducible rfl | (rw [if_neg (by first | omega | (simp only [ByteArray.size_append] at *; omega))])
                      simp only [Act.put, List.setIfInBounds_toArray, List.set_cons_zero, List.set_cons_succ]
                      refine wpAnyH_done (by kernel_rfl) ?_ _
                      have c15 := HC15.out _ (HN'.out.keep (Below.refl _ _).drew)
                      go_wp2_with (fail)
                      refine wp_region_held_drew (S := fun W => W.cell? ⟨w.heap.size, 0, none⟩ = some (.int .i64 p.st) ∧ W.cell? ⟨w.heap.size, 1, none⟩ = some (.slice a0 p.ins.length a1) ∧ W.cell? ⟨w.heap.size, 2, none⟩ = some (.slice (some ⟨bb, o, none⟩) p.flows.length b1) ∧ W.cell? ⟨w.heap.size, 3, none⟩ = some (.slice c0 p.outs.length c1) ∧ W.cell? ⟨w9.heap.size, 0, none⟩ = some (.int .i64 p.st) ∧ W.cell? ⟨w9.heap.size, 1, none⟩ = some (.slice (some ⟨ib, 0, none⟩) p.ins.length ic) ∧ W.cell? ⟨w9.heap.size, 2, none⟩ = some (.slice (some ⟨fb, 0, none⟩) p.flows.length fc) ∧ W.cell? ⟨w9.heap.size, 3, none⟩ = some (.slice (some ⟨ob, 0, none⟩) p.outs.length oc) ∧ W.cell? ⟨bb, o + m * 8, none⟩ = some (.string y) ∧ W.cell? ⟨fb, m * 8, none⟩ = some (.string (y ++ e))) (by kernel_rfl) ?_ (fun hHeld => ?_)
                      · exact ⟨t0, t1, t2, t3, u0, u1, u2, u3, f1, g1⟩
                      refine wpAnyH_take (i := 0) (oi := { dst := some 168, op := Go.Op.load 26 (Go.Operand.tmp 6), type := 26, pos := _, after := #[], guard := none }) (v := ?_) rfl (by kernel_rfl) (by kernel_rfl) (by kernel_rfl) (fun _ _ _ h => h) (Or.inl ⟨by rfl, ?_⟩) (by assumption) ?_
                      rotate_left
                      · intro w hSw; (try dsimp only at hSw); go_simp <;> first | with_reducible rfl | (rw [if_neg (by first | omega | (simp only [ByteArray.size_append] at *; omega))])
                      simp only [Act.put, List.setIfInBounds_toArray, List.set_cons_zero, List.set_cons_succ]
                      refine wpAnyH_take (i := 1) (oi := { dst := some 169, op := Go.Op.fieldAddr 26 (Go.Operand.tmp 6) 2, type := 0, pos := _, after := #[], guard := none }) (v := ?_) rfl (by kernel_rfl) (by kernel_rfl) (by kernel_rfl) (fun _ _ _ h => h) (Or.inl ⟨by rfl, ?_⟩) (by assumption) ?_
                      rotate_left
                      · intro w hSw; (try dsimp only at hSw); go_simp <;> first | with_reducible rfl | (rw [if_neg (by first | omega | (simp only [ByteArray.size_append] at *; omega))])
                      simp only [Act.put, List.setIfInBounds_toArray, List.set_cons_zero, List.set_cons_succ]
                      refine wpAnyH_take (i := 2) (oi := { dst := some 170, op := Go.Op.load 23 (Go.Operand.tmp 169), type := 23, pos := _, after := #[{ on := 1, ground := Go.Ground.data }], guard := none }) (v := ?_) rfl (by kernel_rfl) (by kernel_rfl) (by kernel_rfl) (fun _ _ _ h => h) (Or.inl ⟨by rfl, ?_⟩) (by assumption) ?_
                      rotate_left
                      · intro w hSw; (try dsimp only at hSw); go_simp <;> first | with_reducible rfl | (rw [if_neg (by first | omega | (simp only [ByteArray.size_append] at *; omega))])
                      simp only [Act.put, List.setIfInBounds_toArray, List.set_cons_zero, List.set_cons_succ]
                      refine wpAnyH_take (i := 3) (oi := { dst := some 171, op := Go.Op.move (Go.Operand.tmp 10), type := 3, pos := _, after := #[], guard := none }) (v := ?_) rfl (by kernel_rfl) (by kernel_rfl) (by kernel_rfl) (fun _ _ _ h => h) (Or.inl ⟨by rfl, ?_⟩) (by assumption) ?_
                      rotate_left
                      · intro w hSw; (try dsimp only at hSw); go_simp <;> first | with_reducible rfl | (rw [if_neg (by first | omega | (simp only [ByteArray.size_append] at *; omega))])
                      simp only [Act.put, List.setIfInBounds_toArray, List.set_cons_zero, List.set_cons_succ]
                      refine wpAnyH_take (i := 4) (oi := { dst := some 172, op := Go.Op.indexAddr 23 (Go.Operand.tmp 170) (Go.Operand.tmp 171), type := 0, pos := _, after := #[{ on := 2, ground := Go.Ground.data }, { on := 3, ground := Go.Ground.data }], guard := none }) (v := ?_) rfl (by kernel_rfl) (by kernel_rfl) (by kernel_rfl) (fun _ _ _ h => h) (Or.inl ⟨by rfl, ?_⟩) (by assumption) ?_
                      rotate_left
                      · intro w hSw; (try dsimp only at hSw); go_simp <;> first | with_reducible rfl | (rw [if_neg (by first | omega | (simp only [ByteArray.size_append] at *; omega))])
                      simp only [Act.put, List.setIfInBounds_toArray, List.set_cons_zero, List.set_cons_succ]
                      refine wpAnyH_take (i := 5) (oi := { dst := some 173, op := Go.Op.fieldAddr 43 (Go.Operand.tmp 172) 0, type := 0, pos := _, after := #[{ on := 4, ground := Go.Ground.data }], guard := none }) (v := ?_) rfl (by kernel_rfl) (by kernel_rfl) (by kernel_rfl) (fun _ _ _ h => h) (Or.inl ⟨by rfl, ?_⟩) (by assumption) ?_
                      rotate_left
                      · intro w hSw; (try dsimp only at hSw); go_simp <;> first | with_reducible rfl | (rw [if_neg (by first | omega | (simp only [ByteArray.size_append] at *; omega))])
                      simp only [Act.put, List.setIfInBounds_toArray, List.set_cons_zero, List.set_cons_succ]
                      refine wpAnyH_take (i := 6) (oi := { dst := some 174, op := Go.Op.load 9 (Go.Operand.tmp 173), type := 9, pos := _, after := #[{ on := 5, ground := Go.Ground.data }], guard := none }) (v := ?_) rfl (by kernel_rfl) (by kernel_rfl) (by kernel_rfl) (fun _ _ _ h => h) (Or.inl ⟨by rfl, ?_⟩) (by assumption) ?_
                      rotate_left
                      · intro w hSw; (try dsimp only at hSw); go_simp <;> first | with_reducible rfl | (rw [if_neg (by first | omega | (simp only [ByteArray.size_append] at *; omega))])
                      simp only [Act.put, List.setIfInBounds_toArray, List.set_cons_zero, List.set_cons_succ]
                      refine wpAnyH_ready (rs := [7]) (by kernel_rfl) (by simp) ?_
                      refine AllReadyH.cons (o := { dst := some 175, op := Go.Op.call { callee := Go.Callee.value (Go.Operand.func 14), args := #[Go.Operand.tmp 168, Go.Operand.tmp 174], argTypes := #[26, 9] }, type := 34, pos := _, after := #[{ on := 0, ground := Go.Ground.data }, { on := 6, ground := Go.Ground.data }], guard := none }) rfl (fun K hK => ?_) AllReadyH.nil
                      go_simp
                      refine c15.mono ?_
                      rintro r w14 ⟨rfl, hb14⟩
                      have HN'' := hid (HN'.out.keep ((Below.refl _ _).drew.trans (hb14.mono (by simp))))
                      obtain ⟨x0, x1, x2, x3⟩ := row4 HN''.out.row
                      obtain ⟨z0, z1, z2, z3⟩ := row4 HN''.out.qrow
                      have f2 := cell_kept HFP.out HN''.out.below
                      have g2 := HGM.out _ HN''.out
                      clear hb14
                      go_wp2_with fail
                      refine hK.out _ _ ?_ (fun hHeld1 => ?_)
                      · exact ⟨x0, x1, x2, x3, z0, z1, z2, z3, f2, g2⟩
                      clear hK K
                      refine wpAnyH_take (i := 8) (oi := { dst := some 167, op := Go.Op.move (Go.Operand.tmp 175), type := 34, pos := _, after := #[{ on := 7, ground := Go.Ground.data }], guard := none }) (v := ?_) rfl (by kernel_rfl) (by kernel_rfl) (by kernel_rfl) (fun _ _ _ h => h) (Or.inl ⟨by rfl, ?_⟩) (by assumption) ?_
                      rotate_left
                      · intro w hSw; (try dsimp only at hSw); go_simp <;> first | with_reducible rfl | (rw [if_neg (by first | omega | (simp only [ByteArray.size_append] at *; omega))])
                      simp only [Act.put, List.setIfInBounds_toArray, List.set_cons_zero, List.set_cons_succ]
                      refine wpAnyH_take (i := 9) (oi := { dst := some 176, op := Go.Op.extract (Go.Operand.tmp 167) 0, type := 3, pos := _, after := #[{ on := 8, ground := Go.Ground.data }], guard := none }) (v := ?_) rfl (by kernel_rfl) (by kernel_rfl) (by kernel_rfl) (fun _ _ _ h => h) (Or.inl ⟨by rfl, ?_⟩) (by assumption) ?_
                      rotate_left
                      · intro w hSw; (try dsimp only at hSw); go_simp <;> first | with_reducible rfl | (rw [if_neg (by first | omega | (simp only [ByteArray.size_append] at *; omega))])
                      simp only [Act.put, List.setIfInBounds_toArray, List.set_cons_zero, List.set_cons_succ]
                      refine wpAnyH_take (i := 10) (oi := { dst := some 177, op := Go.Op.extract (Go.Operand.tmp 167) 1, type := 33, pos := _, after := #[{ on := 8, ground := Go.Ground.data }, { on := 13, ground := Go.Ground.gcOnly Go.Departure.lateStores }], guard := none }) (v := ?_) rfl (by kernel_rfl) (by kernel_rfl) (by kernel_rfl) (fun _ _ _ h => h) (Or.inl ⟨by rfl, ?_⟩) (by assumption) ?_
                      rotate_left
                      · intro w hSw; (try dsimp only at hSw); go_simp <;> first | with_reducible rfl | (rw [if_neg (by first | omega | (simp only [ByteArray.size_append] at *; omega))])
                      simp only [Act.put, List.setIfInBounds_toArray, List.set_cons_zero, List.set_cons_succ]
                      refine wpAnyH_take (i := 11) (oi := { dst := some 178, op := Go.Op.extract (Go.Operand.tmp 167) 2, type := 3, pos := _, after := #[{ on := 8, ground := Go.Ground.data }, { on := 14, ground := Go.Ground.gcOnly Go.Departure.lateStores }], guard := none }) (v := ?_) rfl (by kernel_rfl) (by kernel_rfl) (by kernel_rfl) (fun _ _ _ h => h) (Or.inl ⟨by rfl, ?_⟩) (by assumption) ?_
                      rotate_left
                      · intro w hSw; (try dsimp only at hSw); go_simp <;> first | with_reducible rfl | (rw [if_neg (by first | omega | (simp only [ByteArray.size_append] at *; omega))])
                      simp only [Act.put, List.setIfInBounds_toArray, List.set_cons_zero, List.set_cons_succ]
                      refine wpAnyH_take (i := 12) (oi := { dst := some 179, op := Go.Op.extract (Go.Operand.tmp 167) 3, type := 4, pos := _, after := #[{ on := 8, ground := Go.Ground.data }, { on := 15, ground := Go.Ground.gcOnly Go.Departure.lateStores }], guard := none }) (v := ?_) rfl (by kernel_rfl) (by kernel_rfl) (by kernel_rfl) (fun _ _ _ h => h) (Or.inl ⟨by rfl, ?_⟩) (by assumption) ?_
                      rotate_left
                      · intro w hSw; (try dsimp only at hSw); go_simp <;> first | with_reducible rfl | (rw [if_neg (by first | omega | (simp only [ByteArray.size_append] at *; omega))])
                      simp only [Act.put, List.setIfInBounds_toArray, List.set_cons_zero, List.set_cons_succ]
                      refine wpAnyH_take (i := 13) (oi := { dst := some 15, op := Go.Op.assign (Go.Operand.tmp 176), type := 3, pos := _, after := #[{ on := 9, ground := Go.Ground.data }, { on := 7, ground := Go.Ground.chain }, { on := 0, ground := Go.Ground.phase }, { on := 1, ground := Go.Ground.phase }, { on := 2, ground := Go.Ground.phase }, { on := 3, ground := Go.Ground.phase }, { on := 4, ground := Go.Ground.phase }, { on := 5, ground := Go.Ground.phase }, { on := 6, ground := Go.Ground.phase }, { on := 7, ground := Go.Ground.phase }, { on := 8, ground := Go.Ground.phase }, { on := 9, ground := Go.Ground.phase }, { on := 10, ground := Go.Ground.textOnly Go.Departure.lateStores }, { on := 11, ground := Go.Ground.textOnly Go.Departure.lateStores }, { on := 12, ground := Go.Ground.textOnly Go.Departure.lateStores }], guard := none }) (v := ?_) rfl (by kernel_rfl) (by kernel_rfl) (by kernel_rfl) (fun _ _ _ h => h) (Or.inl ⟨by rfl, ?_⟩) (by assumption) ?_
                      rotate_left
                      · intro w hSw; (try dsimp only at hSw); go_simp <;> first | with_reducible rfl | (rw [if_neg (by first | omega | (simp only [ByteArray.size_append] at *; omega))])
                      simp only [Act.put, List.setIfInBounds_toArray, List.set_cons_zero, List.set_cons_succ]
                      refine wpAnyH_take (i := 14) (oi := { dst := some 16, op := Go.Op.assign (Go.Operand.tmp 177), type := 33, pos := _, after := #[{ on := 10, ground := Go.Ground.data }, { on := 13, ground := Go.Ground.chain }, { on := 0, ground := Go.Ground.phase }, { on := 1, ground := Go.Ground.phase }, { on := 2, ground := Go.Ground.phase }, { on := 3, ground := Go.Ground.phase }, { on := 4, ground := Go.Ground.phase }, { on := 5, ground := Go.Ground.phase }, { on := 6, ground := Go.Ground.phase }, { on := 7, ground := Go.Ground.phase }, { on := 8, ground := Go.Ground.phase }, { on := 9, ground := Go.Ground.phase }, { on := 10, ground := Go.Ground.phase }, { on := 11, ground := Go.Ground.textOnly Go.Departure.lateStores }, { on := 12, ground := Go.Ground.textOnly Go.Departure.lateStores }, { on := 13, ground := Go.Ground.phase }], guard := none }) (v := ?_) rfl (by kernel_rfl) (by kernel_rfl) (by kernel_rfl) (fun _ _ _ h => h) (Or.inl ⟨by rfl, ?_⟩) (by assumption) ?_
                      rotate_left
                      · intro w hSw; (try dsimp only at hSw); go_simp <;> first | with_reducible rfl | (rw [if_neg (by first | omega | (simp only [ByteArray.size_append] at *; omega))])
                      simp only [Act.put, List.setIfInBounds_toArray, List.set_cons_zero, List.set_cons_succ]
                      refine wpAnyH_take (i := 15) (oi := { dst := some 17, op := Go.Op.assign (Go.Operand.tmp 178), type := 3, pos := _, after := #[{ on := 11, ground := Go.Ground.data }, { on := 14, ground := Go.Ground.chain }, { on := 0, ground := Go.Ground.phase }, { on := 1, ground := Go.Ground.phase }, { on := 2, ground := Go.Ground.phase }, { on := 3, ground := Go.Ground.phase }, { on := 4, ground := Go.Ground.phase }, { on := 5, ground := Go.Ground.phase }, { on := 6, ground := Go.Ground.phase }, { on := 7, ground := Go.Ground.phase }, { on := 8, ground := Go.Ground.phase }, { on := 9, ground := Go.Ground.phase }, { on := 10, ground := Go.Ground.phase }, { on := 11, ground := Go.Ground.phase }, { on := 12, ground := Go.Ground.textOnly Go.Departure.lateStores }, { on := 13, ground := Go.Ground.phase }, { on := 14, ground := Go.Ground.phase }], guard := none }) (v := ?_) rfl (by kernel_rfl) (by kernel_rfl) (by kernel_rfl) (fun _ _ _ h => h) (Or.inl ⟨by rfl, ?_⟩) (by assumption) ?_
                      rotate_left
                      · intro w hSw; (try dsimp only at hSw); go_simp <;> first | with_reducible rfl | (rw [if_neg (by first | omega | (simp only [ByteArray.size_append] at *; omega))])
                      simp only [Act.put, List.setIfInBounds_toArray, List.set_cons_zero, List.set_cons_succ]
                      refine wpAnyH_take (i := 16) (oi := { dst := some 18, op := Go.Op.assign (Go.Operand.tmp 179), type := 4, pos := _, after := #[{ on := 12, ground := Go.Ground.data }, { on := 15, ground := Go.Ground.chain }, { on := 0, ground := Go.Ground.phase }, { on := 1, ground := Go.Ground.phase }, { on := 2, ground := Go.Ground.phase }, { on := 3, ground := Go.Ground.phase }, { on := 4, ground := Go.Ground.phase }, { on := 5, ground := Go.Ground.phase }, { on := 6, ground := Go.Ground.phase }, { on := 7, ground := Go.Ground.phase }, { on := 8, ground := Go.Ground.phase }, { on := 9, ground := Go.Ground.phase }, { on := 10, ground := Go.Ground.phase }, { on := 11, ground := Go.Ground.phase }, { on := 12, ground := Go.Ground.phase }, { on := 13, ground := Go.Ground.phase }, { on := 14, ground := Go.Ground.phase }, { on := 15, ground := Go.Ground.phase }], guard := none }) (v := ?_) rfl (by kernel_rfl) (by kernel_rfl) (by kernel_rfl) (fun _ _ _ h => h) (Or.inl ⟨by rfl, ?_⟩) (by assumption) ?_
                      rotate_left
                      · intro w hSw; (try dsimp only at hSw); go_simp <;> first | with_reducible rfl | (rw [if_neg (by first | omega | (simp only [ByteArray.size_append] at *; omega))])
                      simp only [Act.put, List.setIfInBounds_toArray, List.set_cons_zero, List.set_cons_succ]
                      refine wpAnyH_done (by kernel_rfl) ?_ _
                      have hne1 : (v1 != v1) = false := by simp
                      have hne2 : (v2 != v2) = false := by simp
                      have hne3 : (v3 != v3) = false := by simp
                      have hne4 : (v4 != v4) = false := by simp
                      go_wp2_with (fail)
                      go_roundw
                      case rel => exact ⟨m + 1, by omega, by go_num, HN''⟩
                      case measure => simp [intOf]; omega
                    · have hlt' : ¬ (m : Int) < (p.flows.length : Int) := by omega
                      have hB := HN.out.below
                      go_wp2_with (fail)
                      go_ret
                      exact ⟨rfl, hB⟩
theorem nat_c {n : Int} (h : (Lit.int .u8 n).wf = true) : ∃ k : Nat, k < 256 ∧ n = (k : Int) := by
  simp [Lit.wf, IntKind.min, IntKind.max, IntKind.signed, IntKind.bits] at h
  exact ⟨n.toNat, by omega, by omega⟩
end Go.Proofs.YtilpoiihoikhlaaDoor.Lex
